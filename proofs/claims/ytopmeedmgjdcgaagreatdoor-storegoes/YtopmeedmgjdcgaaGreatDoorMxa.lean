/- Texts that the proof leans on, one behind the other: Plain mathematics of SHA-256 over words of 32 bits (BitVec 32) and bytes (BitVec 8); no program is named here. Numbers, texts and lists as bytes, each in one way: plain lists, no program is named here. The walks of the turns: blazonref01.turn, sha.turned and bits.RotateLeft32 answer the word turned to the right, and leave the world as it is. .. -/
import Derived.WalkKit
import Derived.Test.YtopmeedmgjdcgaaGreatDoorChecked
import Derived.WalkSpells
import Derived.WalkLawsBesides
import Derived.Deep.MidRow
import Derived.Deep.Draws
import Derived.Deep.RegionHeld3
import Derived.Deep.QuietTactic
import Derived.BigQuiet
import Derived.Laws.CopyOwn
import Derived.StillTailTactics
import Derived.Deep.Quiet
import Derived.BigCall
import Derived.Deep.RegionLaw
import Derived.Laws.AppendOwnNone
import Derived.Deep.RegionWith
import Derived.Lib.ConvBytes
import Derived.Deep.RegionHeld
import Derived.Laws.ResultCell
import Derived.Laws.Tables
import Derived.Laws.CopyRow
import Derived.Laws.MakeOwn
import Derived.Laws.IdiomCopy
import Derived.Great.BuildSlice
/- Plain mathematics of SHA-256 over words of 32 bits (BitVec 32) and bytes (BitVec 8); no program is named here. -/
namespace Go.Proofs.YtopmeedmgjdcgaaGreatDoor
open Go.RowKit
set_option maxRecDepth 100000

/-- a word turned by n places to the right -/
def rr (x : BitVec 32) (n : Nat) : BitVec 32 := x >>> n ||| x <<< (32 - n)
def cw (l : List (BitVec 32)) : List Value := l.map fun x => Value.int .u32 (x.toNat : Int)
def cb (l : List (BitVec 8)) : List Value := l.map fun x => Value.int .u8 (x.toNat : Int)
def wordAt (b : List (BitVec 8)) (t : Nat) : BitVec 32 :=
  (b.getD (4 * t) 0).setWidth 32 <<< 24 ||| (b.getD (4 * t + 1) 0).setWidth 32 <<< 16 ||| (b.getD (4 * t + 2) 0).setWidth 32 <<< 8 ||| (b.getD (4 * t + 3) 0).setWidth 32
def sig0 (x : BitVec 32) : BitVec 32 := rr x 7 ^^^ rr x 18 ^^^ x >>> 3
def sig1 (x : BitVec 32) : BitVec 32 := rr x 17 ^^^ rr x 19 ^^^ x >>> 10
def sched1 (b : List (BitVec 8)) : Nat → List (BitVec 32)
  | 0 => List.replicate 64 0
  | k + 1 => (sched1 b k).set k (wordAt b k)
def sched2 (b : List (BitVec 8)) : Nat → List (BitVec 32)
  | 0 => sched1 b 16
  | k + 1 => (sched2 b k).set (k + 16) ((sched2 b k).getD k 0 + sig0 ((sched2 b k).getD (k + 1) 0) + (sched2 b k).getD (k + 9) 0 + sig1 ((sched2 b k).getD (k + 14) 0))

def z8 : List (BitVec 32) := List.replicate 8 0
def z64 : List (BitVec 32) := List.replicate 64 0
def zb32 : List (BitVec 8) := List.replicate 32 0
/-- the words of the rounds -/
def kw : List (BitVec 32) := [1116352408, 1899447441, 3049323471, 3921009573, 961987163, 1508970993, 2453635748, 2870763221, 3624381080, 310598401, 607225278, 1426881987, 1925078388, 2162078206, 2614888103, 3248222580, 3835390401, 4022224774, 264347078, 604807628, 770255983, 1249150122, 1555081692, 1996064986, 2554220882, 2821834349, 2952996808, 3210313671, 3336571891, 3584528711, 113926993, 338241895, 666307205, 773529912, 1294757372, 1396182291, 1695183700, 1986661051, 2177026350, 2456956037, 2730485921, 2820302411, 3259730800, 3345764771, 3516065817, 3600352804, 4094571909, 275423344, 430227734, 506948616, 659060556, 883997877, 958139571, 1322822218, 1537002063, 1747873779, 1955562222, 2024104815, 2227730452, 2361852424, 2428436474, 2756734187, 3204031479, 3329325298]
/-- eight words -/
structure St where
  a : BitVec 32
  b : BitVec 32
  c : BitVec 32
  d : BitVec 32
  e : BitVec 32
  f : BitVec 32
  g : BitVec 32
  h : BitVec 32
def St.l (s : St) : List (BitVec 32) := [s.a, s.b, s.c, s.d, s.e, s.f, s.g, s.h]
def st0 : St := ⟨1779033703, 3144134277, 1013904242, 2773480762, 1359893119, 2600822924, 528734635, 1541459225⟩
def big1 (x : BitVec 32) : BitVec 32 := rr x 6 ^^^ rr x 11 ^^^ rr x 25
def big0 (x : BitVec 32) : BitVec 32 := rr x 2 ^^^ rr x 13 ^^^ rr x 22
def cho (e f g : BitVec 32) : BitVec 32 := (e &&& f) ^^^ (~~~e &&& g)
def maj (a b c : BitVec 32) : BitVec 32 := (a &&& b) ^^^ (a &&& c) ^^^ (b &&& c)
/-- one round, with its word k and the block's word w -/
def rnd (s : St) (k w : BitVec 32) : St :=
  ⟨s.h + big1 s.e + cho s.e s.f s.g + k + w + (big0 s.a + maj s.a s.b s.c), s.a, s.b, s.c, s.d + (s.h + big1 s.e + cho s.e s.f s.g + k + w), s.e, s.f, s.g⟩
def rounds (ws : List (BitVec 32)) (s : St) : Nat → St
  | 0 => s
  | n + 1 => rnd (rounds ws s n) (kw.getD n 0) (ws.getD n 0)
def St.plus (s t : St) : St := ⟨s.a + t.a, s.b + t.b, s.c + t.c, s.d + t.d, s.e + t.e, s.f + t.f, s.g + t.g, s.h + t.h⟩
/-- the eight words behind one block more -/
def compress (s : St) (b : List (BitVec 8)) : St := s.plus (rounds (sched2 b 48) s 64)
theorem ofInt_toNat32 (x : BitVec 32) : BitVec.ofInt 32 (x.toNat : Int) = x := by
  apply BitVec.eq_of_toNat_eq; simp
theorem wrap_lt32 (x : BitVec 32) : IntKind.u32.wrap (x.toNat : Int) = (x.toNat : Int) := by
  have := x.isLt
  simp [IntKind.wrap, IntKind.bits, IntKind.signed]; omega
theorem u32_or (x y : BitVec 32) : bits .or .u32 (x.toNat : Int) (y.toNat : Int) = ((x ||| y).toNat : Int) := by
  show IntKind.u32.wrap ((BitVec.ofInt 32 (x.toNat : Int) ||| BitVec.ofInt 32 (y.toNat : Int)).toNat : Int) = _
  rw [ofInt_toNat32, ofInt_toNat32, wrap_lt32]
theorem u32_xor (x y : BitVec 32) : bits .xor .u32 (x.toNat : Int) (y.toNat : Int) = ((x ^^^ y).toNat : Int) := by
  show IntKind.u32.wrap ((BitVec.ofInt 32 (x.toNat : Int) ^^^ BitVec.ofInt 32 (y.toNat : Int)).toNat : Int) = _
  rw [ofInt_toNat32, ofInt_toNat32, wrap_lt32]
theorem u32_and (x y : BitVec 32) : bits .and .u32 (x.toNat : Int) (y.toNat : Int) = ((x &&& y).toNat : Int) := by
  show IntKind.u32.wrap ((BitVec.ofInt 32 (x.toNat : Int) &&& BitVec.ofInt 32 (y.toNat : Int)).toNat : Int) = _
  rw [ofInt_toNat32, ofInt_toNat32, wrap_lt32]
theorem u32_add (x y : BitVec 32) : ((x.toNat : Int) + (y.toNat : Int)) % 4294967296 = ((x + y).toNat : Int) := by
  simp [BitVec.toNat_add]
theorem u32_shr (x : BitVec 32) (n : Nat) : (x.toNat : Int) / 2 ^ n = ((x >>> n).toNat : Int) := by
  simp [BitVec.toNat_ushiftRight, Nat.shiftRight_eq_div_pow]
theorem u32_shl (x : BitVec 32) (n : Nat) : (x.toNat : Int) * 2 ^ n % 4294967296 = ((x <<< n).toNat : Int) := by
  simp [BitVec.toNat_shiftLeft, Nat.shiftLeft_eq]
theorem u32_add4 (x y z u : BitVec 32) : ((x.toNat : Int) + (y.toNat : Int) + (z.toNat : Int) + (u.toNat : Int)) % 4294967296 = ((x + y + z + u).toNat : Int) := by
  simp [BitVec.toNat_add]
theorem sig0_eq (x : BitVec 32) : bits .xor .u32 (bits .xor .u32 ((rr x 7).toNat : Int) ((rr x 18).toNat : Int)) ((x.toNat : Int) / 8) = ((sig0 x).toNat : Int) := by
  rw [show ((x.toNat : Int) / (8 : Int)) = ((x >>> 3).toNat : Int) from u32_shr x 3, u32_xor, u32_xor]; rfl
theorem sig1_eq (x : BitVec 32) : bits .xor .u32 (bits .xor .u32 ((rr x 17).toNat : Int) ((rr x 19).toNat : Int)) ((x.toNat : Int) / 1024) = ((sig1 x).toNat : Int) := by
  rw [show ((x.toNat : Int) / (1024 : Int)) = ((x >>> 10).toNat : Int) from u32_shr x 10, u32_xor, u32_xor]; rfl
theorem byte_word (b : BitVec 8) : (b.toNat : Int) = ((b.setWidth 32).toNat : Int) := by
  have := b.isLt
  simp [BitVec.toNat_setWidth]; omega
theorem big1_eq (e : BitVec 32) : bits .xor .u32 (bits .xor .u32 ((rr e 6).toNat : Int) ((rr e 11).toNat : Int)) ((rr e 25).toNat : Int) = ((big1 e).toNat : Int) := by rw [u32_xor, u32_xor]; rfl
theorem big0_eq (a : BitVec 32) : bits .xor .u32 (bits .xor .u32 ((rr a 2).toNat : Int) ((rr a 13).toNat : Int)) ((rr a 22).toNat : Int) = ((big0 a).toNat : Int) := by rw [u32_xor, u32_xor]; rfl
theorem not_own (x : BitVec 32) : bits .xor .u32 (if IntKind.u32.signed = true then -1 else IntKind.u32.max) (x.toNat : Int) = ((~~~x).toNat : Int) := by
  have := u32_xor (BitVec.allOnes 32) x
  rw [BitVec.allOnes_xor] at this
  rw [← this]; rfl
theorem cho_own (e f g : BitVec 32) : bits .xor .u32 (bits .and .u32 (e.toNat : Int) (f.toNat : Int)) (bits .and .u32 (bits .xor .u32 (if IntKind.u32.signed = true then -1 else IntKind.u32.max) (e.toNat : Int)) (g.toNat : Int)) = ((cho e f g).toNat : Int) := by
  rw [not_own, u32_and, u32_and, u32_xor]; rfl
theorem maj_eq (a b c : BitVec 32) : bits .xor .u32 (bits .xor .u32 (bits .and .u32 (a.toNat : Int) (b.toNat : Int)) (bits .and .u32 (a.toNat : Int) (c.toNat : Int))) (bits .and .u32 (b.toNat : Int) (c.toNat : Int)) = ((maj a b c).toNat : Int) := by
  rw [u32_and, u32_and, u32_and, u32_xor, u32_xor]; rfl
theorem sum_a (h p q y x u v : BitVec 32) : (((h.toNat : Int) + (p.toNat : Int) + (q.toNat : Int) + (y.toNat : Int) + (x.toNat : Int)) % 4294967296 + ((u.toNat : Int) + (v.toNat : Int)) % 4294967296) % 4294967296 = ((h + p + q + y + x + (u + v)).toNat : Int) := by
  simp [BitVec.toNat_add]
theorem sum_e (d h p q y x : BitVec 32) : ((d.toNat : Int) + ((h.toNat : Int) + (p.toNat : Int) + (q.toNat : Int) + (y.toNat : Int) + (x.toNat : Int)) % 4294967296) % 4294967296 = ((d + (h + p + q + y + x)).toNat : Int) := by
  simp [BitVec.toNat_add]
theorem plus_cells (s q : St) : [Value.int .u32 (((s.a.toNat : Int) + (q.a.toNat : Int)) % 4294967296), Value.int .u32 (((s.b.toNat : Int) + (q.b.toNat : Int)) % 4294967296), Value.int .u32 (((s.c.toNat : Int) + (q.c.toNat : Int)) % 4294967296), Value.int .u32 (((s.d.toNat : Int) + (q.d.toNat : Int)) % 4294967296), Value.int .u32 (((s.e.toNat : Int) + (q.e.toNat : Int)) % 4294967296), Value.int .u32 (((s.f.toNat : Int) + (q.f.toNat : Int)) % 4294967296), Value.int .u32 (((s.g.toNat : Int) + (q.g.toNat : Int)) % 4294967296), Value.int .u32 (((s.h.toNat : Int) + (q.h.toNat : Int)) % 4294967296)] = cw (s.plus q).l := by
  simp only [u32_add]; rfl
theorem compress_eq (s : St) (b : List (BitVec 8)) : compress s b = s.plus (rounds (sched2 b 48) s 64) := rfl
theorem len_z8 : z8.length = 8 := rfl
theorem len_z64 : z64.length = 64 := rfl
theorem len_zb32 : zb32.length = 32 := rfl
end Go.Proofs.YtopmeedmgjdcgaaGreatDoor
/- Numbers, texts and lists as bytes, each in one way: plain lists, no program is named here. -/
namespace Go.Proofs.YtopmeedmgjdcgaaGreatDoor
/-- a number's groups of seven bits, the lowest first -/
def encNum (n : Nat) : List (BitVec 8) := if h : n < 128 then [BitVec.ofNat 8 n] else BitVec.ofNat 8 (n % 128 + 128) :: encNum (n / 128)
termination_by n
decreasing_by omega
theorem encNum_lt {n : Nat} (h : n < 128) : encNum n = [BitVec.ofNat 8 n] := by rw [encNum, dif_pos h]
theorem encNum_ge {n : Nat} (h : ¬ n < 128) : encNum n = BitVec.ofNat 8 (n % 128 + 128) :: encNum (n / 128) := by rw [encNum, dif_neg h]
theorem encNum_pos (n : Nat) : 0 < (encNum n).length := by
  by_cases h : n < 128
  · rw [encNum_lt h]; simp
  · rw [encNum_ge h]; simp
/-- how many groups may still come, which place is the next one's, what was read; the number and what is left -/
def decNum : Nat → Nat → Nat → List (BitVec 8) → Option (Nat × List (BitVec 8))
  | 0, _, _, _ => none
  | _ + 1, _, _, [] => none
  | k + 1, i, acc, c :: r =>
    if (i = 9 ∧ 1 < c.toNat) ∨ (0 < i ∧ c.toNat = 0) then none
    else if c.toNat < 128 then some (acc + c.toNat % 128 * 2 ^ (7 * i), r) else decNum k (i + 1) (acc + c.toNat % 128 * 2 ^ (7 * i)) r
def readNum (b : List (BitVec 8)) : Option (Nat × List (BitVec 8)) := decNum 10 0 0 b
def encText (t : List (BitVec 8)) : List (BitVec 8) := encNum t.length ++ t
def readText (b : List (BitVec 8)) : Option (List (BitVec 8) × List (BitVec 8)) :=
  match readNum b with
  | none => none
  | some (n, r) => if n ≤ 1048576 ∧ n ≤ r.length then some (r.take n, r.drop n) else none
/-- a list of things, each written by f, one behind the other -/
def encAll {α : Type} (f : α → List (BitVec 8)) (l : List α) : List (BitVec 8) := (l.map f).flatten
theorem encAll_cons {α : Type} (f : α → List (BitVec 8)) (a : α) (l : List α) : encAll f (a :: l) = f a ++ encAll f l := by simp [encAll]
def readAll {α : Type} (g : List (BitVec 8) → Option (α × List (BitVec 8))) : Nat → List (BitVec 8) → Option (List α × List (BitVec 8))
  | 0, b => some ([], b)
  | k + 1, b =>
    match g b with
    | none => none
    | some (a, r) =>
      match readAll g k r with
      | none => none
      | some (l, s) => some (a :: l, s)
def encList {α : Type} (f : α → List (BitVec 8)) (l : List α) : List (BitVec 8) := encNum l.length ++ encAll f l
def readList {α : Type} (g : List (BitVec 8) → Option (α × List (BitVec 8))) (b : List (BitVec 8)) : Option (List α) :=
  match readNum b with
  | none => none
  | some (n, r) => if n ≤ 4096 then (match readAll g n r with | some (l, []) => some l | _ => none) else none
end Go.Proofs.YtopmeedmgjdcgaaGreatDoor
/- The walks of the turns: blazonref01.turn, sha.turned and bits.RotateLeft32 answer the word turned to the right, and leave the world as it is. -/
namespace Go.Proofs.YtopmeedmgjdcgaaGreatDoor
open Go.RowKit
set_option maxRecDepth 100000

theorem rr_own (x : BitVec 32) (n : Int) (h1 : -31 ≤ n) (h2 : n ≤ -1) :
    bits .or .u32 ((x.toNat : Int) * 2 ^ (32 + n).toNat % 4294967296) ((x.toNat : Int) / 2 ^ (32 - (32 + n)).toNat) = ((rr x (-n).toNat).toNat : Int) := by
  rw [u32_shr, u32_shl, u32_or, rr, BitVec.or_comm, show (32 - (32 + n)).toNat = (-n).toNat from by omega, show (32 + n).toNat = 32 - (-n).toNat from by omega]
theorem and31 (n : Int) (h1 : -31 ≤ n) (h2 : n ≤ -1) : bits .and .u64 (IntKind.u64.wrap n) 31 = 32 + n := by
  obtain ⟨k, hk, hn⟩ : ∃ k : Nat, k < 32 ∧ n = -(k : Int) := ⟨(-n).toNat, by omega, by omega⟩
  subst hn
  have : ∀ k : Fin 32, 1 ≤ k.val → bits .and .u64 (IntKind.u64.wrap (-(k.val : Int))) 31 = 32 + -(k.val : Int) := by decide
  exact this ⟨k, hk⟩ (by simp; omega)

set_option maxHeartbeats 400000 in
theorem rot_any (x : BitVec 32) (n : Int) (w : World) (h1 : -31 ≤ n) (h2 : n ≤ -1) :
    Calls Tryz.prog 174 #[.int .u32 (x.toNat : Int), .int .i64 n] w fun e w' => e = .returned (.int .u32 ((rr x (-n).toNat).toNat : Int)) ∧ w' = w := by
  have hb := and31 n h1 h2
  go_enter Tryz.func174, Tryz.ntmps174
  go_wp2
  go_ret
  refine ⟨?_, rfl⟩
  rw [← rr_own x n h1 h2]
  rfl
set_option maxHeartbeats 400000 in
theorem turned_any (x : BitVec 32) (n : Int) (w : World) (h1 : 1 ≤ n) (h2 : n ≤ 31) :
    Calls Tryz.prog 173 #[.int .u32 (x.toNat : Int), .int .i64 n] w fun e w' => e = .returned (.int .u32 ((rr x n.toNat).toNat : Int)) ∧ w' = w := by
  go_enter Tryz.func173, Tryz.ntmps173
  go_wp2_with (go_at_call 174; refine (rot_any x (-n) _ (by omega) (by omega)).mono ?_; rintro e w' ⟨rfl, rfl⟩)
  go_ret
  exact ⟨by simp, rfl⟩
end Go.Proofs.YtopmeedmgjdcgaaGreatDoor
/- Blocks of memory: what a block holds, and what stays of it behind a store, a new block or a draw. No program is named here. -/
namespace Go.Proofs.YtopmeedmgjdcgaaGreatDoor
open Go.RowKit
set_option maxRecDepth 100000

/-- block g is a row of the cells cs, of element type t, no cell of it frozen -/
def Blk (w : World) (g : Nat) (cs : List Value) (t : TypeId) : Prop := w.heap[g]? = some (.cells cs.toArray t (0, 0))

theorem Blk.lt {w : World} {g : Nat} {cs : List Value} {t : TypeId} (h : Blk w g cs t) : g < w.heap.size := by
  unfold Blk at h
  rcases Nat.lt_or_ge g w.heap.size with h' | h'
  · exact h'
  · rw [Array.getElem?_eq_none h'] at h; cases h
theorem Blk.cell {w : World} {g : Nat} {cs : List Value} {t : TypeId} (h : Blk w g cs t) (j : Nat) : w.cell? ⟨g, j, none⟩ = cs[j]? := by
  rw [cell_of_row w g j _ t (0, 0) h]; simp
theorem Blk.frozen {w : World} {g : Nat} {cs : List Value} {t : TypeId} (h : Blk w g cs t) (j : Nat) : w.frozen? ⟨g, j, none⟩ = false := frozen_of_row w g j _ t h
theorem Blk.drew {w : World} {g : Nat} {cs : List Value} {t : TypeId} (h : Blk w g cs t) : Blk w.drew g cs t := h
theorem Blk.drewN {w : World} {g : Nat} {cs : List Value} {t : TypeId} (h : Blk w g cs t) (n : Nat) : Blk (w.drewN n) g cs t := h
theorem Blk.alloc {w : World} {g : Nat} {cs : List Value} {t : TypeId} (h : Blk w g cs t) (o : Obj) : Blk (w.alloc o) g cs t := by
  have := h.lt
  unfold Blk at *
  rw [Go.RowKit.Below.heap_alloc w o g this]; exact h
theorem Blk.new (w : World) (cs : List Value) (t : TypeId) : Blk (w.alloc (.cells cs.toArray t)) w.heap.size cs t := heap_alloc_new w _
theorem Blk.new_at {w : World} {n : Nat} (hn : w.heap.size = n) (cs : List Value) (t : TypeId) : Blk (w.alloc (.cells cs.toArray t)) n cs t := by
  subst hn; exact Blk.new w cs t
theorem Blk.set {w : World} {g : Nat} {cs : List Value} {t : TypeId} (h : Blk w g cs t) (i : Nat) (v : Value) : Blk (w.setCell ⟨g, i, none⟩ v) g (cs.set i v) t := by
  unfold Blk at *
  rw [heap_setCell_same w g i _ t v h]; simp
theorem Blk.other {w : World} {g : Nat} {cs : List Value} {t : TypeId} (h : Blk w g cs t) (a : Addr) (v : Value) (hne : g ≠ a.block) : Blk (w.setCell a v) g cs t := by
  unfold Blk at *
  rw [heap_setCell_other w a g v hne]; exact h
theorem Blk.below {w w' : World} {g B : Nat} {cs : List Value} {t : TypeId} (h : Blk w g cs t) (hb : Below B w w') (hg : g < B) : Blk w' g cs t := by
  unfold Blk at *
  rw [hb.block g hg]; exact h
theorem Blk.range {w : World} {g : Nat} {cs : List Value} {t : TypeId} (h : Blk w g cs t) : w.rangeAt g 0 cs := fun j v hv => by
  rw [Nat.zero_add, h.cell j, hv]
theorem Blk.there {w : World} {g : Nat} {cs : List Value} {t : TypeId} (h : Blk w g cs t) (o n : Nat) (hn : o + n ≤ cs.length) : w.there g o n := fun j hj => by
  rw [h.cell, h.frozen]
  exact ⟨by rw [List.getElem?_eq_getElem (by omega)]; rfl, rfl⟩
theorem setCells_eq (g : Nat) : ∀ (vs : List Value) (o : Nat) (w : World) (cs : List Value) (t : TypeId), Blk w g cs t → o + vs.length ≤ cs.length → Blk (w.setCells g o vs) g (cs.take o ++ vs ++ cs.drop (o + vs.length)) t
  | [], o, w, cs, t, h, _ => by simpa [World.setCells] using h
  | v :: r, o, w, cs, t, h, hl => by
    rw [World.setCells]
    simp only [List.length_cons] at hl
    have := setCells_eq g r (o + 1) _ _ t (h.set o v) (by simp; omega)
    have e : (cs.set o v).take (o + 1) ++ r ++ (cs.set o v).drop (o + 1 + r.length) = cs.take o ++ (v :: r) ++ cs.drop (o + (v :: r).length) := by
      have e1 : (cs.set o v).take (o + 1) = cs.take o ++ [v] := by
        apply List.ext_getElem?
        intro i
        by_cases h1 : i < o
        · rw [List.getElem?_take_of_lt (by omega), List.getElem?_append_left (by simp; omega), List.getElem?_take_of_lt h1, List.getElem?_set_ne (by omega)]
        · by_cases h2 : i = o
          · subst h2
            rw [List.getElem?_take_of_lt (by omega), List.getElem?_append_right (by simp; omega), List.getElem?_set_self (by omega)]
            simp [Nat.min_eq_left (show i ≤ cs.length by omega)]
          · rw [List.getElem?_eq_none (by simp; omega), List.getElem?_eq_none (by simp; omega)]
      have e2 : (cs.set o v).drop (o + 1 + r.length) = cs.drop (o + (v :: r).length) := by
        rw [List.drop_set_of_lt (by omega), List.length_cons]; congr 1; omega
      rw [e1, e2]; simp
    rw [e] at this; exact this
theorem Blk.whole {w : World} {g : Nat} {cs : List Value} {t : TypeId} (h : Blk w g cs t) (vs : List Value) (hl : vs.length = cs.length) : Blk (w.setCells g 0 vs) g vs t := by
  have := setCells_eq g vs 0 w cs t h (by omega)
  simpa [hl] using this
theorem wpList_store8 {P : Program} {ops : Array Oper} {rest : List Oper} {op : Oper} {a : Act} {w : World} {Q : Exit → Act → World → Prop} (hgd : op.guard = none) (ty : TypeId) (x y : Operand) (ho : op.op = .store ty x y)
    (b : Nat) (na nb nc nd ne nf ng nh : Int) (hx : a.eval x = .pointer (some ⟨b, 0, none⟩)) (hy : a.eval y = .agg #[Value.int .u32 na, Value.int .u32 nb, Value.int .u32 nc, Value.int .u32 nd, Value.int .u32 ne, Value.int .u32 nf, Value.int .u32 ng, Value.int .u32 nh])
    (ht : w.there b 0 8) (hi : (P.info? ty).map (·.size) = some 8)
    (h : wpList P ops Q rest (a.put op.dst undef) (w.setCells b 0 [Value.int .u32 na, Value.int .u32 nb, Value.int .u32 nc, Value.int .u32 nd, Value.int .u32 ne, Value.int .u32 nf, Value.int .u32 ng, Value.int .u32 nh])) : wpList P ops Q (op :: rest) a w :=
  wpList_store_mid hgd ty x y ho b 0 _ hx hy ht hi (by simp [Value.oneCell']) h
theorem wpList_build8 {P : Program} {ops : Array Oper} {rest : List Oper} {o : Oper} {a : Act} {w : World} {Q : Exit → Act → World → Prop} (hg : o.guard = none) (t : TypeId) (xa xb xc xd xe xf xg xh : Operand)
    (ho : o.op = .build t #[(0, xa), (1, xb), (2, xc), (3, xd), (4, xe), (5, xf), (6, xg), (7, xh)]) (na nb nc nd ne nf ng nh : Int) (ea : a.eval xa = .int .u32 na) (eb : a.eval xb = .int .u32 nb) (ec : a.eval xc = .int .u32 nc) (ed : a.eval xd = .int .u32 nd) (ee : a.eval xe = .int .u32 ne) (ef : a.eval xf = .int .u32 nf) (eg : a.eval xg = .int .u32 ng) (eh : a.eval xh = .int .u32 nh)
    (hb : P.built t [(0, Value.int .u32 na), (1, Value.int .u32 nb), (2, Value.int .u32 nc), (3, Value.int .u32 nd), (4, Value.int .u32 ne), (5, Value.int .u32 nf), (6, Value.int .u32 ng), (7, Value.int .u32 nh)] = some #[Value.int .u32 na, Value.int .u32 nb, Value.int .u32 nc, Value.int .u32 nd, Value.int .u32 ne, Value.int .u32 nf, Value.int .u32 ng, Value.int .u32 nh])
    (h : wpList P ops Q rest (a.put o.dst (.agg #[Value.int .u32 na, Value.int .u32 nb, Value.int .u32 nc, Value.int .u32 nd, Value.int .u32 ne, Value.int .u32 nf, Value.int .u32 ng, Value.int .u32 nh])) w) : wpList P ops Q (o :: rest) a w :=
  wpList_build hg t _ ho (by simp [ea, eb, ec, ed, ee, ef, eg, eh, hb]) (by simpa [ea, eb, ec, ed, ee, ef, eg, eh, hb] using h)
theorem cw_get (l : List (BitVec 32)) (j : Nat) (h : j < l.length) : (cw l)[j]? = some (.int .u32 ((l.getD j 0).toNat : Int)) := by simp [cw, h]
theorem cb_get (l : List (BitVec 8)) (j : Nat) (h : j < l.length) : (cb l)[j]? = some (.int .u8 ((l.getD j 0).toNat : Int)) := by simp [cb, h]
theorem cw_set (l : List (BitVec 32)) (j : Nat) (v : BitVec 32) : (cw l).set j (.int .u32 (v.toNat : Int)) = cw (l.set j v) := by simp [cw, List.map_set]
theorem cb_set (l : List (BitVec 8)) (j : Nat) (v : BitVec 8) : (cb l).set j (.int .u8 (v.toNat : Int)) = cb (l.set j v) := by simp [cb, List.map_set]
theorem cw_len (l : List (BitVec 32)) : (cw l).length = l.length := by simp [cw]
theorem cb_len (l : List (BitVec 8)) : (cb l).length = l.length := by simp [cb]
theorem cw_one (l : List (BitVec 32)) : ∀ v ∈ cw l, v.oneCell' = true := by simp [cw, Value.oneCell']
theorem cb_one (l : List (BitVec 8)) : ∀ v ∈ cb l, v.oneCell' = true := by simp [cb, Value.oneCell']
theorem Below.setCells {B : Nat} {a : World} (g : Nat) (hg : B ≤ g) : ∀ (vs : List Value) (o : Nat) (w : World), Below B a w → Below B a (w.setCells g o vs)
  | [], _, _, h => h
  | v :: r, o, w, h => by rw [World.setCells]; exact Below.setCells g hg r (o + 1) _ (h.setCell hg v)
theorem Blk.others (g' : Nat) : ∀ (vs : List Value) (o : Nat) (w : World) {g : Nat} {cs : List Value} {t : TypeId}, Blk w g cs t → g ≠ g' → Blk (w.setCells g' o vs) g cs t
  | [], _, _, _, _, _, h, _ => h
  | v :: r, o, w, _, _, _, h, hne => by rw [World.setCells]; exact Blk.others g' r (o + 1) _ (h.other _ v hne) hne
end Go.Proofs.YtopmeedmgjdcgaaGreatDoor
/- The walk of sha.spread: the 64 words that a block gives to the rounds. -/
namespace Go.Proofs.YtopmeedmgjdcgaaGreatDoor
open Go.RowKit
set_option maxRecDepth 100000
theorem Tryz.info196 : (Tryz.prog.info? 196).map (·.size) = some 64 := by kernel_rfl
theorem len_sched1 (b : List (BitVec 8)) (k : Nat) : (sched1 b k).length = 64 := by
  induction k with
  | zero => simp [sched1]
  | succ k ih => simp [sched1, ih]
theorem len_sched2 (b : List (BitVec 8)) (k : Nat) : (sched2 b k).length = 64 := by
  induction k with
  | zero => exact len_sched1 b 16
  | succ k ih => simp [sched2, ih]
/-- The three blocks of a call of spread: the block's bytes, the result, the words. -/
structure SpInv (w : World) (b : List (BitVec 8)) (l : List (BitVec 32)) (wr : World) : Prop where
  blk : Blk wr w.heap.size (cb b) 106
  res : Blk wr (w.heap.size + 1) (cw (List.replicate 64 0)) 196
  wds : Blk wr (w.heap.size + 1 + 1) (cw l) 196
  bel : Below w.heap.size w wr
theorem SpInv.store {w wr : World} {b : List (BitVec 8)} {l : List (BitVec 32)} (h : SpInv w b l wr) (k : Nat) (v : BitVec 32) :
    SpInv w b (l.set k v) ((wr.setCell ⟨w.heap.size + 1 + 1, k, none⟩ (.int .u32 (v.toNat : Int))).drew) :=
  ⟨(h.blk.other _ _ (by simp; omega)).drew, (h.res.other _ _ (by simp)).drew, by have := (h.wds.set k (.int .u32 (v.toNat : Int))).drew; rw [cw_set] at this; exact this, (h.bel.setCell (by simp; omega) _).drew⟩
theorem SpInv.drewN {w wr : World} {b : List (BitVec 8)} {l : List (BitVec 32)} (h : SpInv w b l wr) (n : Nat) : SpInv w b l (wr.drewN n) := ⟨h.blk, h.res, h.wds, ⟨h.bel.os, h.bel.tape, h.bel.output, h.bel.size, h.bel.block⟩⟩
theorem SpInv.at {w wr : World} {b : List (BitVec 8)} {l : List (BitVec 32)} (h : SpInv w b l wr) (j : Nat) (hj : j < l.length) : wr.cell? ⟨w.heap.size + 1 + 1, j, none⟩ = some (.int .u32 ((l.getD j 0).toNat : Int)) := by
  rw [h.wds.cell, cw_get l j hj]
theorem SpInv.by {w wr : World} {b : List (BitVec 8)} {l : List (BitVec 32)} (h : SpInv w b l wr) (j : Nat) (hj : j < b.length) : wr.cell? ⟨w.heap.size, j, none⟩ = some (.int .u8 ((b.getD j 0).toNat : Int)) := by
  rw [h.blk.cell, cb_get b j hj]
theorem word4 (b0 b1 b2 b3 : BitVec 8) :
    bits .or .u32 (bits .or .u32 (bits .or .u32 ((b0.toNat : Int) * 16777216) ((b1.toNat : Int) * 65536)) ((b2.toNat : Int) * 256)) (b3.toNat : Int) =
      ((b0.setWidth 32 <<< 24 ||| b1.setWidth 32 <<< 16 ||| b2.setWidth 32 <<< 8 ||| b3.setWidth 32).toNat : Int) := by
  have h0 := b0.isLt
  have h1 := b1.isLt
  have h2 := b2.isLt
  have e0 : (b0.toNat : Int) * (16777216 : Int) = ((b0.setWidth 32 <<< 24).toNat : Int) := by simp [BitVec.toNat_shiftLeft, Nat.shiftLeft_eq]; omega
  have e1 : (b1.toNat : Int) * (65536 : Int) = ((b1.setWidth 32 <<< 16).toNat : Int) := by simp [BitVec.toNat_shiftLeft, Nat.shiftLeft_eq]; omega
  have e2 : (b2.toNat : Int) * (256 : Int) = ((b2.setWidth 32 <<< 8).toNat : Int) := by simp [BitVec.toNat_shiftLeft, Nat.shiftLeft_eq]; omega
  rw [e0, e1, e2, byte_word b3, u32_or, u32_or, u32_or]
set_option maxRecDepth 100000 in
set_option maxHeartbeats 1000000 in
theorem spread_any (b : List (BitVec 8)) (hb : b.length = 64) (w : World) :
    Calls Tryz.prog 172 #[.agg (cb b).toArray] w fun e w' => e = .returned (.agg (cw (sched2 b 48)).toArray) ∧ Below w.heap.size w w' := by
  go_enter Tryz.func172, Tryz.ntmps172
  go_wp2
  go_loopw [10] (fun i wr => ∃ k : Nat, k ≤ 16 ∧ i = .int .i64 k ∧ SpInv w b (sched1 b k) wr) (fun i _ => 16 - (intOf i).toNat)
  case atStart =>
    refine ⟨0, by omega, rfl, ?_, ?_, ?_, ?_⟩
    · exact ((Blk.new w (cb b) 106).alloc _).alloc _
    · exact (Blk.new_at (w := w.alloc (.cells (cb b).toArray 106)) (by simp) (cw (List.replicate 64 0)) 196).alloc (.cells (cw (List.replicate 64 0)).toArray 196)
    · exact Blk.new_at (w := (w.alloc (.cells (cb b).toArray 106)).alloc (.cells (cw (List.replicate 64 0)).toArray 196)) (by simp) (cw (List.replicate 64 0)) 196
    · exact (((Below.refl _ _).alloc (Nat.le_refl _) _).alloc (by simp) _).alloc (by simp; omega) _
  case round =>
    obtain ⟨k, hk, rfl, hI⟩ := hrel
    by_cases hlt : k < 16
    · obtain ⟨b0, H0⟩ : ∃ x, Hid (x = b.getD (4 * k) 0) := ⟨_, rfl⟩
      obtain ⟨b1, H1⟩ : ∃ x, Hid (x = b.getD (4 * k + 1) 0) := ⟨_, rfl⟩
      obtain ⟨b2, H2⟩ : ∃ x, Hid (x = b.getD (4 * k + 2) 0) := ⟨_, rfl⟩
      obtain ⟨b3, H3⟩ : ∃ x, Hid (x = b.getD (4 * k + 3) 0) := ⟨_, rfl⟩
      have c0 : wr.cell? ⟨w.heap.size, 4 * k, none⟩ = some (.int .u8 (b0.toNat : Int)) := by rw [H0.out]; exact hI.by _ (by omega)
      have c1 : wr.cell? ⟨w.heap.size, 4 * k + 1, none⟩ = some (.int .u8 (b1.toNat : Int)) := by rw [H1.out]; exact hI.by _ (by omega)
      have c2 : wr.cell? ⟨w.heap.size, 4 * k + 2, none⟩ = some (.int .u8 (b2.toNat : Int)) := by rw [H2.out]; exact hI.by _ (by omega)
      have c3 : wr.cell? ⟨w.heap.size, 4 * k + 3, none⟩ = some (.int .u8 (b3.toNat : Int)) := by rw [H3.out]; exact hI.by _ (by omega)
      have HW : Hid (wordAt b k = b0.setWidth 32 <<< 24 ||| b1.setWidth 32 <<< 16 ||| b2.setWidth 32 <<< 8 ||| b3.setWidth 32) := by rw [H0.out, H1.out, H2.out, H3.out]; rfl
      obtain ⟨o, cT⟩ : ∃ o, wr.cell? ⟨w.heap.size + 1 + 1, k, none⟩ = some o := ⟨_, hI.at k (by rw [len_sched1]; omega)⟩
      have fT : wr.frozen? ⟨w.heap.size + 1 + 1, k, none⟩ = false := hI.wds.frozen k
      have g0 : (b0.toNat : Int) < 256 := by have := b0.isLt; omega
      have g1 : (b1.toNat : Int) < 256 := by have := b1.isLt; omega
      have g2 : (b2.toNat : Int) < 256 := by have := b2.isLt; omega
      have g3 : (b3.toNat : Int) < 256 := by have := b3.isLt; omega
      clear H0 H1 H2 H3
      go_wp2
      go_region
      go_wp2
      go_roundw
      case rel =>
        refine ⟨k + 1, by omega, by go_num, ?_⟩
        have := hI.store k (wordAt b k)
        rw [HW.out, ← word4] at this
        rw [sched1, HW.out]
        exact this
      case measure => simp [intOf]; omega
    · have hk16 : k = 16 := by omega
      subst hk16
      go_wp2
      go_loopw [43] (fun i wr => ∃ k : Nat, k ≤ 48 ∧ i = .int .i64 k ∧ SpInv w b (sched2 b k) wr) (fun i _ => 48 - (intOf i).toNat)
      case atStart => exact ⟨0, by omega, rfl, hI⟩
      case round =>
        clear hI hlt hk
        obtain ⟨k, hk, rfl, hI⟩ := hrel
        by_cases hlt : k < 48
        · obtain ⟨x0, H0⟩ : ∃ x, Hid (x = (sched2 b k).getD k 0) := ⟨_, rfl⟩
          obtain ⟨x1, H1⟩ : ∃ x, Hid (x = (sched2 b k).getD (k + 1) 0) := ⟨_, rfl⟩
          obtain ⟨x9, H9⟩ : ∃ x, Hid (x = (sched2 b k).getD (k + 9) 0) := ⟨_, rfl⟩
          obtain ⟨x14, H14⟩ : ∃ x, Hid (x = (sched2 b k).getD (k + 14) 0) := ⟨_, rfl⟩
          have hl := len_sched2 b k
          have hc : ∀ wx, SpInv w b (sched2 b k) wx → wx.cell? ⟨w.heap.size + 1 + 1, k, none⟩ = some (.int .u32 (x0.toNat : Int)) ∧ wx.cell? ⟨w.heap.size + 1 + 1, k + 1, none⟩ = some (.int .u32 (x1.toNat : Int)) ∧
              wx.cell? ⟨w.heap.size + 1 + 1, k + 9, none⟩ = some (.int .u32 (x9.toNat : Int)) ∧ wx.cell? ⟨w.heap.size + 1 + 1, k + 14, none⟩ = some (.int .u32 (x14.toNat : Int)) ∧ 
              (∃ o, wx.cell? ⟨w.heap.size + 1 + 1, k + 16, none⟩ = some o) ∧ wx.frozen? ⟨w.heap.size + 1 + 1, k + 16, none⟩ = false := by
            intro wx hx
            rw [H0.out, H1.out, H9.out, H14.out]
            exact ⟨hx.at _ (by omega), hx.at _ (by omega), hx.at _ (by omega), hx.at _ (by omega), ⟨_, hx.at _ (by omega)⟩, hx.wds.frozen _⟩
          have HC : Hid (∀ wx, SpInv w b (sched2 b k) wx → wx.cell? ⟨w.heap.size + 1 + 1, k, none⟩ = some (.int .u32 (x0.toNat : Int)) ∧ wx.cell? ⟨w.heap.size + 1 + 1, k + 1, none⟩ = some (.int .u32 (x1.toNat : Int)) ∧
              wx.cell? ⟨w.heap.size + 1 + 1, k + 9, none⟩ = some (.int .u32 (x9.toNat : Int)) ∧ wx.cell? ⟨w.heap.size + 1 + 1, k + 14, none⟩ = some (.int .u32 (x14.toNat : Int)) ∧ 
              (∃ o, wx.cell? ⟨w.heap.size + 1 + 1, k + 16, none⟩ = some o) ∧ wx.frozen? ⟨w.heap.size + 1 + 1, k + 16, none⟩ = false) := hc
          clear hc hl
          obtain ⟨c0, c1, c9, c14, ⟨o, cT⟩, fT⟩ := HC.out wr hI
          go_wp2
          go_quiet ((go_at_call 173; exact Calls.quiet_of_same (turned_any _ _ _ (by omega) (by omega))))
          have hI2 := hI.drewN nq
          clear hI c0 c1 c9 c14 cT fT
          generalize wr.drewN nq = wq at *
          obtain ⟨c0, c1, c9, c14, ⟨o, cT⟩, fT⟩ := HC.out wq hI2
          go_wp2
          go_quiet ((go_at_call 173; exact Calls.quiet_of_same (turned_any _ _ _ (by omega) (by omega))))
          have hI := hI2.drewN nq
          clear hI2 c0 c1 c9 c14 cT fT
          generalize wq.drewN nq = wp at *
          obtain ⟨c0, c1, c9, c14, ⟨o, cT⟩, fT⟩ := HC.out wp hI
          go_wp2
          go_region
          go_wp2
          go_roundw
          case rel =>
            refine ⟨k + 1, by omega, by go_num, ?_⟩
            have := hI.store (k + 16) (x0 + sig0 x1 + x9 + sig1 x14)
            rw [← u32_add4, ← sig0_eq, ← sig1_eq] at this
            rw [sched2, ← H0.out, ← H1.out, ← H9.out, ← H14.out]
            exact this
          case measure => simp [intOf]; omega
        · have hk48 : k = 48 := by omega
          subst hk48
          have hz : (Tryz.prog.info? 196).map (·.size) = some (cw (sched2 b 48)).length := by rw [cw_len, len_sched2]; exact Tryz.info196
          have HL : Hid ((cw (sched2 b 48)).length = (cw (List.replicate 64 (0 : BitVec 32))).length) := by rw [cw_len, cw_len, len_sched2]; rfl
          have HZ : Hid ((Tryz.prog.info? 196).map (·.size) = some (cw (sched2 b 48)).length) := hz
          clear hz
          go_wp2_with (first
            | (refine wpList_load_mid rfl 196 _ rfl (w.heap.size + 1 + 1) 0 rfl (cw (sched2 b 48)) _ hI.wds.range Tryz.underlying196 rfl HZ.out ?_)
            | (refine wpList_store_mid rfl 196 _ _ rfl (w.heap.size + 1) 0 (cw (sched2 b 48)).toArray rfl rfl (hI.res.there 0 _ (by simp [HL.out])) (by simpa using HZ.out) (all_oneCell_toArray (cw_one _)) ?_))
          have hB := hI.res.whole (cw (sched2 b 48)) HL.out
          refine bodyPost_ret (v := .agg (cw (sched2 b 48)).toArray) (results_cell_row (by rfl) _ _ (w.heap.size + 1) 196 _ (0, 0) _ rfl hB Tryz.underlying196 rfl (by simpa using HZ.out)) rfl ⟨rfl, Below.setCells _ (by omega) _ _ _ hI.bel⟩
end Go.Proofs.YtopmeedmgjdcgaaGreatDoor
/- The walk of sha.mix: the eight words behind one block more. -/
namespace Go.Proofs.YtopmeedmgjdcgaaGreatDoor
open Go.RowKit
set_option maxRecDepth 100000
theorem Tryz.info106 : (Tryz.prog.info? 106).map (·.size) = some 64 := by kernel_rfl
theorem Tryz.info184 : (Tryz.prog.info? 184).map (·.size) = some 8 := by kernel_rfl
theorem built8 (na nb nc nd ne nf ng nh : Int) : Tryz.prog.built 184 [(0, Value.int .u32 na), (1, Value.int .u32 nb), (2, Value.int .u32 nc), (3, Value.int .u32 nd), (4, Value.int .u32 ne), (5, Value.int .u32 nf), (6, Value.int .u32 ng), (7, Value.int .u32 nh)] = some #[Value.int .u32 na, Value.int .u32 nb, Value.int .u32 nc, Value.int .u32 nd, Value.int .u32 ne, Value.int .u32 nf, Value.int .u32 ng, Value.int .u32 nh] := by kernel_rfl
/-- the variable of the rounds' words holds them -/
def KOk (w : World) : Prop := ∀ j, j < 64 → w.cell? ⟨1, j, none⟩ = some (.int .u32 ((kw.getD j 0).toNat : Int))
theorem KOk.lt {w : World} (h : KOk w) : 1 < w.heap.size := block_lt_of_cell (h 0 (by omega))
theorem KOk.below {w w' : World} {B : Nat} (h : KOk w) (hb : Below B w w') (hB : 1 < B) : KOk w' := fun j hj => by rw [hb.cell (p := ⟨1, j, none⟩) hB]; exact h j hj
/-- what the rounds of mix find in memory: the eight words, the result, the block's words -/
structure MixInv (w : World) (s : St) (ws : List (BitVec 32)) (g : Nat) (wr : World) : Prop where
  wds : Blk wr w.heap.size (cw s.l) 184
  res : Blk wr (w.heap.size + 1 + 1) (cw z8) 184
  sch : Blk wr g (cw ws) 196
  kok : KOk wr
  bel : Below w.heap.size w wr
theorem MixInv.drewN {w wr : World} {s : St} {ws : List (BitVec 32)} {g : Nat} (h : MixInv w s ws g wr) (n : Nat) : MixInv w s ws g (wr.drewN n) :=
  ⟨h.wds, h.res, h.sch, h.kok, ⟨h.bel.os, h.bel.tape, h.bel.output, h.bel.size, h.bel.block⟩⟩
theorem MixInv.words {w wr : World} {s : St} {ws : List (BitVec 32)} {g : Nat} (h : MixInv w s ws g wr) :
    wr.cell? ⟨w.heap.size, 0, none⟩ = some (.int .u32 (s.a.toNat : Int)) ∧ wr.cell? ⟨w.heap.size, 1, none⟩ = some (.int .u32 (s.b.toNat : Int)) ∧
    wr.cell? ⟨w.heap.size, 2, none⟩ = some (.int .u32 (s.c.toNat : Int)) ∧ wr.cell? ⟨w.heap.size, 3, none⟩ = some (.int .u32 (s.d.toNat : Int)) ∧
    wr.cell? ⟨w.heap.size, 4, none⟩ = some (.int .u32 (s.e.toNat : Int)) ∧ wr.cell? ⟨w.heap.size, 5, none⟩ = some (.int .u32 (s.f.toNat : Int)) ∧
    wr.cell? ⟨w.heap.size, 6, none⟩ = some (.int .u32 (s.g.toNat : Int)) ∧ wr.cell? ⟨w.heap.size, 7, none⟩ = some (.int .u32 (s.h.toNat : Int)) := by
  simp only [h.wds.cell]
  exact ⟨rfl, rfl, rfl, rfl, rfl, rfl, rfl, rfl⟩
theorem MixInv.at {w wr : World} {s : St} {ws : List (BitVec 32)} {g : Nat} (h : MixInv w s ws g wr) (j : Nat) (hj : j < ws.length) : wr.cell? ⟨g, j, none⟩ = some (.int .u32 ((ws.getD j 0).toNat : Int)) := by
  rw [h.sch.cell, cw_get ws j hj]
theorem rounds_succ' (ws : List (BitVec 32)) (s : St) (k : Nat) : rounds ws s (k + 1) = rnd (rounds ws s k) (kw.getD k 0) (ws.getD k 0) := rfl
theorem MixInv.start {w w1 : World} {s : St} {ws : List (BitVec 32)} {X : Obj} (hK : KOk w) (hl : ws.length = 64)
    (h : Below (w.heap.size + 1 + 1 + 1) (((w.alloc (.cells (cw s.l).toArray 184)).alloc X).alloc (.cells (cw z8).toArray 184)) w1) :
    MixInv w s ws w1.heap.size ((w1.alloc (.cells (cw z64).toArray 196)).setCells w1.heap.size 0 (cw ws)) := by
  have h1 := h.size
  simp at h1
  have hk := hK.lt
  have b0 : Below w.heap.size w (((w.alloc (.cells (cw s.l).toArray 184)).alloc X).alloc (.cells (cw z8).toArray 184)) :=
    (((Below.refl _ _).alloc (Nat.le_refl _) _).alloc (by simp) _).alloc (by simp; omega) _
  have b1 : Below w.heap.size w w1 := b0.trans (h.mono (by omega))
  have b2 : Below w.heap.size w ((w1.alloc (.cells (cw z64).toArray 196)).setCells w1.heap.size 0 (cw ws)) := Below.setCells _ (by omega) _ _ _ (b1.alloc (by omega) _)
  refine ⟨?_, ?_, ?_, hK.below b2 hk, b2⟩
  · exact Blk.others _ _ _ _ ((Blk.below (((Blk.new w (cw s.l) _).alloc _).alloc _) h (by omega)).alloc _) (by omega)
  · exact Blk.others _ _ _ _ ((Blk.below (Blk.new_at (by simp) (cw z8) _) h (by omega)).alloc _) (by omega)
  · exact (Blk.new w1 _ _).whole _ (by simp [cw_len, hl, len_z64])
set_option maxHeartbeats 1000000 in
theorem mix_any (s : St) (b : List (BitVec 8)) (hb : b.length = 64) (w : World) (hK : KOk w) :
    Calls Tryz.prog 169 #[.agg (cw s.l).toArray, .agg (cb b).toArray] w fun e w' => e = .returned (.agg (cw (compress s b).l).toArray) ∧ Below w.heap.size w w' := by
  have HK : Hid (KOk w) := hK
  clear hK
  obtain ⟨r, HR⟩ : ∃ r, Hid (compress s b = r) := ⟨_, rfl⟩
  rw [HR.out]
  go_enter Tryz.func169, Tryz.ntmps169
  have HZ : Hid ((Tryz.prog.info? 106).map (·.size) = some (cb b).length) := by rw [cb_len, hb]; exact Tryz.info106
  have HY : Hid ((Tryz.prog.info? 196).map (·.size) = some (cw (sched2 b 48)).length) := by rw [cw_len, len_sched2]; exact Tryz.info196
  have HN : Hid (b.length = 64) := hb
  clear hb
  set_option maxRecDepth 100000 in
  go_wp2_with (first
    | (refine wpList_load_mid rfl 106 _ rfl _ 0 rfl (cb b) _ ?_ Tryz.underlying106 rfl HZ.out ?_; exact (Blk.alloc (Blk.new_at (by simp) _ _) _).range)
    | (go_at_call 172; refine (spread_any b HN.out _).mono ?_; rintro e w1 ⟨rfl, hw1⟩)
    | (refine wpList_store_mid rfl 196 _ _ rfl _ 0 (cw (sched2 b 48)).toArray rfl rfl ?_ (by simpa using HY.out) (all_oneCell_toArray (cw_one _)) ?_; exact Blk.there (Blk.new_at rfl (cw z64) _) _ _ (by simp [cw_len, len_sched2, len_z64])))
  have h2 := hw1.mono (B' := w.heap.size + 1 + 1 + 1) (by simp)
  clear hw1
  generalize h0 : Obj.cells _ 196 = o64
  set_option maxRecDepth 100000 in
  have ho : o64 = Obj.cells (cw z64).toArray 196 := h0.symm
  clear h0
  subst ho
  set_option maxRecDepth 100000 in
  have hI := MixInv.start (ws := sched2 b 48) HK.out (len_sched2 b 48) h2
  clear h2
  generalize World.setCells _ _ _ _ = wq at *
  have HL : Hid ((sched2 b 48).length = 64) := len_sched2 b 48
  clear HY
  generalize hws : sched2 b 48 = ws at *
  have HW : Hid (sched2 b 48 = ws) := hws
  clear hws
  generalize w1.heap.size = g at *
  simp only [Act.put]
  as_aux_lemma =>
    obtain ⟨c0, c1, c2, c3, c4, c5, c6, c7⟩ := hI.words
    go_quiet (fail)
    have hJ := hI.drewN nq
    clear c0 c1 c2 c3 c4 c5 c6 c7 hI
    generalize wq.drewN nq = wp at *
    obtain ⟨c0, c1, c2, c3, c4, c5, c6, c7⟩ := hJ.words
    go_wp2
    go_quiet (fail)
    have hI := hJ.drewN nq
    clear c0 c1 c2 c3 c4 c5 c6 c7 hJ
    generalize wp.drewN nq = wq at *
    go_wp2
    go_loopw [6, 7, 8, 9, 10, 11, 12, 13, 35] (fun v6 v7 v8 v9 v10 v11 v12 v13 i wr => ∃ k : Nat, k ≤ 64 ∧ i = .int .i64 k ∧
        v6 = .int .u32 ((rounds ws s k).a.toNat : Int) ∧ v7 = .int .u32 ((rounds ws s k).b.toNat : Int) ∧ v8 = .int .u32 ((rounds ws s k).c.toNat : Int) ∧ v9 = .int .u32 ((rounds ws s k).d.toNat : Int) ∧
        v10 = .int .u32 ((rounds ws s k).e.toNat : Int) ∧ v11 = .int .u32 ((rounds ws s k).f.toNat : Int) ∧ v12 = .int .u32 ((rounds ws s k).g.toNat : Int) ∧ v13 = .int .u32 ((rounds ws s k).h.toNat : Int) ∧ MixInv w s ws g wr)
      (fun _ _ _ _ _ _ _ _ i _ => 64 - (intOf i).toNat)
    case atStart => exact ⟨0, by omega, rfl, rfl, rfl, rfl, rfl, rfl, rfl, rfl, rfl, hI⟩
    case round =>
      clear hI
      obtain ⟨k, hk, rfl, rfl, rfl, rfl, rfl, rfl, rfl, rfl, rfl, hI⟩ := hrel
      by_cases hlt : k < 64
      · obtain ⟨x, y, cx, cy, HS⟩ : ∃ x y : BitVec 32, wr.cell? ⟨g, k, none⟩ = some (.int .u32 (x.toNat : Int)) ∧ wr.cell? ⟨1, k, none⟩ = some (.int .u32 (y.toNat : Int)) ∧ Hid (rounds ws s (k + 1) = rnd (rounds ws s k) y x) :=
          ⟨_, _, hI.at k (by have := HL.out; omega), hI.kok k hlt, rounds_succ' ws s k⟩
        clear HL HN HW HR
        generalize rounds ws s k = q at *
        obtain ⟨ra, rb, rc, rd, re, rf, rg, rh⟩ := q
        dsimp only at *
        go_wp2
        go_quiet ((go_at_call 173; exact Calls.quiet_of_same (turned_any _ _ _ (by omega) (by omega))))
        go_wp2_with (go_at_call 173; refine (turned_any _ _ _ (by omega) (by omega)).mono ?_; rintro e w' ⟨rfl, rfl⟩)
        go_roundw
        case rel =>
          refine ⟨k + 1, by omega, by go_num, ?_, ?_, ?_, ?_, ?_, ?_, ?_, ?_, hI.drewN nq⟩
          all_goals rw [HS.out]
          · rw [big1_eq, cho_own, big0_eq, maj_eq, sum_a]; rfl
          · rfl
          · rfl
          · rfl
          · rw [big1_eq, cho_own, sum_e]; rfl
          · rfl
          · rfl
          · rfl
        case measure => simp [intOf]; omega
      · have hk64 : k = 64 := by omega
        subst hk64
        obtain ⟨c0, c1, c2, c3, c4, c5, c6, c7⟩ := hI.words
        have HC : Hid (r = s.plus (rounds ws s 64)) := by have := HR.out; rw [compress_eq, HW.out] at this; exact this.symm
        clear HW HR
        generalize rounds ws s 64 = q at *
        as_aux_lemma =>
          go_wp2_with (first
            | (refine wpList_build8 rfl 184 _ _ _ _ _ _ _ _ rfl _ _ _ _ _ _ _ _ rfl rfl rfl rfl rfl rfl rfl rfl (built8 _ _ _ _ _ _ _ _) ?_)
            | (refine wpList_store8 rfl 184 _ _ rfl _ _ _ _ _ _ _ _ _ rfl rfl (hI.res.there 0 8 (by simp [cw_len, len_z8])) Tryz.info184 ?_))
          have hB := hI.res.whole [Value.int .u32 (((s.a.toNat : Int) + (q.a.toNat : Int)) % 4294967296), Value.int .u32 (((s.b.toNat : Int) + (q.b.toNat : Int)) % 4294967296), Value.int .u32 (((s.c.toNat : Int) + (q.c.toNat : Int)) % 4294967296), Value.int .u32 (((s.d.toNat : Int) + (q.d.toNat : Int)) % 4294967296), Value.int .u32 (((s.e.toNat : Int) + (q.e.toNat : Int)) % 4294967296), Value.int .u32 (((s.f.toNat : Int) + (q.f.toNat : Int)) % 4294967296), Value.int .u32 (((s.g.toNat : Int) + (q.g.toNat : Int)) % 4294967296), Value.int .u32 (((s.h.toNat : Int) + (q.h.toNat : Int)) % 4294967296)] (by rw [cw_len, len_z8]; rfl)
          refine bodyPost_ret (v := .agg #[Value.int .u32 (((s.a.toNat : Int) + (q.a.toNat : Int)) % 4294967296), Value.int .u32 (((s.b.toNat : Int) + (q.b.toNat : Int)) % 4294967296), Value.int .u32 (((s.c.toNat : Int) + (q.c.toNat : Int)) % 4294967296), Value.int .u32 (((s.d.toNat : Int) + (q.d.toNat : Int)) % 4294967296), Value.int .u32 (((s.e.toNat : Int) + (q.e.toNat : Int)) % 4294967296), Value.int .u32 (((s.f.toNat : Int) + (q.f.toNat : Int)) % 4294967296), Value.int .u32 (((s.g.toNat : Int) + (q.g.toNat : Int)) % 4294967296), Value.int .u32 (((s.h.toNat : Int) + (q.h.toNat : Int)) % 4294967296)]) (results_cell_row (by rfl) _ _ (w.heap.size + 1 + 1) 184 _ (0, 0) _ rfl hB Tryz.underlying184 rfl Tryz.info184) rfl ⟨?_, Below.setCells _ (by omega) _ _ _ hI.bel⟩
          rw [HC.out, ← plus_cells]
end Go.Proofs.YtopmeedmgjdcgaaGreatDoor
/- What a Hash in memory stands for: the text that was written to it; and what one more piece makes of it. Plain mathematics and memory; no program is named here. -/
namespace Go.Proofs.YtopmeedmgjdcgaaGreatDoor
open Go.RowKit
set_option maxRecDepth 100000

def blocks : Nat → St → List (BitVec 8) → St
  | 0, s, _ => s
  | k + 1, s, m => blocks k (compress s (m.take 64)) (m.drop 64)
theorem blocks_append : ∀ (k : Nat) (s : St) (m x : List (BitVec 8)), 64 * k ≤ m.length → blocks k s (m ++ x) = blocks k s m
  | 0, _, _, _, _ => rfl
  | k + 1, s, m, x, h => by
    simp only [blocks]
    rw [List.take_append_of_le_length (by omega), List.drop_append_of_le_length (by omega)]
    exact blocks_append k _ _ _ (by simp; omega)
theorem blocks_last : ∀ (k : Nat) (s : St) (m : List (BitVec 8)), blocks (k + 1) s m = compress (blocks k s m) ((m.drop (64 * k)).take 64)
  | 0, s, m => by simp [blocks]
  | k + 1, s, m => by
    rw [blocks, blocks_last k, blocks, List.drop_drop]
    congr 3; omega

/-- the cells of a Hash: the eight words, the block that waits, how many bytes there were -/
def hc (s : St) (blk : List (BitVec 8)) (n : Nat) : List Value := cw s.l ++ (cb blk ++ [Value.int .u64 (n : Int)])
theorem len_l (s : St) : (cw s.l).length = 8 := rfl
theorem len_hc (s : St) (blk : List (BitVec 8)) (n : Nat) (h : blk.length = 64) : (hc s blk n).length = 73 := by simp [hc, len_l, cb_len, h]
theorem hc_len (s : St) (blk : List (BitVec 8)) (n : Nat) (h : blk.length = 64) : (hc s blk n)[72]? = some (.int .u64 (n : Int)) := by
  rw [hc, List.getElem?_append_right (by rw [len_l]; omega), List.getElem?_append_right (by rw [cb_len, len_l, h]; omega)]
  simp [cb_len, len_l, h]
theorem hc_setn (s : St) (blk : List (BitVec 8)) (n k : Nat) (h : blk.length = 64) : (hc s blk n).set 72 (.int .u64 (k : Int)) = hc s blk k := by
  rw [hc, List.set_append_right _ _ (by rw [len_l]; omega), List.set_append_right _ _ (by rw [cb_len, len_l, h]; omega)]
  simp [cb_len, len_l, h, hc]
theorem hc_words (s t : St) (blk : List (BitVec 8)) (n : Nat) : (hc s blk n).take 0 ++ cw t.l ++ (hc s blk n).drop (0 + (cw t.l).length) = hc t blk n := by
  rw [len_l, hc, List.drop_append_of_le_length (by rw [len_l]; omega)]
  simp [hc, cw, St.l]
theorem hc_block (s : St) (blk y : List (BitVec 8)) (n r : Nat) (h : blk.length = 64) (hy : r + y.length ≤ 64) :
    (hc s blk n).take (8 + r) ++ cb y ++ (hc s blk n).drop (8 + r + (cb y).length) = hc s (blk.take r ++ y ++ blk.drop (r + y.length)) n := by
  have h1 : (hc s blk n).take (8 + r) = cw s.l ++ cb (blk.take r) := by
    rw [hc, List.take_append, len_l, List.take_of_length_le (by rw [len_l]; omega), show 8 + r - 8 = r by omega, List.take_append_of_le_length (by rw [cb_len]; omega)]
    simp [cb, List.map_take]
  have h2 : (hc s blk n).drop (8 + r + (cb y).length) = cb (blk.drop (r + y.length)) ++ [Value.int .u64 (n : Int)] := by
    rw [hc, cb_len, List.drop_append, len_l, List.drop_of_length_le (by rw [len_l]; omega), show 8 + r + y.length - 8 = r + y.length by omega, List.drop_append_of_le_length (by rw [cb_len]; omega)]
    simp [cb, List.map_drop]
  rw [h1, h2]
  simp [hc, cb]
theorem hc_block_at (s : St) (blk : List (BitVec 8)) (n : Nat) (h : blk.length = 64) (j : Nat) (v : Value) (hv : (cb blk)[j]? = some v) : (hc s blk n)[8 + j]? = some v := by
  have hj : j < blk.length := by have := (List.getElem?_eq_some_iff.1 hv).1; rwa [cb_len] at this
  rw [hc, List.getElem?_append_right (by rw [len_l]; omega), len_l, show 8 + j - 8 = j by omega, List.getElem?_append_left (by rw [cb_len]; omega)]
  exact hv
theorem hc_words_at (s : St) (blk : List (BitVec 8)) (n : Nat) (j : Nat) (v : Value) (hv : (cw s.l)[j]? = some v) : (hc s blk n)[0 + j]? = some v := by
  have hj : j < (cw s.l).length := (List.getElem?_eq_some_iff.1 hv).1
  rw [hc, List.getElem?_append_left (by omega), Nat.zero_add]; exact hv

/-- what the state (s, blk) says of the text m -/
structure Says (s : St) (blk m : List (BitVec 8)) : Prop where
  len : blk.length = 64
  wds : s = blocks (m.length / 64) st0 m
  blk : blk.take (m.length % 64) = m.drop (64 * (m.length / 64))
theorem Says.more {s : St} {blk m y : List (BitVec 8)} (h : Says s blk m) (hy : m.length % 64 + y.length < 64) :
    Says s (blk.take (m.length % 64) ++ y ++ blk.drop (m.length % 64 + y.length)) (m ++ y) := by
  have hl := h.len
  have e1 : (m ++ y).length / 64 = m.length / 64 := by simp; omega
  have e2 : (m ++ y).length % 64 = m.length % 64 + y.length := by simp; omega
  refine ⟨by simp [hl]; omega, ?_, ?_⟩
  · rw [e1, blocks_append _ _ _ _ (by omega)]; exact h.wds
  · rw [e1, e2, List.drop_append_of_le_length (by omega), ← h.blk, List.take_append_of_le_length (by simp [hl]; omega), List.take_of_length_le (by simp [hl]; omega)]
theorem Says.full {s : St} {blk m y : List (BitVec 8)} (h : Says s blk m) (hy : m.length % 64 + y.length = 64) :
    Says (compress s (blk.take (m.length % 64) ++ y ++ blk.drop (m.length % 64 + y.length))) (blk.take (m.length % 64) ++ y ++ blk.drop (m.length % 64 + y.length)) (m ++ y) := by
  have hl := h.len
  have e1 : (m ++ y).length / 64 = m.length / 64 + 1 := by simp; omega
  have e2 : (m ++ y).length % 64 = 0 := by simp; omega
  have e3 : blk.drop (m.length % 64 + y.length) = [] := List.drop_of_length_le (by omega)
  have e4 : (m ++ y).drop (64 * (m.length / 64)) = m.drop (64 * (m.length / 64)) ++ y := List.drop_append_of_le_length (by omega)
  refine ⟨by simp [hl]; omega, ?_, ?_⟩
  · rw [e1, blocks_last, blocks_append _ _ _ _ (by omega), ← h.wds, e4, h.blk, e3, List.append_nil, List.take_of_length_le (by simp; omega)]
  · rw [e1, e2, List.take_zero, List.drop_of_length_le (by simp; omega)]

/-- the world w' is w but for block g and new blocks -/
structure Only (g : Nat) (w w' : World) : Prop where
  os : w'.os = w.os
  tape : w'.tape = w.tape
  output : w'.output = w.output
  size : w.heap.size ≤ w'.heap.size
  block : ∀ k, k ≠ g → k < w.heap.size → w'.heap[k]? = w.heap[k]?
theorem Only.refl (g : Nat) (w : World) : Only g w w := ⟨rfl, rfl, rfl, Nat.le_refl _, fun _ _ _ => rfl⟩
theorem Only.trans {g : Nat} {a b c : World} (h : Only g a b) (k : Only g b c) : Only g a c :=
  ⟨k.os.trans h.os, k.tape.trans h.tape, k.output.trans h.output, Nat.le_trans h.size k.size, fun i hi hl => (k.block i hi (Nat.lt_of_lt_of_le hl h.size)).trans (h.block i hi hl)⟩
theorem Only.drewN {g : Nat} {a b : World} (h : Only g a b) (n : Nat) : Only g a (b.drewN n) := ⟨h.os, h.tape, h.output, h.size, h.block⟩
theorem Only.drew {g : Nat} {a b : World} (h : Only g a b) : Only g a b.drew := ⟨h.os, h.tape, h.output, h.size, h.block⟩
theorem Only.setCell {g : Nat} {a b : World} (h : Only g a b) (i : Nat) (v : Value) : Only g a (b.setCell ⟨g, i, none⟩ v) :=
  h.trans ⟨rfl, rfl, rfl, by simp [World.setCell], fun k hk _ => Below.heap_setCell _ _ _ _ hk⟩
theorem Only.setCells {g : Nat} {a : World} : ∀ (vs : List Value) (o : Nat) (w : World), Only g a w → Only g a (w.setCells g o vs)
  | [], _, _, h => h
  | v :: r, o, w, h => by rw [World.setCells]; exact Only.setCells r (o + 1) _ (h.setCell o v)
theorem Only.of_below {g : Nat} {w w' : World} (h : Below w.heap.size w w') : Only g w w' := ⟨h.os, h.tape, h.output, h.size, fun k _ hk => h.block k hk⟩
theorem Only.below {g : Nat} {w w' : World} (h : Only g w w') {B : Nat} (hg : B ≤ g) (hB : B ≤ w.heap.size) : Below B w w' := ⟨h.os, h.tape, h.output, h.size, fun k hk => h.block k (by omega) (by omega)⟩
theorem Blk.only {w w' : World} {g g' : Nat} {cs : List Value} {t : TypeId} (h : Blk w g cs t) (ho : Only g' w w') (hne : g ≠ g') : Blk w' g cs t := by
  have := h.lt
  unfold Blk at *
  rw [ho.block g hne this]; exact h
theorem Only.cell {g : Nat} {w w' : World} (h : Only g w w') {p : Addr} (hp : p.block ≠ g) {v : Value} (hv : w.cell? p = some v) : w'.cell? p = some v := by
  rw [World.cell?_of_block (w := w) (h.block p.block hp (block_lt_of_cell hv))]; exact hv

/-- the slice v reads as the bytes bs, in another block than g -/
def Bytes (w : World) (g : Nat) (v : Value) (bs : List (BitVec 8)) : Prop :=
  ∃ ad cap, v = .slice ad bs.length cap ∧ bs.length ≤ cap ∧ (0 < bs.length → ∃ b off, ad = some ⟨b, off, none⟩ ∧ b ≠ g ∧ ∀ j, j < bs.length → w.cell? ⟨b, off + j, none⟩ = some (.int .u8 ((bs.getD j 0).toNat : Int)))
theorem Bytes.only {w w' : World} {g : Nat} {v : Value} {bs : List (BitVec 8)} (h : Bytes w g v bs) (ho : Only g w w') : Bytes w' g v bs := by
  obtain ⟨ad, cap, hv, hc, hx⟩ := h
  refine ⟨ad, cap, hv, hc, fun hp => ?_⟩
  obtain ⟨b, off, h1, h2, h3⟩ := hx hp
  exact ⟨b, off, h1, h2, fun j hj => ho.cell h2 (h3 j hj)⟩
theorem Bytes.below {w w' : World} {g : Nat} {v : Value} {bs : List (BitVec 8)} (h : Bytes w g v bs) (hb : Below w.heap.size w w') : Bytes w' g v bs := h.only (Only.of_below hb)
/-- the Hash at g stands for the text m -/
def HashIs (t : TypeId) (w : World) (g : Nat) (m : List (BitVec 8)) : Prop := ∃ s blk, Blk w g (hc s blk m.length) t ∧ Says s blk m
theorem HashIs.below {t : TypeId} {w w' : World} {g B : Nat} {m : List (BitVec 8)} (h : HashIs t w g m) (hb : Below B w w') (hg : g < B) : HashIs t w' g m := by
  obtain ⟨s, blk, h1, h2⟩ := h
  exact ⟨s, blk, h1.below hb hg, h2⟩
theorem HashIs.lt {t : TypeId} {w : World} {g : Nat} {m : List (BitVec 8)} (h : HashIs t w g m) : g < w.heap.size := by
  obtain ⟨s, blk, h1, h2⟩ := h
  exact h1.lt
theorem step_copy_cells {P : Program} {ops : Array Oper} {o : Oper} {a : Act} {w : World} {K : Act → World → Prop} {Q : Exit → Act → World → Prop} {E : Prop} (hgd : o.guard = none) (d s : Operand) (dT sT : TypeId)
    (ho : o.op = .call { callee := .builtin .copy, args := #[d, s], argTypes := #[dT, sT] }) (elem : TypeId) (hu : P.underlying dT = some (.slice elem)) (hsz : (P.info? elem).map (·.size) = some 1)
    (b off dLen dCap : Nat) (ad : Addr) (sLen sCap : Nat) (hd : a.eval d = .slice (some ⟨b, off, none⟩) dLen dCap) (hs : a.eval s = .slice (some ad) sLen sCap) (cs : List Value) (hn : cs.length = Nat.min sLen dLen)
    (hsrc : ∀ j v, cs[j]? = some v → w.cell? (ad.add j) = some v) (ht : w.there b off cs.length) (h1 : ∀ v ∈ cs, v.oneCell' = true)
    (h : K (a.put o.dst (goInt cs.length)) (w.setCells b off cs)) : if Region.wanted o (yielded ops a.tmps) = true then Oper.wp P o a w K Q else E := by
  have hw : Region.wanted o (yielded ops a.tmps) = true := by simp [Region.wanted, hgd]
  rw [if_pos hw]
  have hrun := run_copy_cells (P := P) w dT sT o.type elem b off dLen dCap ad sLen sCap cs hu hsz hn hsrc (fun j hj => (ht j hj).1) (fun j hj => (ht j hj).2) h1
  unfold Oper.wp
  simp [execOp, ho, resolve, invoke, builtin, hd, hs, hrun, Result.andThen]
  exact h
theorem hc_range_words {t : TypeId} {w : World} {g : Nat} {s : St} {blk : List (BitVec 8)} {n : Nat} (h : Blk w g (hc s blk n) t) : w.rangeAt g 0 (cw s.l) := fun j v hv => by rw [h.cell, hc_words_at s blk n j v hv]
theorem hc_range_block {t : TypeId} {w : World} {g : Nat} {s : St} {blk : List (BitVec 8)} {n : Nat} (h : Blk w g (hc s blk n) t) (hl : blk.length = 64) : w.rangeAt g 8 (cb blk) := fun j v hv => by rw [h.cell, hc_block_at s blk n hl j v hv]
theorem hc_there {t : TypeId} {w : World} {g : Nat} {s : St} {blk : List (BitVec 8)} {n : Nat} (h : Blk w g (hc s blk n) t) (hl : blk.length = 64) : w.there g 0 8 := h.there 0 8 (by rw [len_hc s blk n hl]; omega)
theorem hc_store {t : TypeId} {w : World} {g : Nat} {s : St} {blk : List (BitVec 8)} {n : Nat} (h : Blk w g (hc s blk n) t) (hl : blk.length = 64) (r : St) : Blk (w.setCells g 0 (cw r.l)) g (hc r blk n) t := by
  have := setCells_eq g (cw r.l) 0 w _ t h (by rw [len_hc s blk n hl, len_l]; omega)
  rwa [hc_words] at this
theorem Bytes.drop_eq {w : World} {g b off n cap c : Nat} {rest : List (BitVec 8)} (h : Bytes w g (.slice (some ⟨b, off, none⟩) n cap) rest) (hc : c ≤ n) (hcc : cap = c) : Bytes w g (.slice (some ⟨b, off, none⟩) (n - c) 0) (rest.drop c) := by
  obtain ⟨ad, cap', hv, hcap, hx⟩ := h
  simp only [Value.slice.injEq] at hv
  obtain ⟨rfl, hn, rfl⟩ := hv
  exact ⟨some ⟨b, off, none⟩, 0, by simp [hn], by simp; omega, fun hp => by simp at hp; omega⟩
theorem Bytes.drop_ne {w : World} {g b off n cap c : Nat} {rest : List (BitVec 8)} (h : Bytes w g (.slice (some ⟨b, off, none⟩) n cap) rest) (hc : c ≤ n) : Bytes w g (.slice (some ⟨b, off + c, none⟩) (n - c) (cap - c)) (rest.drop c) := by
  obtain ⟨ad, cap', hv, hcap, hx⟩ := h
  simp only [Value.slice.injEq] at hv
  obtain ⟨rfl, hn, rfl⟩ := hv
  refine ⟨some ⟨b, off + c, none⟩, cap - c, by simp [hn], by simp; omega, fun hp => ?_⟩
  simp at hp
  obtain ⟨b', off', h1, h2, h3⟩ := hx (by omega)
  simp only [Option.some.injEq, Addr.mk.injEq, and_true] at h1
  obtain ⟨rfl, rfl⟩ := h1
  refine ⟨b, off + c, rfl, h2, fun j hj => ?_⟩
  simp at hj
  have := h3 (c + j) (by omega)
  rw [show off + c + j = off + (c + j) by omega, this]
  simp
theorem Bytes.drop_if {w : World} {g b off n cap c : Nat} {rest : List (BitVec 8)} (h : Bytes w g (.slice (some ⟨b, off, none⟩) n cap) rest) (hc : c ≤ n) :
    Bytes w g (.slice (if cap = c then some ⟨b, off, none⟩ else some ⟨b, off + c, none⟩) (n - c) (cap - c)) (rest.drop c) := by
  by_cases hcc : cap = c
  · rw [if_pos hcc]; have := h.drop_eq hc hcc; rwa [show cap - c = 0 by omega]
  · rw [if_neg hcc]; exact h.drop_ne hc
end Go.Proofs.YtopmeedmgjdcgaaGreatDoor
/- A region that draws its order, whose last operation waits for all others: the others quiet (they may call what makes memory), the last one whatever it is: one walk in the order of the text serves every order. No program is named here. -/
namespace Go.Proofs.YtopmeedmgjdcgaaGreatDoor
open Go
set_option maxRecDepth 100000
section
variable {P : Program} {md : Region.Mode} {C : World → Prop}
def idle (o : Oper) : Oper := { dst := none, op := .move (.const undef), type := o.type, pos := o.pos, after := o.after, guard := none }
theorem ready_idle (l : List Oper) (o : Oper) (listed : Array Bool) : Region.ready md (l ++ [idle o]).toArray listed = Region.ready md (l ++ [o]).toArray listed := by
  unfold Region.ready
  have hs : (l ++ [idle o]).toArray.size = (l ++ [o]).toArray.size := by simp
  rw [hs]
  apply List.filter_congr
  intro i _
  congr 1
  simp only [List.getElem?_toArray]
  rcases Nat.lt_trichotomy i l.length with h | h | h
  · rw [List.getElem?_append_left h, List.getElem?_append_left h]
  · subst h; simp [idle]
  · rw [List.getElem?_eq_none (by simp; omega), List.getElem?_eq_none (by simp; omega)]
/-- every edge leads back; no guards; the last waits for all -/
def lastB (md : Region.Mode) (l : List Oper) (o : Oper) : Bool :=
  (List.range (l.length + 1)).all (fun i => (((l ++ [o])[i]?).map fun x => x.after.all fun e => !Region.binds md e || decide (e.on < i)).getD true) &&
  (l ++ [o]).all (fun x => x.guard.isNone) &&
  (List.range l.length).all (fun i => (List.range (l.length + 1)).any fun j => decide (i < j) && (((l ++ [o])[j]?).map fun x => x.after.any fun e => Region.binds md e && e.on == i).getD false)
theorem getD_set {listed : Array Bool} {i j : Nat} (d : Bool) (h : j ≠ i) : (listed.setIfInBounds i true).getD j d = listed.getD j d := by
  simp [h.symm]
theorem ready_nonempty {ops : Array Oper} (hb : ∀ i o, ops[i]? = some o → ∀ e ∈ o.after, Region.binds md e = true → e.on < i) (listed : Array Bool) (hsz : listed.size = ops.size) :
    ∀ n, n < ops.size → listed.getD n true = false → Region.ready md ops listed ≠ [] := by
  intro n
  induction n using Nat.strongRecOn with
  | _ n ih =>
    intro hn hu h0
    by_cases hr : n ∈ Region.ready md ops listed
    · rw [h0] at hr; cases hr
    · apply hr
      refine mem_ready.2 ⟨hu, ops[n], by simp [hn], fun e he hbd => ?_⟩
      have hlt := hb n ops[n] (by simp [hn]) e he hbd
      cases hl : listed.getD e.on false with
      | true => rfl
      | false =>
        exact absurd h0 (ih e.on hlt (by omega) (by have : e.on < listed.size := by omega
                                                    simp [this] at hl ⊢; exact hl))
theorem all_listed {l : List Oper} {o : Oper} {listed : Array Bool} (hw : ∀ i, i < l.length → ∃ j x, i < j ∧ j ≤ l.length ∧ (l ++ [o]).toArray[j]? = some x ∧ ∃ e ∈ x.after, Region.binds md e = true ∧ e.on = i)
    (hcl : ∀ j x, (l ++ [o]).toArray[j]? = some x → listed.getD j false = true → ∀ e ∈ x.after, Region.binds md e = true → listed.getD e.on false = true)
    (ho : (l ++ [o]).toArray[l.length]? = some o) (hall : ∀ e ∈ o.after, Region.binds md e = true → listed.getD e.on false = true) :
    ∀ d i, l.length - i = d → i < l.length → listed.getD i false = true := by
  intro d
  induction d using Nat.strongRecOn with
  | _ d ih =>
    intro i hd hi
    obtain ⟨j, x, hij, hjl, hx, e, he, hbd, hon⟩ := hw i hi
    by_cases hjN : j = l.length
    · subst hjN
      have hxo : x = o := Option.some.inj (hx.symm.trans ho)
      subst hxo
      rw [← hon]; exact hall e he hbd
    · have hj := ih (l.length - j) (by omega) j rfl (by omega)
      rw [← hon]; exact hcl j x hx hj e he hbd
theorem wpAny_of_last {l : List Oper} {o : Oper} {Q' : Exit → Act → World → Prop}
    (hb : ∀ i x, (l ++ [o]).toArray[i]? = some x → ∀ e ∈ x.after, Region.binds md e = true → e.on < i) (hg : ∀ x ∈ l ++ [o], x.guard = none) (hw : ∀ i, i < l.length → ∃ j x, i < j ∧ j ≤ l.length ∧ (l ++ [o]).toArray[j]? = some x ∧ ∃ e ∈ x.after, Region.binds md e = true ∧ e.on = i) :
    ∀ (fuel : Nat) (listed : Array Bool) (a : Act) (w : World) (S : List Nat), C w → S.Nodup → S.length = fuel → (∀ i, i ∈ S ↔ (i < (l ++ [o]).length ∧ listed.getD i true = false)) → l.length ∈ S → listed.size = (l ++ [o]).length → (∀ j x, (l ++ [o]).toArray[j]? = some x → listed.getD j false = true → ∀ e ∈ x.after, Region.binds md e = true → listed.getD e.on false = true) →
    wpAnyQ P md (l ++ [idle o]).toArray C (fun a' => ∀ w', C w' → o.wp P a' w' (fun a'' w'' => Q' .normal a'' w'') Q') fuel listed a → wpAny P md (l ++ [o]).toArray Q' fuel listed a w := by
  intro fuel
  induction fuel with
  | zero => intro listed a w S _ _ hl _ hN _ _ _; rw [List.length_eq_zero_iff.1 hl] at hN; cases hN
  | succ fuel ih =>
    intro listed a w S hC hnd hlen hS hN hsz hcl hq
    obtain ⟨_, hq2⟩ := hq
    rw [ready_idle] at hq2
    have hNu := ((hS l.length).1 hN).2
    refine ⟨fun h0 => absurd h0 (ready_nonempty hb listed (by simpa using hsz) l.length (by simp) hNu), fun i hi => ?_⟩
    have hqi := hq2 i hi
    obtain ⟨hiu, oi, hoi, hall⟩ := mem_ready.1 hi
    have hil : i < (l ++ [o]).length := by simpa using (Array.getElem?_eq_some_iff.1 hoi).1
    by_cases hiN : i = l.length
    · subst hiN
      have hoo : oi = o := by simpa using hoi.symm
      subst hoo
      unfold wpOp
      rw [hoi]
      have hwant : Region.wanted oi (yielded (l ++ [oi]).toArray a.tmps) = true := by simp [Region.wanted, hg oi (by simp)]
      simp only [hwant, if_true]
      refine .inl ?_
      have h1 : (l ++ [idle oi]).toArray[l.length]? = some (idle oi) := by simp
      unfold qOp at hqi
      rw [h1] at hqi
      have hw2 : Region.wanted (idle oi) (yielded (l ++ [idle oi]).toArray a.tmps) = true := by simp [Region.wanted, idle]
      simp only [hw2, if_true] at hqi
      obtain ⟨v, _, hk⟩ := hqi
      have hput : a.put (idle oi).dst v = a := rfl
      rw [hput] at hk
      have hnone : Region.ready md (l ++ [oi]).toArray (listed.setIfInBounds l.length true) = [] := by
        cases hr : Region.ready md (l ++ [oi]).toArray (listed.setIfInBounds l.length true) with
        | nil => rfl
        | cons j r =>
          exfalso
          have hj : j ∈ Region.ready md (l ++ [oi]).toArray (listed.setIfInBounds l.length true) := by rw [hr]; simp
          obtain ⟨hju, oj, hoj, _⟩ := mem_ready.1 hj
          have hjl : j < (l ++ [oi]).length := by simpa using (Array.getElem?_eq_some_iff.1 hoj).1
          by_cases hjN : j = l.length
          · subst hjN
            have : l.length < listed.size := by rw [hsz]; simp
            simp [this] at hju
          · rw [getD_set true hjN] at hju
            have := all_listed hw hcl hoi hall (l.length - j) j rfl (by simp at hjl; omega)
            have hjs : j < listed.size := by omega
            simp [hjs] at hju this
            rw [hju] at this; cases this
      have hQ : ∀ w', C w' → oi.wp P a w' (fun a'' w'' => Q' .normal a'' w'') Q' := by
        cases fuel with
        | zero => exact hk.2
        | succ f => exact hk.1 (by rw [ready_idle]; exact hnone)
      refine Oper.wp_mono (fun a' w' hn => ?_) (hQ w hC)
      cases fuel with
      | zero => exact ⟨hnone, hn⟩
      | succ f => exact ⟨fun _ => hn, fun j hj => by rw [hnone] at hj; cases hj⟩
    · have hin : i < l.length := by simp at hil; omega
      have e1 : (l ++ [idle o]).toArray[i]? = (l ++ [o]).toArray[i]? := by simp [List.getElem?_append_left hin]
      have hgi : oi.guard = none := hg oi (by have := List.mem_of_getElem? (by simpa using hoi : (l ++ [o])[i]? = some oi); exact this)
      unfold qOp at hqi
      rw [e1, hoi] at hqi
      unfold wpOp
      rw [hoi]
      have w1 : Region.wanted oi (yielded (l ++ [idle o]).toArray a.tmps) = true := by simp [Region.wanted, hgi]
      have w2 : Region.wanted oi (yielded (l ++ [o]).toArray a.tmps) = true := by simp [Region.wanted, hgi]
      simp only [w1, if_true] at hqi
      simp only [w2, if_true]
      refine .inl (Oper.wp_of_quiet hC (fun a' w' hw' hk => ?_) hqi)
      have hiS : i ∈ S := (hS i).2 ⟨hil, hiu⟩
      refine ih (listed.setIfInBounds i true) a' w' (S.erase i) hw' (hnd.erase _) (by rw [List.length_erase_of_mem hiS]; omega) (fun j => ?_) ((List.mem_erase_of_ne (Ne.symm hiN)).2 hN) (by simpa using hsz) (fun j x hx hlj e he hbd => ?_) hk
      rotate_left
      · by_cases hji : i = j
        · subst hji
          have hxo : x = oi := Option.some.inj (hx.symm.trans hoi)
          subst hxo
          exact getD_set_true (hall e he hbd)
        · rw [getD_set_ne false hji] at hlj
          exact getD_set_true (hcl j x hx hlj e he hbd)
      by_cases hji : j = i
      · subst hji
        have hjs : j < listed.size := by omega
        simp [hnd.not_mem_erase, hjs]
      · rw [List.mem_erase_of_ne hji, hS j, getD_set true hji]
theorem wp_region_last {id : Nat} {Q : Exit → Act → World → Prop} {a : Act} {w : World} (l : List Oper) (o : Oper) (hm : P.follows .mixedOrders = true) (hB : Region.lexB .any (l ++ [idle o]).toArray = true) (hL : lastB .any l o = true)
    (hC : C { w with drawn := w.drawn + 1 }) (h : wpQuiet P (l ++ [idle o]).toArray C (fun a' => ∀ w', C w' → o.wp P a' w' (fun a'' w'' => Q .normal a'' w'') Q) l a) : (Code.region id (l ++ [o]).toArray true).wp P Q a w := by
  simp only [Region.lexB, Bool.and_eq_true] at hB
  simp only [lastB, Bool.and_eq_true] at hL
  obtain ⟨⟨hb, hg⟩, hw⟩ := hL
  have hq : ∀ (k : List Oper) (a : Act), wpQuiet P (l ++ [idle o]).toArray C (fun a' => ∀ w', C w' → o.wp P a' w' (fun a'' w'' => Q .normal a'' w'') Q) k a → wpQuiet P (l ++ [idle o]).toArray C (fun a' => ∀ w', C w' → o.wp P a' w' (fun a'' w'' => Q .normal a'' w'') Q) (k ++ [idle o]) a := by
    intro k
    induction k with
    | nil =>
      intro a h
      have hw2 : Region.wanted (idle o) (yielded (l ++ [idle o]).toArray a.tmps) = true := by simp [Region.wanted, idle]
      simp only [List.nil_append, wpQuiet, hw2, if_true]
      exact ⟨undef, fun w' _ => by unfold Oper.quietAt idle execOp; exact ⟨rfl, rfl⟩, h⟩
    | cons x k ih =>
      intro a h
      simp only [List.cons_append, wpQuiet] at h ⊢
      split
      · rename_i hx; simp only [hx, if_true] at h; exact Oper.quiet_mono (fun a' h' => ih a' h') h
      · rename_i hx; simp only [hx] at h; exact ih _ h
  have := wpAnyQ_lex (C := C) (md := .any) hB.1 (l ++ [idle o]) 0 (Array.replicate (l ++ [idle o]).toArray.size false) a (by simp) (by simpa using hB.2) (hq l a h)
  refine wp_region_any hm ?_
  have hsz : (l ++ [o]).toArray.size = (l ++ [idle o]).length := by simp
  rw [hsz]
  refine wpAny_of_last ?_ ?_ ?_ _ _ _ _ (List.range (l ++ [o]).length) hC List.nodup_range (by simp) (fun i => ?_) (by simp) (by simp) (fun j x _ hlj => ?_) (by simpa using this)
  · intro i x hx e he hbd
    have hi : i < l.length + 1 := by simpa using (Array.getElem?_eq_some_iff.1 hx).1
    have h1 := List.all_eq_true.1 hb i (List.mem_range.2 hi)
    rw [show (l ++ [o])[i]? = some x by simpa using hx] at h1
    simp only [Option.map_some, Option.getD_some] at h1
    have h2 := Array.all_eq_true_iff_forall_mem.1 h1 e he
    simpa [hbd] using h2
  · intro x hx
    have := List.all_eq_true.1 hg x hx
    simpa using this
  · intro i hi
    have h1 := List.all_eq_true.1 hw i (List.mem_range.2 hi)
    obtain ⟨j, hj, h2⟩ := List.any_eq_true.1 h1
    simp only [Bool.and_eq_true, decide_eq_true_eq] at h2
    have hjl := List.mem_range.1 hj
    cases hx : (l ++ [o])[j]? with
    | none => rw [hx] at h2; simp at h2
    | some x =>
      rw [hx] at h2
      simp only [Option.map_some, Option.getD_some] at h2
      obtain ⟨e, he, h3⟩ := Array.any_eq_true'.1 h2.2
      simp only [Bool.and_eq_true, beq_iff_eq] at h3
      exact ⟨j, x, h2.1, by omega, by simpa using hx, e, he, h3.1, h3.2⟩
  · simp only [List.mem_range]
    constructor
    · intro hi; exact ⟨hi, by simp at hi; simp [hi]⟩
    · intro hi; exact hi.1
  · exfalso
    generalize (l ++ [idle o]).length = N at hlj
    rcases Nat.lt_or_ge j N with h | h
    · simp [h] at hlj
    · simp [h] at hlj
theorem wp_region_last_lit {id : Nat} {Q : Exit → Act → World → Prop} {a : Act} {w : World} {L : List Oper} (hne : L ≠ []) (hm : P.follows .mixedOrders = true) (hB : Region.lexB .any (L.dropLast ++ [idle (L.getLast hne)]).toArray = true) (hL : lastB .any L.dropLast (L.getLast hne) = true)
    (hC : C { w with drawn := w.drawn + 1 }) (h : wpQuiet P (L.dropLast ++ [idle (L.getLast hne)]).toArray C (fun a' => ∀ w', C w' → (L.getLast hne).wp P a' w' (fun a'' w'' => Q .normal a'' w'') Q) L.dropLast a) : (Code.region id L.toArray true).wp P Q a w := by
  have := wp_region_last (P := P) (id := id) (Q := Q) L.dropLast (L.getLast hne) hm hB hL hC h
  rwa [List.dropLast_concat_getLast] at this
theorem wpQuiet_val {ops : Array Oper} {Q : Act → Prop} {o : Oper} {rest : List Oper} {a : Act} (hgd : o.guard = none) (v : Value) (hr : ∀ w, C w → (execOp a.eval o).run P w = .ok (.value v) w)
    (h : wpQuiet P ops C Q rest (a.put o.dst v)) : wpQuiet P ops C Q (o :: rest) a := by
  have hw : Region.wanted o (yielded ops a.tmps) = true := by simp [Region.wanted, hgd]
  rw [wpQuiet, if_pos hw]
  refine ⟨v, fun w hC => ?_, h⟩
  unfold Oper.quietAt
  rw [hr w hC]
  exact ⟨rfl, rfl⟩
theorem wpQuiet_load {ops : Array Oper} {Q : Act → Prop} {o : Oper} {rest : List Oper} {a : Act} (hgd : o.guard = none) (ty : TypeId) (x : Operand) (ho : o.op = .load ty x)
    (b of : Nat) (hx : a.eval x = .pointer (some ⟨b, of, none⟩)) (cs : List Value) (d : TypeDesc) (hc : ∀ w, C w → w.rangeAt b of cs)
    (hu : P.underlying ty = some d) (hd : d.isRow = true) (hi : (P.info? ty).map (·.size) = some cs.length)
    (h : wpQuiet P ops C Q rest (a.put o.dst (.agg cs.toArray))) : wpQuiet P ops C Q (o :: rest) a := by
  have hw : Region.wanted o (yielded ops a.tmps) = true := by simp [Region.wanted, hgd]
  rw [wpQuiet, if_pos hw]
  refine ⟨.agg cs.toArray, fun w hC => ?_, h⟩
  unfold Oper.quietAt execOp
  simp only [ho, hx, Instr.loadAt, Instr.sureAddr, Sem.run_bind, Sem.run_pure, Result.andThen_ok, run_loadVar_mid w b of ty cs d (hc w hC) hu hd hi]
  exact ⟨rfl, rfl⟩
theorem wpQuiet_call {ops : Array Oper} {Q : Act → Prop} {o : Oper} {rest : List Oper} {a : Act} (hgd : o.guard = none) (f : FuncId) (args : Array Operand) (ats : Array TypeId) (ho : o.op = .call { callee := .value (.func f), args := args, argTypes := ats })
    (hcf : ∀ xs w, (callFunc f xs).run P w = .ok (.enter f xs) w) (vals : Array Value) (hv : args.map a.eval = vals) (v : Value) (hc : ∀ w, C w → Calls P f vals w fun e w' => e = .returned v ∧ C w')
    (h : wpQuiet P ops C Q rest (a.put o.dst v)) : wpQuiet P ops C Q (o :: rest) a := by
  have hw : Region.wanted o (yielded ops a.tmps) = true := by simp [Region.wanted, hgd]
  rw [wpQuiet, if_pos hw]
  refine ⟨v, fun w hC => ?_, h⟩
  have hrun : (execOp a.eval o).run P w = .ok (.enter f vals) w := by
    obtain ⟨dst, op, type, pos, after, guard⟩ := o
    simp only at ho
    subst ho
    rw [execOp_call_go, hv]
    simp [hcf]
  unfold Oper.quietAt
  rw [hrun]
  exact ⟨rfl, hc w hC⟩
end
end Go.Proofs.YtopmeedmgjdcgaaGreatDoor
/- The walk of (*sha.Hash).Write: what is written goes behind the text that the Hash stands for. -/
namespace Go.Proofs.YtopmeedmgjdcgaaGreatDoor
open Go.RowKit
set_option maxRecDepth 100000
theorem Tryz.info5 : (Tryz.prog.info? 5).map (·.size) = some 1 := by kernel_rfl
theorem slice_arr (g L : Nat) (w : World) : (Instr.sliceAt 106 (.pointer (some ⟨g, 8, none⟩)) (some (.int .u64 ((L : Int).tmod 64))) none none).run Tryz.prog w = .ok (.slice (some ⟨g, 8 + L % 64, none⟩) (64 - L % 64) (64 - L % 64)) w := by
  have e : (L : Int).tmod 64 = ((L % 64 : Nat) : Int) := by rw [Int.tmod_eq_emod_of_nonneg (by omega)]; omega
  rw [e]
  have h1 : L % 64 < 64 := Nat.mod_lt _ (by omega)
  generalize L % 64 = r at *
  simp [go_sem, Instr.sliceAt, Instr.slice, Instr.sliceBounds]
  rw [if_pos (by omega), if_neg (by omega)]
def sliceLen : Value → Nat
  | .slice _ n _ => n
  | _ => 0
structure WrInv (g : Nat) (w : World) (m bs : List (BitVec 8)) (k : Nat) (v : Value) (wr : World) : Prop where
  le : k ≤ bs.length
  byt : Bytes wr g v (bs.drop k)
  hsh : HashIs 204 wr g (m ++ bs.take k)
  onl : Only g w wr
  kok : KOk wr
theorem mix_enter : ∀ xs w, (callFunc 169 xs).run Tryz.prog w = .ok (.enter 169 xs) w := fun _ _ => by kernel_rfl
/-- the worlds in which the call of mix may be met -/
structure WC (g : Nat) (w w3 : World) (s : St) (blk : List (BitVec 8)) (n : Nat) (w' : World) : Prop where
  blk : Blk w' g (hc s blk n) 204
  onl : Only g w w'
  kok : KOk w'
  onl2 : Only g w3 w'
theorem KOk.only {g : Nat} {w w' : World} (h : KOk w) (ho : Only g w w') (hg : 1 ≠ g) : KOk w' := fun j hj => ho.cell hg (h j hj)
set_option maxRecDepth 100000 in
set_option maxHeartbeats 1000000 in
theorem write_any (g : Nat) (m bs : List (BitVec 8)) (v : Value) (w : World) (hg : 1 ≠ g) (hK : KOk w) (hH : HashIs 204 w g m) (hB : Bytes w g v bs) (hl : m.length + bs.length < 4611686018427387904) :
    Calls Tryz.prog 161 #[.pointer (some ⟨g, 0, none⟩), v] w fun e w' => e = .returned (.tuple #[]) ∧ HashIs 204 w' g (m ++ bs) ∧ Only g w w' := by
  have hI : WrInv g w m bs 0 v w := ⟨Nat.zero_le _, by simpa using hB, by simpa using hH, Only.refl _ _, hK⟩
  clear hK hH hB
  go_enter Tryz.func161, Tryz.ntmps161
  go_wp2
  go_loopw [1] (fun v wr => ∃ k, WrInv g w m bs k v wr) (fun v _ => sliceLen v)
  case atStart => exact ⟨0, hI⟩
  case round =>
    clear hI
    obtain ⟨k, hI⟩ := hrel
    have hle := hI.le
    by_cases hlt : k < bs.length
    · obtain ⟨ad, cap, hv, hcap, hpos⟩ := hI.byt
      obtain ⟨b, off, rfl, hbg, hsrc⟩ := hpos (by simp; omega)
      subst hv
      obtain ⟨s, blk, hblk, hsay⟩ := hI.hsh
      have HL : Hid ((m ++ bs.take k).length < 4611686018427387904) := by show _ < _; simp; omega
      have HN : Hid ((bs.drop k).length = bs.length - k) := by show _ = _; simp
      have hn0 : 0 < (bs.drop k).length := by have := HN.out; omega
      have HM : Hid (m ++ bs = m ++ bs.take k ++ bs.drop k) := by show _ = _; simp
      have hL := HL.out
      obtain ⟨rest, HRest⟩ : ∃ x, Hid (x = bs.drop k) := ⟨_, rfl⟩
      obtain ⟨cur, HCur⟩ : ∃ x, Hid (x = m ++ bs.take k) := ⟨_, rfl⟩
      rw [← HRest.out] at hcap hsrc hn0
      rw [← HCur.out] at hblk hsay hL
      simp only [← HRest.out]
      obtain ⟨L, HLL⟩ : ∃ x, Hid (x = cur.length) := ⟨_, rfl⟩
      obtain ⟨n, HNN⟩ : ∃ x, Hid (x = rest.length) := ⟨_, rfl⟩
      rw [← HNN.out] at hcap hsrc hn0
      rw [← HLL.out] at hblk hL
      simp only [← HNN.out]
      have hs64 := hsay.len
      have cn : wr.cell? ⟨g, 72, none⟩ = some (.int .u64 (L : Int)) := by rw [hblk.cell, hc_len s blk L hs64]
      have hcapn : n < 4611686018427387904 := by have := HN.out; rw [← HRest.out, ← HNN.out] at this; omega
      obtain ⟨cs, HCS⟩ : ∃ x, Hid (x = cb (rest.take (min n (64 - L % 64)))) := ⟨_, rfl⟩
      have HCL : Hid (cs.length = min n (64 - L % 64)) := by show _ = _; rw [HCS.out, cb_len, List.length_take, ← HNN.out]; omega
      have HT : Hid (wr.there g (8 + L % 64) cs.length) := hblk.there _ _ (by rw [len_hc s blk L hs64, HCL.out]; omega)
      have HS : Hid (∀ j v, cs[j]? = some v → wr.cell? ((⟨b, off, none⟩ : Addr).add j) = some v) := by
        intro j v hj
        have hj2 : j < min n (64 - L % 64) := by rw [← HCL.out]; exact (List.getElem?_eq_some_iff.1 hj).1
        rw [Addr.add_mid, hsrc j (by omega)]
        rw [HCS.out, cb_get _ j (by rw [List.length_take, ← HNN.out]; omega)] at hj
        rw [← hj]
        simp [hj2]
      have H1 : Hid (∀ v ∈ cs, v.oneCell' = true) := by show ∀ _, _; rw [HCS.out]; exact cb_one _
      have HJ : Hid (Blk (wr.drew.setCells g (8 + L % 64) cs) g (hc s (blk.take (L % 64) ++ rest.take (min n (64 - L % 64)) ++ blk.drop (L % 64 + (rest.take (min n (64 - L % 64))).length)) L) 204) := by
        have h := setCells_eq g cs (8 + L % 64) wr.drew _ _ hblk.drew (by rw [len_hc s blk L hs64, HCL.out]; omega)
        rw [HCS.out] at h ⊢
        rw [hc_block s blk _ L _ hs64 (by rw [List.length_take, ← HNN.out]; omega)] at h
        exact h
      have HO : Hid (Only g w (wr.drew.setCells g (8 + L % 64) cs)) := Only.setCells _ _ _ hI.onl.drew
      have HP : Hid (KOk (wr.drew.setCells g (8 + L % 64) cs)) := fun j hj => by rw [World.cell?_setCells_out _ _ _ _ _ (fun h => absurd h hg)]; exact hI.kok j hj
      have HY : Hid (Bytes (wr.drew.setCells g (8 + L % 64) cs) g (.slice (some ⟨b, off, none⟩) n cap) rest) := ⟨_, cap, by rw [← HNN.out], by rw [← HNN.out]; exact hcap, fun _ => ⟨b, off, rfl, hbg, fun j hj => by rw [World.cell?_setCells_out _ _ _ _ _ (fun h => absurd h hbg)]; exact hsrc j (by rw [HNN.out]; exact hj)⟩⟩
      have HSay : Hid (Says s blk cur) := hsay
      clear hle hlt hs64 hsrc hblk hsay hI
      have hsl := fun wx => slice_arr g L wx
      go_wp2
      go_region_law (refine step_copy_cells rfl _ _ 23 23 rfl 5 Tryz.underlying23 Tryz.info5 g (8 + L % 64) (64 - L % 64) (64 - L % 64) ⟨b, off, none⟩ n cap rfl rfl cs HCL.out ?_ ?_ H1.out ?_; (intro j v hj; simpa using HS.out j v hj); (simpa using HT.out))
      clear HS HT H1 HCS cn hsl
      obtain ⟨blk2, HB2⟩ : ∃ x, Hid (x = blk.take (L % 64) ++ rest.take (min n (64 - L % 64)) ++ blk.drop (L % 64 + (rest.take (min n (64 - L % 64))).length)) := ⟨_, rfl⟩
      rw [← HB2.out] at HJ
      generalize World.setCells _ _ _ _ = w2 at *
      generalize cs.length = c at *
      as_aux_lemma =>
        have hc0 : 0 < c := by have := HCL.out; omega
        have hcn : c ≤ n := by have := HCL.out; omega
        have hc64 : L % 64 + c ≤ 64 := by have := HCL.out; omega
        have HW2 : Hid ((rest.take (min n (64 - L % 64))).length = c) := by show _ = _; rw [List.length_take, ← HNN.out]; have := HCL.out; omega
        have hb64 : Hid (blk2.length = 64) := by show _ = _; rw [HB2.out]; have := HSay.out.len; have h2 := HW2.out; simp [this] at h2 ⊢; omega
        have cn : w2.cell? ⟨g, 72, none⟩ = some (.int .u64 (L : Int)) := by rw [HJ.out.cell, hc_len s blk2 L hb64.out]
        have fn : w2.frozen? ⟨g, 72, none⟩ = false := HJ.out.frozen 72
        have HE : Hid (∀ w4 v4, HashIs 204 w4 g (cur ++ rest.take c) → Bytes w4 g v4 (rest.drop c) → Only g w w4 → KOk w4 → WrInv g w m bs (k + c) v4 w4) := by
          intro w4 v4 h1 h2 h3 h4
          have e1 : k + c ≤ bs.length := by have := HN.out; rw [← HRest.out, ← HNN.out] at this; omega
          refine ⟨e1, ?_, ?_, h3, h4⟩
          · rw [HRest.out, List.drop_drop] at h2; exact h2
          · rw [HRest.out, HCur.out, List.append_assoc] at h1
            have e2 : bs.take k ++ (bs.drop k).take c = bs.take (k + c) := by rw [List.take_add]
            rw [e2] at h1; exact h1
        have HF : Hid (rest.take (min n (64 - L % 64)) = rest.take c) := by show _ = _; rw [HCL.out]
        clear HRest HCur HN HL HM hpos hl
        by_cases hfull : L % 64 + c = 64
        · have ht : ((((L : Int) + (c : Int)).tmod 64) == 0) = true := by
            rw [Int.tmod_eq_emod_of_nonneg (by omega), beq_iff_eq]; omega
          have H3 : Hid (Blk (w2.setCell ⟨g, 72, none⟩ (.int .u64 ((L : Int) + (c : Int)))) g (hc s blk2 (L + c)) 204) := by
            have h1 := HJ.out.set 72 (.int .u64 (((L + c : Nat) : Int)))
            rw [hc_setn s blk2 L (L + c) hb64.out] at h1
            exact h1
          have HO3 : Hid (Only g w (w2.setCell ⟨g, 72, none⟩ (.int .u64 ((L : Int) + (c : Int))))) := HO.out.setCell _ _
          have HP3 : Hid (KOk (w2.setCell ⟨g, 72, none⟩ (.int .u64 ((L : Int) + (c : Int))))) := HP.out.only ((Only.refl _ _).setCell _ _) hg
          have HY3 : Hid (Bytes (w2.setCell ⟨g, 72, none⟩ (.int .u64 ((L : Int) + (c : Int)))) g (.slice (some ⟨b, off, none⟩) n cap) rest) := HY.out.only ((Only.refl _ _).setCell _ _)
          have HG : Hid (Says (compress s blk2) blk2 (cur ++ rest.take c)) := by
            have h2 := HSay.out.full (y := rest.take c) (by rw [← HLL.out, ← HF.out, HW2.out]; omega)
            rw [← HLL.out, ← HF.out, ← HB2.out, HF.out] at h2
            exact h2
          have HX : Hid ((cur ++ rest.take c).length = L + c) := by show _ = _; rw [List.length_append, ← HLL.out, ← HF.out, HW2.out]
          by_cases hcc : cap = c
          all_goals
            go_wp2
            clear cn fn HJ HO HP HY
            generalize World.setCell _ _ _ = w3 at *
            as_aux_lemma =>
              have HYO : Hid (∀ w5, Only g w3 w5 → Bytes w5 g (.slice (some ⟨b, off, none⟩) n cap) rest) := fun w5 h => HY3.out.only h
              have HZ : Hid ((Tryz.prog.info? 106).map (·.size) = some (cb blk2).length) := by rw [cb_len, hb64.out]; exact Tryz.info106
              refine wp_region_last_lit (C := WC g w w3 s blk2 (L + c)) (by simp) (by kernel_rfl) (by kernel_rfl) (by kernel_rfl) ⟨H3.out.drew, HO3.out.drew, HP3.out, (Only.refl _ _).drew⟩ ?_
              simp only [List.dropLast_cons_cons, List.dropLast_singleton, List.getLast_cons_cons, List.getLast_singleton, List.cons_append, List.nil_append, idle]
              refine wpQuiet_val rfl (.pointer (some ⟨g, 0, none⟩)) (fun _ _ => by simp [go_sem]) ?_
              simp only [Act.put, List.setIfInBounds_toArray, List.set_cons_zero, List.set_cons_succ]
              refine wpQuiet_val rfl (.pointer (some ⟨g, 0, none⟩)) (fun _ _ => by simp [go_sem]) ?_
              simp only [Act.put, List.setIfInBounds_toArray, List.set_cons_zero, List.set_cons_succ]
              refine wpQuiet_val rfl (.pointer (some ⟨g, 0, none⟩)) (fun _ _ => by simp [go_sem]) ?_
              simp only [Act.put, List.setIfInBounds_toArray, List.set_cons_zero, List.set_cons_succ]
              refine wpQuiet_val rfl (.pointer (some ⟨g, 0, none⟩)) (fun _ _ => by simp [go_sem]) ?_
              simp only [Act.put, List.setIfInBounds_toArray, List.set_cons_zero, List.set_cons_succ]
              refine wpQuiet_load rfl 184 _ rfl g 0 rfl (cw s.l) _ (fun _ hx => hc_range_words hx.blk) Tryz.underlying184 rfl Tryz.info184 ?_
              simp only [Act.put, List.setIfInBounds_toArray, List.set_cons_zero, List.set_cons_succ]
              refine wpQuiet_val rfl (.pointer (some ⟨g, 0, none⟩)) (fun _ _ => by simp [go_sem]) ?_
              simp only [Act.put, List.setIfInBounds_toArray, List.set_cons_zero, List.set_cons_succ]
              refine wpQuiet_val rfl (.pointer (some ⟨g, 0, none⟩)) (fun _ _ => by simp [go_sem]) ?_
              simp only [Act.put, List.setIfInBounds_toArray, List.set_cons_zero, List.set_cons_succ]
              refine wpQuiet_val rfl (.pointer (some ⟨g, 8, none⟩)) (fun _ _ => by simp [go_sem]) ?_
              simp only [Act.put, List.setIfInBounds_toArray, List.set_cons_zero, List.set_cons_succ]
              refine wpQuiet_load rfl 106 _ rfl g 8 rfl (cb blk2) _ (fun _ hx => hc_range_block hx.blk hb64.out) Tryz.underlying106 rfl HZ.out ?_
              simp only [Act.put, List.setIfInBounds_toArray, List.set_cons_zero, List.set_cons_succ]
              refine wpQuiet_call rfl 169 _ _ rfl mix_enter #[.agg (cw s.l).toArray, .agg (cb blk2).toArray] (by simp [go_sem]) (.agg (cw (compress s blk2).l).toArray) (fun wx hx => (mix_any s blk2 hb64.out wx hx.kok).mono fun e w' ⟨he, hb⟩ => ⟨he, hx.blk.below hb hx.blk.lt, hx.onl.trans (Only.of_below hb), hx.kok.below hb hx.kok.lt, hx.onl2.trans (Only.of_below hb)⟩) ?_
              simp only [Act.put, List.setIfInBounds_toArray, List.set_cons_zero, List.set_cons_succ]
              refine wpQuiet_val rfl (.pointer (some ⟨g, 0, none⟩)) (fun _ _ => by simp [go_sem]) ?_
              simp only [Act.put, List.setIfInBounds_toArray, List.set_cons_zero, List.set_cons_succ]
              refine wpQuiet_val rfl (.pointer (some ⟨g, 0, none⟩)) (fun _ _ => by simp [go_sem]) ?_
              simp only [Act.put, List.setIfInBounds_toArray, List.set_cons_zero, List.set_cons_succ]
              refine wpQuiet_nil ?_
              intro w5 h5
              refine wp_store_mid 184 _ _ rfl g 0 (cw (compress s blk2).l).toArray rfl rfl (hc_there h5.blk hb64.out) Tryz.info184 (all_oneCell_toArray (cw_one _)) ?_
              have HB5 : Hid (HashIs 204 (w5.setCells g 0 (cw (compress s blk2).l)) g (cur ++ rest.take c)) := ⟨_, blk2, by rw [HX.out]; exact hc_store h5.blk hb64.out _, HG.out⟩
              simp only [Act.put]
              go_wp2
              go_roundw
              case rel =>
                refine ⟨k + c, HE.out _ _ HB5.out ?_ (Only.setCells _ _ _ h5.onl) (h5.kok.only (Only.setCells _ _ _ (Only.refl _ _)) hg)⟩
                have HY5 := HYO.out w5 h5.onl2
                first | exact (HY5.drop_if hcn).only (Only.setCells _ _ _ (Only.refl _ _)) | exact (HY5.drop_eq hcn ‹_›).only (Only.setCells _ _ _ (Only.refl _ _)) | exact (HY5.drop_ne hcn).only (Only.setCells _ _ _ (Only.refl _ _))
              case measure => simp [sliceLen]; omega
        · have ht : ((((L : Int) + (c : Int)).tmod 64) == 0) = false := by
            rw [Int.tmod_eq_emod_of_nonneg (by omega), beq_eq_false_iff_ne]; omega
          have HG : Hid (HashIs 204 (w2.setCell ⟨g, 72, none⟩ (.int .u64 ((L : Int) + (c : Int)))) g (cur ++ rest.take c)) := by
            have h1 := HJ.out.set 72 (.int .u64 (((L + c : Nat) : Int)))
            rw [hc_setn s blk2 L (L + c) hb64.out] at h1
            have h2 := HSay.out.more (y := rest.take c) (by rw [← HLL.out, ← HF.out, HW2.out]; omega)
            rw [← HLL.out, ← HF.out, ← HB2.out, HF.out] at h2
            have e3 : (cur ++ rest.take c).length = L + c := by rw [List.length_append, ← HLL.out, ← HF.out, HW2.out]
            refine ⟨s, blk2, ?_, h2⟩
            rw [e3]; exact h1
          go_wp2
          all_goals
            go_roundw
            case rel =>
              refine ⟨k + c, HE.out _ _ HG.out ?_ (HO.out.setCell _ _) ?_⟩
              · first | exact (HY.out.drop_if hcn).only ((Only.refl _ _).setCell _ _) | exact (HY.out.drop_eq hcn ‹_›).only ((Only.refl _ _).setCell _ _) | exact (HY.out.drop_ne hcn).only ((Only.refl _ _).setCell _ _)
              · exact HP.out.only ((Only.refl _ _).setCell _ _) hg
            case measure => simp [sliceLen]; omega
    · have hk : k = bs.length := by omega
      have HF : Hid (HashIs 204 wr g (m ++ bs)) := by have := hI.hsh; rw [hk, List.take_length] at this; exact this
      obtain ⟨ad, cap, hv, hcap, hpos⟩ := hI.byt
      have hz : (bs.drop k).length = 0 := by simp; omega
      rw [hz] at hv
      subst hv
      have HO : Hid (Only g w wr) := hI.onl
      clear hI hpos
      go_wp2
      go_end0
      exact ⟨rfl, HF.out, HO.out⟩
end Go.Proofs.YtopmeedmgjdcgaaGreatDoor
/- The walks of sha.firstWords, sha.New and (*sha.Hash).Clone. -/
namespace Go.Proofs.YtopmeedmgjdcgaaGreatDoor
open Go.RowKit
set_option maxRecDepth 100000
def zb64 : List (BitVec 8) := List.replicate 64 0
theorem st0_cells : [Value.int .u32 1779033703, Value.int .u32 3144134277, Value.int .u32 1013904242, Value.int .u32 2773480762, Value.int .u32 1359893119, Value.int .u32 2600822924, Value.int .u32 528734635, Value.int .u32 1541459225] = cw st0.l := by kernel_rfl
theorem built_hash : Tryz.prog.built 204 [(0, .agg (cw st0.l).toArray)] = some (hc st0 zb64 0).toArray := by kernel_rfl
theorem Tryz.info204 : (Tryz.prog.info? 204).map (·.size) = some 73 := by kernel_rfl
theorem wpList_build1 {P : Program} {ops : Array Oper} {rest : List Oper} {o : Oper} {a : Act} {w : World} {Q : Exit → Act → World → Prop} (hg : o.guard = none) (t : TypeId) (x : Operand)
    (ho : o.op = .build t #[(0, x)]) (v : Value) (e : a.eval x = v) (cs : Array Value) (hb : P.built t [(0, v)] = some cs) (h : wpList P ops Q rest (a.put o.dst (.agg cs)) w) : wpList P ops Q (o :: rest) a w :=
  wpList_build hg t _ ho (by simp [e, hb]) (by simpa [e, hb] using h)
set_option maxHeartbeats 400000 in
theorem firstWords_any (w : World) : Calls Tryz.prog 168 #[] w fun e w' => e = .returned (.agg (cw st0.l).toArray) ∧ Below w.heap.size w w' := by
  go_enter Tryz.func168, Tryz.ntmps168
  go_wp2_with (first
    | (refine wpList_build8 rfl 184 _ _ _ _ _ _ _ _ rfl _ _ _ _ _ _ _ _ rfl rfl rfl rfl rfl rfl rfl rfl (built8 _ _ _ _ _ _ _ _) ?_)
    | (refine wpList_store8 rfl 184 _ _ rfl _ _ _ _ _ _ _ _ _ rfl rfl ((Blk.new w (cw z8) 184).there 0 8 (by simp [cw_len, len_z8])) Tryz.info184 ?_))
  have hB := (Blk.new w (cw z8) 184).whole [Value.int .u32 1779033703, Value.int .u32 3144134277, Value.int .u32 1013904242, Value.int .u32 2773480762, Value.int .u32 1359893119, Value.int .u32 2600822924, Value.int .u32 528734635, Value.int .u32 1541459225] (by rw [cw_len, len_z8]; rfl)
  refine bodyPost_ret (v := .agg #[Value.int .u32 1779033703, Value.int .u32 3144134277, Value.int .u32 1013904242, Value.int .u32 2773480762, Value.int .u32 1359893119, Value.int .u32 2600822924, Value.int .u32 528734635, Value.int .u32 1541459225]) (results_cell_row (by rfl) _ _ w.heap.size 184 _ (0, 0) _ rfl hB Tryz.underlying184 rfl Tryz.info184) rfl ⟨by rw [← st0_cells], Below.setCells _ (Nat.le_refl _) _ _ _ ((Below.refl _ _).alloc (Nat.le_refl _) _)⟩
def stz : St := ⟨0, 0, 0, 0, 0, 0, 0, 0⟩
theorem zero_hash (w : World) : (zeroValue 204).run Tryz.prog w = .ok (.agg (hc stz zb64 0).toArray) w := by kernel_rfl
theorem says0 : Says st0 zb64 [] := ⟨rfl, rfl, rfl⟩
set_option maxRecDepth 100000 in
set_option maxHeartbeats 400000 in
theorem new_any (w : World) : Calls Tryz.prog 160 #[] w fun e w' => ∃ g, e = .returned (.pointer (some ⟨g, 0, none⟩)) ∧ w.heap.size ≤ g ∧ HashIs 204 w' g [] ∧ Below w.heap.size w w' := by
  go_enter Tryz.func160, Tryz.ntmps160
  go_wp2_with (first
    | (go_at_call 168; refine (firstWords_any _).mono ?_; rintro e w1 ⟨rfl, hw1⟩)
    | (refine wpList_build1 rfl 204 _ rfl _ rfl _ built_hash ?_))
  go_ret
  exact ⟨w1.heap.size, rfl, hw1.size, ⟨st0, zb64, Blk.new w1 _ _, says0⟩, hw1.alloc hw1.size _⟩
end Go.Proofs.YtopmeedmgjdcgaaGreatDoor
/- The walk of sha.Pad: what stands behind so many bytes. -/
namespace Go.Proofs.YtopmeedmgjdcgaaGreatDoor
open Go.RowKit
set_option maxRecDepth 100000
def padN (n : Nat) : Nat := (119 - n % 64) % 64
def bitsOf (n : Nat) : Nat := 8 * n % 18446744073709551616
def padL (k B : Nat) : Nat → List (BitVec 8)
  | 0 => 128#8 :: List.replicate (k + 8) 0
  | i + 1 => (padL k B i).set (k + 8 - i) (BitVec.ofNat 8 (B / 2 ^ (8 * i)))
def pad (n : Nat) : List (BitVec 8) := padL (padN n) (bitsOf n) 8
theorem len_padL (k B i : Nat) : (padL k B i).length = k + 9 := by
  induction i with
  | zero => simp [padL]
  | succ i ih => simp [padL, ih]
theorem padN_eq (n : Nat) : (IntKind.u64.wrap (55 - (n : Int))).tmod 64 = (padN n : Int) := by
  rw [IntKind.wrap_u64, Int.tmod_eq_emod_of_nonneg (by omega), padN]; omega
theorem bitsOf_eq (n : Nat) : IntKind.u64.wrap (8 * (n : Int)) = (bitsOf n : Int) := by
  rw [IntKind.wrap_u64, bitsOf]; omega
theorem Tryz.infob : (Tryz.prog.info? 5).map (fun i => (i.zero, i.size, i.bytes)) = some (some (.int .u8 0), 1, 1) := by kernel_rfl
theorem make_bytes (k : Nat) (hk : k < 281474976710600) (w : World) : (Instr.makeSlice 23 (.int .u64 (1 + (k : Int) + 8)) (.int .u64 (1 + (k : Int) + 8))).run Tryz.prog w =
    .ok (.slice (some ⟨w.heap.size, 0, none⟩) (k + 9) (k + 9)) (w.alloc (.cells (cb (List.replicate (k + 9) 0)).toArray 5)) := by
  obtain ⟨i0, hi, hz0, hz1, hz2⟩ := info_parts Tryz.infob
  rw [run_make (P := Tryz.prog) w 23 5 i0 _ Tryz.underlying23 hi hz0 .u64 .u64 _ _ (by omega) (by omega) (by rw [hz2]; omega) (by omega)]
  have e : (1 + (k : Int) + 8).toNat = k + 9 := by omega
  rw [e, hz1, Nat.mul_one]
  congr 3
  simp [madeCells, cb, Value.cells, Nat.mod_one]
  apply Array.ext
  · simp
  · intro j h1 h2; simp
theorem byte_of' (B j : Nat) : (((BitVec.ofNat 8 (B / 2 ^ (8 * j))).toNat : Nat) : Int) = (B : Int) / 2 ^ (8 * j) % 256 := by simp
set_option maxHeartbeats 400000 in
theorem pad_any (n : Nat) (w : World) : Calls Tryz.prog 170 #[.int .u64 (n : Int)] w fun e w' => e = .returned (.slice (some ⟨w.heap.size, 0, none⟩) (padN n + 9) (padN n + 9)) ∧ Blk w' w.heap.size (cb (pad n)) 5 ∧ Below w.heap.size w w' := by
  have h1 := padN_eq n
  have h2 := bitsOf_eq n
  have HP : Hid (pad n = padL (padN n) (bitsOf n) 8) := rfl
  have hk : padN n < 64 := by unfold padN; omega
  generalize padN n = k at *
  generalize bitsOf n = B at *
  have hmk := fun wx => make_bytes k (by omega) wx
  go_enter Tryz.func170, Tryz.ntmps170
  have hc0 : (cb (List.replicate (k + 9) 0#8))[0]? = some (.int .u8 0) := by simp [cb]
  have HS : Hid (Blk (w.alloc (.cells ((cb (List.replicate (k + 9) 0)).set 0 (.int .u8 128)).toArray 5)) w.heap.size (cb (padL k B 0)) 5) := by
    have := Blk.new w ((cb (List.replicate (k + 9) 0)).set 0 (.int .u8 128)) 5
    rw [show (Value.int .u8 128) = .int .u8 ((128#8).toNat : Int) from rfl, cb_set] at this
    exact this
  go_wp2
  go_loopw [18] (fun i wr => ∃ j : Nat, j ≤ 8 ∧ i = .int .i64 j ∧ Blk wr w.heap.size (cb (padL k B j)) 5 ∧ Below w.heap.size w wr) (fun i _ => 8 - (intOf i).toNat)
  case atStart =>
    exact ⟨0, by omega, rfl, HS.out, (Below.refl _ _).alloc (Nat.le_refl _) _⟩
  case round =>
    clear HS
    obtain ⟨j, hj, rfl, hB, hbel⟩ := hrel
    by_cases hlt : j < 8
    · obtain ⟨o, cT⟩ : ∃ o, wr.cell? ⟨w.heap.size, k + 8 - j, none⟩ = some o := ⟨_, by rw [hB.cell, cb_get _ _ (by rw [len_padL]; omega)]⟩
      have fT : wr.frozen? ⟨w.heap.size, k + 8 - j, none⟩ = false := hB.frozen _
      have HB : Hid (Blk wr w.heap.size (cb (padL k B j)) 5) := hB
      clear hB
      go_wp2
      go_roundw
      case rel =>
        refine ⟨j + 1, by omega, by go_num, ?_, hbel.setCell (Nat.le_refl _) _⟩
        have h := HB.out.set (k + 8 - j) (.int .u8 (((BitVec.ofNat 8 (B / 2 ^ (8 * j))).toNat : Nat) : Int))
        rw [cb_set, byte_of'] at h
        exact h
      case measure => simp [intOf]; omega
    · have hj8 : j = 8 := by omega
      subst hj8
      have HB : Hid (Blk wr w.heap.size (cb (pad n)) 5) := by show Blk _ _ _ _; rw [HP.out]; exact hB
      clear hB
      go_wp2
      go_ret
      exact ⟨rfl, HB.out, hbel⟩
end Go.Proofs.YtopmeedmgjdcgaaGreatDoor
/- The walk of sha.wordBytes: eight words as thirty-two bytes. -/
namespace Go.Proofs.YtopmeedmgjdcgaaGreatDoor
open Go.RowKit
set_option maxRecDepth 100000
theorem Tryz.info155 : (Tryz.prog.info? 155).map (·.size) = some 32 := by kernel_rfl
/-- the bytes after i words, and j bytes of the next one -/
def outB (l : List (BitVec 32)) : Nat → List (BitVec 8)
  | 0 => zb32
  | k + 1 => (outB l k).set k ((l.getD (k / 4) 0 >>> (24 - 8 * (k % 4))).setWidth 8)
theorem len_outB (l : List (BitVec 32)) (k : Nat) : (outB l k).length = 32 := by
  induction k with
  | zero => rfl
  | succ k ih => simp [outB, ih]
structure OutInv (w : World) (l : List (BitVec 32)) (k : Nat) (wr : World) : Prop where
  wds : Blk wr w.heap.size (cw l) 184
  res : Blk wr (w.heap.size + 1) (cb zb32) 155
  out : Blk wr (w.heap.size + 1 + 1) (cb (outB l k)) 155
  bel : Below w.heap.size w wr
theorem OutInv.store {w wr : World} {l : List (BitVec 32)} {k : Nat} (h : OutInv w l k wr) (v : Int) (hv : v = (((l.getD (k / 4) 0 >>> (24 - 8 * (k % 4))).setWidth 8).toNat : Int)) :
    OutInv w l (k + 1) (wr.setCell ⟨w.heap.size + 1 + 1, k, none⟩ (.int .u8 v)) := by
  subst hv
  exact ⟨h.wds.other _ _ (by simp; omega), h.res.other _ _ (by simp), by have := h.out.set k (.int .u8 (((l.getD (k / 4) 0 >>> (24 - 8 * (k % 4))).setWidth 8).toNat : Int)); rw [cb_set] at this; exact this, h.bel.setCell (by simp; omega) _⟩
theorem shr_byte (x : BitVec 32) (s : Nat) : (x.toNat : Int) / 2 ^ s % 256 = (((x >>> s).setWidth 8).toNat : Int) := by
  simp [BitVec.toNat_ushiftRight, Nat.shiftRight_eq_div_pow]
set_option maxHeartbeats 400000 in
theorem wordBytes_any (l : List (BitVec 32)) (hl : l.length = 8) (w : World) :
    Calls Tryz.prog 171 #[.agg (cw l).toArray] w fun e w' => e = .returned (.agg (cb (outB l 32)).toArray) ∧ Below w.heap.size w w' := by
  have HN : Hid (l.length = 8) := hl
  clear hl
  go_enter Tryz.func171, Tryz.ntmps171
  go_wp2
  go_loopw [6] (fun i wr => ∃ k : Nat, k ≤ 8 ∧ i = .int .i64 k ∧ OutInv w l (4 * k) wr) (fun i _ => 8 - (intOf i).toNat)
  case atStart =>
    refine ⟨0, by omega, rfl, ?_, ?_, ?_, ?_⟩
    · exact ((Blk.new w (cw l) 184).alloc _).alloc _
    · exact (Blk.new_at (w := w.alloc (.cells (cw l).toArray 184)) (by simp) (cb zb32) 155).alloc (.cells (cb zb32).toArray 155)
    · exact Blk.new_at (w := (w.alloc (.cells (cw l).toArray 184)).alloc (.cells (cb zb32).toArray 155)) (by simp) (cb zb32) 155
    · exact (((Below.refl _ _).alloc (Nat.le_refl _) _).alloc (by simp) _).alloc (by simp; omega) _
  case round =>
    obtain ⟨i, hi, rfl, hI⟩ := hrel
    by_cases hlt : i < 8
    · go_wp2
      go_loopw [9] (fun v wr => ∃ j : Nat, j ≤ 4 ∧ v = .int .i64 j ∧ OutInv w l (4 * i + j) wr) (fun v _ => 4 - (intOf v).toNat)
      case atStart => exact ⟨0, by omega, rfl, hI⟩
      case round =>
        clear hI
        obtain ⟨j, hj, rfl, hI⟩ := hrel
        by_cases hlj : j < 4
        · obtain ⟨x, HX⟩ : ∃ x, Hid (x = l.getD i 0) := ⟨_, rfl⟩
          have cx : wr.cell? ⟨w.heap.size, i, none⟩ = some (.int .u32 (x.toNat : Int)) := by rw [hI.wds.cell, cw_get l i (by have := HN.out; omega), HX.out]
          obtain ⟨o, cT⟩ : ∃ o, wr.cell? ⟨w.heap.size + 1 + 1, 4 * i + j, none⟩ = some o := ⟨_, by rw [hI.out.cell, cb_get _ _ (by rw [len_outB]; omega)]⟩
          have fT : wr.frozen? ⟨w.heap.size + 1 + 1, 4 * i + j, none⟩ = false := hI.out.frozen _
          go_wp2
          go_roundw
          case rel =>
            refine ⟨j + 1, by omega, by go_num, ?_⟩
            refine hI.store _ ?_
            rw [show (4 * i + j) / 4 = i by omega, show (4 * i + j) % 4 = j by omega, ← HX.out, shr_byte]
          case measure => simp [intOf]; omega
        · have hj4 : j = 4 := by omega
          subst hj4
          go_wp2
          go_roundw
          case rel => exact ⟨i + 1, by omega, by go_num, hI⟩
          case measure => simp [intOf]; omega
    · have hi8 : i = 8 := by omega
      subst hi8
      obtain ⟨cs, HC⟩ : ∃ x, Hid (x = cb (outB l 32)) := ⟨_, rfl⟩
      have HO : Hid (Blk wr (w.heap.size + 1 + 1) cs 155) := by rw [HC.out]; exact hI.out
      have HL : Hid (cs.length = 32) := by show _ = _; rw [HC.out, cb_len, len_outB]
      have HZ : Hid ((Tryz.prog.info? 155).map (·.size) = some cs.length) := by show _ = _; rw [HL.out]; exact Tryz.info155
      have H1 : Hid (∀ v ∈ cs, v.oneCell' = true) := by show ∀ _, _; rw [HC.out]; exact cb_one _
      have HR : Hid (Blk wr (w.heap.size + 1) (cb zb32) 155) := hI.res
      have hbel := hI.bel
      clear hI
      go_wp2_with (first
        | (refine wpList_load_mid rfl 155 _ rfl (w.heap.size + 1 + 1) 0 rfl cs _ HO.out.range Tryz.underlying155 rfl HZ.out ?_)
        | (refine wpList_store_mid rfl 155 _ _ rfl (w.heap.size + 1) 0 cs.toArray rfl rfl (HR.out.there 0 _ (by rw [List.size_toArray, HL.out, cb_len, len_zb32]; omega)) (by simpa using HZ.out) (all_oneCell_toArray H1.out) ?_))
      have hB := HR.out.whole cs (by rw [HL.out, cb_len, len_zb32])
      refine bodyPost_ret (v := .agg cs.toArray) (results_cell_row (by rfl) _ _ (w.heap.size + 1) 155 _ (0, 0) _ rfl hB Tryz.underlying155 rfl (by simpa using HZ.out)) rfl ⟨by rw [HC.out], Below.setCells _ (by omega) _ _ _ hbel⟩
end Go.Proofs.YtopmeedmgjdcgaaGreatDoor
/- The walks of (*sha.Hash).Digest and sha.Sum: the digest of what was written. -/
namespace Go.Proofs.YtopmeedmgjdcgaaGreatDoor
open Go.RowKit
set_option maxRecDepth 100000
/-- the digest of a text -/
def dig (m : List (BitVec 8)) : List (BitVec 8) := outB (blocks ((m ++ pad m.length).length / 64) st0 (m ++ pad m.length)).l 32
theorem len_pad (n : Nat) : (pad n).length = padN n + 9 := len_padL _ _ _
theorem bytes_of {w : World} {g b : Nat} {bs : List (BitVec 8)} {t : TypeId} {n : Nat} (h : Blk w b (cb bs) t) (hn : bs.length = n) (hne : b ≠ g) : Bytes w g (.slice (some ⟨b, 0, none⟩) n n) bs :=
  ⟨_, n, by rw [hn], by omega, fun _ => ⟨b, 0, rfl, hne, fun j hj => by rw [h.cell, Nat.zero_add, cb_get bs j hj]⟩⟩
/-- behind the copy: the result's block, the copy's block, the old one -/
structure DgInv (w : World) (g : Nat) (m : List (BitVec 8)) (L : Nat) (w2 : World) : Prop where
  cell : w2.cell? ⟨g, 72, none⟩ = some (.int .u64 (L : Int))
  kok : KOk w2
  res : Blk w2 w.heap.size (cb zb32) 155
  cpy : HashIs 204 w2 (w.heap.size + 1) m
  bel : Below w.heap.size w w2
theorem DgInv.start {w : World} {g : Nat} {m : List (BitVec 8)} {cs : List Value} {L : Nat} {s : St} {blk : List (BitVec 8)} (hb : Blk w g cs 204) (hK : KOk w) (hC : cs = hc s blk L) (hL : m.length = L) (hS : Says s blk m) :
    DgInv w g m L (((w.alloc (.cells (cb zb32).toArray 155)).alloc (.cells (hc stz zb64 0).toArray 204)).setCells (w.heap.size + 1) 0 cs) := by
  have hb0 : Below w.heap.size w (((w.alloc (.cells (cb zb32).toArray 155)).alloc (.cells (hc stz zb64 0).toArray 204)).setCells (w.heap.size + 1) 0 cs) :=
    Below.setCells _ (by omega) _ _ _ (((Below.refl _ _).alloc (Nat.le_refl _) _).alloc (by simp) _)
  refine ⟨?_, hK.below hb0 hK.lt, ?_, ?_, hb0⟩
  · rw [(hb.below hb0 hb.lt).cell, hC, hc_len s blk L hS.len]
  · exact Blk.others _ _ _ _ ((Blk.new w (cb zb32) _).alloc _) (by omega)
  · refine ⟨s, blk, ?_, hS⟩
    rw [hL, ← hC]
    exact (Blk.new_at (w := w.alloc (.cells (cb zb32).toArray 155)) (by simp) (hc stz zb64 0) _).whole cs (by rw [hC, len_hc s blk L hS.len]; rfl)
set_option maxRecDepth 100000 in
set_option maxHeartbeats 400000 in
theorem digest_any (g : Nat) (m : List (BitVec 8)) (w : World) (hK : KOk w) (hH : HashIs 204 w g m) (hm : m.length < 2305843009213693952) :
    Calls Tryz.prog 162 #[.pointer (some ⟨g, 0, none⟩)] w fun e w' => e = .returned (.agg (cb (dig m)).toArray) ∧ Below w.heap.size w w' := by
  obtain ⟨s, blk, hb, hs⟩ := hH
  obtain ⟨cs, HC⟩ : ∃ x, Hid (x = hc s blk m.length) := ⟨_, rfl⟩
  have HL : Hid (cs.length = 73) := by show _ = _; rw [HC.out]; exact len_hc s blk m.length hs.len
  have cn : w.cell? ⟨g, 72, none⟩ = some (.int .u64 (m.length : Int)) := by rw [hb.cell, hc_len s blk _ hs.len]
  have hlt := hb.lt
  rw [← HC.out] at hb
  have HZ : Hid ((Tryz.prog.info? 204).map (·.size) = some cs.length) := by show _ = _; rw [HL.out]; exact Tryz.info204
  have H1 : Hid (∀ v ∈ cs, v.oneCell' = true) := by
    show ∀ _, _
    rw [HC.out]; intro v hv
    simp only [hc, List.mem_append, List.mem_singleton] at hv
    rcases hv with hv | hv | rfl
    · exact cw_one _ v hv
    · exact cb_one _ v hv
    · rfl
  have HS : Hid (Says s blk m) := hs
  have HK : Hid (KOk w) := hK
  clear hs hK
  generalize hml : m.length = L at *
  have HML : Hid (m.length = L) := hml
  clear hml
  have hal := zero_hash
  have hb2 : w.rangeAt g 0 cs := hb.range
  go_enter Tryz.func162, Tryz.ntmps162
  go_wp2_with (first
    | (refine wpList_load_mid rfl 204 _ rfl g 0 rfl cs _ (World.rangeAt_alloc hb2 _) Tryz.underlying204 rfl HZ.out ?_)
    | (refine wpList_store_mid rfl 204 _ _ rfl _ 0 cs.toArray rfl rfl ?_ (by simpa using HZ.out) (all_oneCell_toArray H1.out) ?_; exact Blk.there (Blk.new_at (by simp) (hc stz zb64 0) _) _ _ (by rw [List.size_toArray, HL.out, len_hc _ _ _ rfl]; omega); refine Hid.out ?_))
  generalize h0 : Obj.cells _ 155 = o32
  have ho : o32 = Obj.cells (cb zb32).toArray 155 := h0.symm
  clear h0
  subst ho
  have hI := DgInv.start (g := g) hb HK.out HC.out HML.out HS.out
  clear hb hb2 HK HS cn H1 HZ HC hal
  generalize World.setCells _ _ _ _ = w2 at *
  unfold Hid
  as_aux_lemma =>
    have cn := hI.cell
    have HI : Hid (DgInv w g m L w2) := hI
    have hp9 : padN L < 64 := by unfold padN; omega
    clear hI
    have HD : Hid (∀ s4 blk4, Says s4 blk4 (m ++ pad L) → outB s4.l 32 = dig m) := by
      intro s4 blk4 h4
      rw [dig, HML.out, ← h4.wds]
    go_wp2_with fail
    refine (pad_any L _).mono ?_
    rintro e w3 ⟨rfl, hp3, hb3⟩
    go_wp2_with fail
    have e1 : 1 ≠ w.heap.size + 1 := by have := HI.out.kok.lt; have := HI.out.bel.size; have := HI.out.cpy.lt; omega
    have e2 : Bytes w3 (w.heap.size + 1) (.slice (some ⟨w2.heap.size, 0, none⟩) (padN L + 9) (padN L + 9)) (pad L) := bytes_of hp3 (len_pad L) (Nat.ne_of_gt HI.out.cpy.lt)
    have e3 : m.length + (pad L).length < 4611686018427387904 := by rw [len_pad, HML.out]; omega
    refine (write_any (w.heap.size + 1) m (pad L) _ _ e1 (HI.out.kok.below hb3 HI.out.kok.lt) (HI.out.cpy.below hb3 HI.out.cpy.lt) e2 e3).mono ?_
    rintro e w4 ⟨rfl, hh4, ho4⟩
    obtain ⟨s4, blk4, hb4, hs4⟩ := hh4
    have HE := HD.out s4 blk4 hs4
    have HR : Hid (Blk w4 w.heap.size (cb zb32) 155) := (HI.out.res.below hb3 (Nat.lt_of_lt_of_le (Nat.lt_succ_self _) (Nat.le_of_lt HI.out.cpy.lt))).only ho4 (by omega)
    have HBel : Hid (Below w.heap.size w w4) := HI.out.bel.trans ((hb3.mono HI.out.bel.size).trans (ho4.below (by omega) (by have := hb3.size; have := HI.out.bel.size; omega)))
    have HX : Hid (outB s4.l 32 = dig m) := HE
    clear e1 e2 e3 HI hp3 hb3 ho4 HD hs4 HE
    go_wp2_with (refine wpList_load_mid rfl 184 _ rfl (w.heap.size + 1) 0 rfl (cw s4.l) _ (hc_range_words hb4) Tryz.underlying184 rfl Tryz.info184 ?_)
    refine (wordBytes_any s4.l rfl _).mono ?_
    rintro e w5 ⟨rfl, hb5⟩
    have HL2 : Hid ((cb (outB s4.l 32)).length = 32) := by show _ = _; rw [cb_len, len_outB]
    have HZ2 : Hid ((Tryz.prog.info? 155).map (·.size) = some (cb (outB s4.l 32)).length) := by show _ = _; rw [HL2.out]; exact Tryz.info155
    have HR5 : Hid (Blk w5 w.heap.size (cb zb32) 155) := HR.out.below hb5 HR.out.lt
    obtain ⟨ds, HDS⟩ : ∃ x, Hid (x = cb (dig m)) := ⟨_, rfl⟩
    rw [HX.out, ← HDS.out] at HL2 HZ2 ⊢
    have H1 : Hid (∀ v ∈ ds, v.oneCell' = true) := by show ∀ _, _; rw [HDS.out]; exact cb_one _
    clear HX
    go_wp2_with (refine wpList_store_mid rfl 155 _ _ rfl w.heap.size 0 ds.toArray rfl rfl (HR5.out.there 0 _ (by rw [List.size_toArray, HL2.out, cb_len, len_zb32]; omega)) (by simpa using HZ2.out) (all_oneCell_toArray H1.out) ?_)
    have hB := HR5.out.whole ds (by rw [HL2.out, cb_len, len_zb32])
    refine bodyPost_ret (v := .agg ds.toArray) (results_cell_row (by rfl) _ _ w.heap.size 155 _ (0, 0) _ rfl hB Tryz.underlying155 rfl (by simpa using HZ2.out)) rfl ⟨by rw [HDS.out], Below.setCells _ (Nat.le_refl _) _ _ _ (HBel.out.trans (hb5.mono HBel.out.size))⟩
end Go.Proofs.YtopmeedmgjdcgaaGreatDoor
/- The walks of sha.Sum and of the statements' own example: the digest of a text. -/
namespace Go.Proofs.YtopmeedmgjdcgaaGreatDoor
open Go.RowKit
set_option maxRecDepth 100000
/-- the slice v reads as the bytes bs -/
def Reads (w : World) (v : Value) (bs : List (BitVec 8)) : Prop :=
  ∃ ad cap, v = .slice ad bs.length cap ∧ bs.length ≤ cap ∧ (ad = none → cap = 0) ∧ (0 < bs.length → ∃ b off, ad = some ⟨b, off, none⟩ ∧ ∀ j, j < bs.length → w.cell? ⟨b, off + j, none⟩ = some (.int .u8 ((bs.getD j 0).toNat : Int)))
theorem Reads.bytes {w : World} {v : Value} {bs : List (BitVec 8)} (h : Reads w v bs) {g : Nat} (hg : w.heap.size ≤ g) : Bytes w g v bs := by
  obtain ⟨ad, cap, hv, hc, _, hx⟩ := h
  refine ⟨ad, cap, hv, hc, fun hp => ?_⟩
  obtain ⟨b, off, h1, h2⟩ := hx hp
  refine ⟨b, off, h1, ?_, h2⟩
  have := block_lt_of_cell (h2 0 hp)
  simp at this
  omega
theorem Reads.below {w w' : World} {v : Value} {bs : List (BitVec 8)} (h : Reads w v bs) (hb : Below w.heap.size w w') : Reads w' v bs := by
  obtain ⟨ad, cap, hv, hc, hn, hx⟩ := h
  refine ⟨ad, cap, hv, hc, hn, fun hp => ?_⟩
  obtain ⟨b, off, h1, h2⟩ := hx hp
  exact ⟨b, off, h1, fun j hj => by rw [hb.cell (p := ⟨b, off + j, none⟩) (block_lt_of_cell (h2 j hj))]; exact h2 j hj⟩
set_option maxRecDepth 100000 in
set_option maxHeartbeats 400000 in
theorem sum_any (v : Value) (bs : List (BitVec 8)) (w : World) (hK : KOk w) (hR : Reads w v bs) (hl : bs.length < 2305843009213693952) :
    Calls Tryz.prog 148 #[v] w fun e w' => e = .returned (.agg (cb (dig bs)).toArray) ∧ Below w.heap.size w w' := by
  have HK : Hid (KOk w) := hK
  have HR : Hid (Reads w v bs) := hR
  clear hK hR
  go_enter Tryz.func148, Tryz.ntmps148
  go_wp2_with fail
  generalize h0 : Obj.cells _ 155 = o32
  have ho : o32 = Obj.cells (cb zb32).toArray 155 := h0.symm
  clear h0
  subst ho
  have ha : Below w.heap.size w (w.alloc (.cells (cb zb32).toArray 155)) := (Below.refl _ _).alloc (Nat.le_refl _) _
  refine (new_any _).mono ?_
  rintro e w1 ⟨g, rfl, hg, hh, hb1⟩
  simp at hg hb1
  have HB1 : Hid (Below w.heap.size w w1) := ha.trans (hb1.mono (by omega))
  have HR1 : Hid (Blk w1 w.heap.size (cb zb32) 155) := (Blk.new w (cb zb32) 155).below hb1 (by omega)
  have HG : Hid (w.heap.size + 1 ≤ g) := hg
  clear hg hb1 ha
  go_wp2_with fail
  have hk1 := HK.out.below HB1.out HK.out.lt
  have e1 : 1 ≠ g := by have := HK.out.lt; have := HG.out; omega
  have e2 : Bytes w1 g v bs := by
    have := HG.out
    exact (HR.out.bytes (g := g) (by omega)).below HB1.out
  refine (write_any g [] bs v _ e1 hk1 hh e2 (by simp; omega)).mono ?_
  rintro e w2 ⟨rfl, hh2, ho2⟩
  have HB2 : Hid (Below w.heap.size w w2) := HB1.out.trans (ho2.below (by have := HG.out; omega) HB1.out.size)
  have HR2 : Hid (Blk w2 w.heap.size (cb zb32) 155) := HR1.out.only ho2 (by have := HG.out; omega)
  have hk2 := HK.out.below HB2.out HK.out.lt
  rw [List.nil_append] at hh2
  clear e1 e2 hk1 hh ho2 HR1 HB1
  go_wp2_with fail
  refine (digest_any g bs _ hk2 hh2 hl).mono ?_
  rintro e w3 ⟨rfl, hb3⟩
  obtain ⟨ds, HDS⟩ : ∃ x, Hid (x = cb (dig bs)) := ⟨_, rfl⟩
  have HL2 : Hid (ds.length = 32) := by show _ = _; rw [HDS.out, cb_len, dig, len_outB]
  have HZ2 : Hid ((Tryz.prog.info? 155).map (·.size) = some ds.length) := by show _ = _; rw [HL2.out]; exact Tryz.info155
  have H1 : Hid (∀ v ∈ ds, v.oneCell' = true) := by show ∀ _, _; rw [HDS.out]; exact cb_one _
  have HR3 : Hid (Blk w3 w.heap.size (cb zb32) 155) := HR2.out.below hb3 HR2.out.lt
  rw [← HDS.out]
  clear hk2 hh2
  go_wp2_with (refine wpList_store_mid rfl 155 _ _ rfl w.heap.size 0 ds.toArray rfl rfl (HR3.out.there 0 _ (by rw [List.size_toArray, HL2.out, cb_len, len_zb32]; omega)) (by simpa using HZ2.out) (all_oneCell_toArray H1.out) ?_)
  have hB := HR3.out.whole ds (by rw [HL2.out, cb_len, len_zb32])
  refine bodyPost_ret (v := .agg ds.toArray) (results_cell_row (by rfl) _ _ w.heap.size 155 _ (0, 0) _ rfl hB Tryz.underlying155 rfl (by simpa using HZ2.out)) rfl ⟨by rw [HDS.out], Below.setCells _ (Nat.le_refl _) _ _ _ (HB2.out.trans (hb3.mono HB2.out.size))⟩
end Go.Proofs.YtopmeedmgjdcgaaGreatDoor
/- Two digests held against each other. -/
namespace Go.Proofs.YtopmeedmgjdcgaaGreatDoor
open Go.RowKit
set_option maxRecDepth 100000
end Go.Proofs.YtopmeedmgjdcgaaGreatDoor
/- append on slices of bytes that the call itself made, in the words of these proofs. -/
namespace Go.Proofs.YtopmeedmgjdcgaaGreatDoor
open Go.RowKit
set_option maxRecDepth 100000
/-- the slice v, the call's own from block base on, holds the bytes l -/
def OwnB (w : World) (base : Nat) (v : Value) (l : List (BitVec 8)) : Prop := w.ownsRow base 5 1 v l.length (cb l)
theorem OwnB.nil (w : World) (base : Nat) : OwnB w base (.slice none 0 0) [] := World.ownsRow_nil _ _ _ _
theorem OwnB.reads {w : World} {base : Nat} {v : Value} {l : List (BitVec 8)} (h : OwnB w base v l) : Reads w v l := by
  obtain ⟨h1, h2⟩ := h
  rcases h2 with ⟨rfl, h0⟩ | ⟨g, cap, cur, rfl, hg, hh, hc, hm, hs, ht⟩
  · exact ⟨none, 0, by rw [h0], by omega, fun _ => rfl, fun hp => by omega⟩
  · refine ⟨_, cap, rfl, hc, (fun h => by cases h), fun _ => ⟨g, 0, rfl, fun j hj => ?_⟩⟩
    rw [cell_of_row w g (0 + j) cur _ (0, 0) hh, Nat.zero_add]
    rw [Nat.mul_one] at ht
    have := cb_get l j hj
    rw [← ht, List.getElem?_take_of_lt hj] at this
    simpa using this
theorem OwnB.below {w w' : World} {base B : Nat} {v : Value} {l : List (BitVec 8)} (h : OwnB w base v l) (hb : Below B w w') (hB : w.heap.size ≤ B) : OwnB w' base v l := by
  obtain ⟨h1, h2⟩ := h
  refine ⟨h1, ?_⟩
  rcases h2 with h2 | ⟨g, cap, cur, hv, hg, hh, r⟩
  · exact Or.inl h2
  · have hlt : g < w.heap.size := by
      rcases Nat.lt_or_ge g w.heap.size with h' | h'
      · exact h'
      · rw [Array.getElem?_eq_none h'] at hh; cases hh
    exact Or.inr ⟨g, cap, cur, hv, hg, by rw [hb.block g (by omega)]; exact hh, r⟩
theorem OwnB.own {w : World} {base : Nat} {v : Value} {l : List (BitVec 8)} (h : OwnB w base v l) : ∀ k, v.ownBlock = some k → base ≤ k := by
  obtain ⟨h1, h2⟩ := h
  rcases h2 with ⟨rfl, h0⟩ | ⟨g, cap, cur, rfl, hg, _⟩
  · intro k hk; simp [Value.ownBlock] at hk
  · intro k hk; simp [Value.ownBlock] at hk; omega
theorem wpList_appendB {w : World} {ops : Array Oper} {rest : List Oper} {o : Oper} {a : Act} {Q : Exit → Act → World → Prop} (hgd : o.guard = none) (s x : Operand)
    (ho : o.op = .call { callee := .builtin .append, args := #[s, x], argTypes := #[23, 23] }) (base : Nat)
    (v : Value) (l : List (BitVec 8)) (hs : a.eval s = v) (hown : OwnB w base v l) (vx : Value) (news : List (BitVec 8)) (hx : a.eval x = vx) (hr : Reads w vx news)
    (hlen : l.length + news.length ≤ 140737488355328) (hbase : base ≤ w.heap.size)
    (h : ∀ v' w', OwnB w' base v' (l ++ news) → Below base w w' → (news ≠ [] → v' ≠ .slice none 0 0) → wpList Tryz.prog ops Q rest (a.put o.dst v') w') : wpList Tryz.prog ops Q (o :: rest) a w := by
  obtain ⟨i0, hi, hz0, hz1, hz2⟩ := info_parts Tryz.infob
  obtain ⟨ad, cap, rfl, hcap, hnn, hpos⟩ := hr
  cases ad with
  | some ad =>
    refine wpList_append_own (P := Tryz.prog) w hgd s x 23 ho base 5 i0 (.int .u8 0) 1 1 Tryz.underlying23 hi hz0 hz1 hz2 rfl (by decide) v l.length (cb l) hs hown ad news.length cap (cb news) hx (by rw [cb_len]; omega) ?_ (cb_one _) (by unfold maxLen; omega) (by omega) hbase ?_
    · intro j u hj
      have hjl : j < news.length := by have := (List.getElem?_eq_some_iff.1 hj).1; rwa [cb_len] at this
      obtain ⟨b, off, h1, h2⟩ := hpos (by omega)
      cases h1
      rw [Addr.add_mid, h2 j hjl, ← hj, cb_get news j hjl]
    · intro v' w' h1 h2 h3
      refine h v' w' ?_ ((Below.refl _ _).grown h2 hbase (fun k hk => hown.own k hk)) (fun hne hv => ?_)
      · have e : cb l ++ cb news = cb (l ++ news) := by simp [cb]
        rw [e] at h1
        unfold OwnB; rw [List.length_append]; exact h1
      · have := (h3.1 hv).2
        exact hne (List.eq_nil_of_length_eq_zero this)
  | none =>
    have hn0 : news = [] := by
      cases news with
      | nil => rfl
      | cons b r => obtain ⟨b, off, h1, _⟩ := hpos (by simp); cases h1
    subst hn0
    have hc0 := hnn rfl
    subst hc0
    refine wpList_append_own_none (P := Tryz.prog) hgd s x 23 ho base 5 i0 1 Tryz.underlying23 hi v l.length (cb l) hs hown hx ?_
    exact h v w (by rw [List.append_nil]; exact hown) (Below.refl _ _) (fun hne => absurd rfl hne)
end Go.Proofs.YtopmeedmgjdcgaaGreatDoor
/- The walks of blazonref01.Pad, Same and Join. -/
namespace Go.Proofs.YtopmeedmgjdcgaaGreatDoor
open Go.RowKit
set_option maxRecDepth 100000
def tl8 (B i : Nat) : List (BitVec 8) := (List.range i).map fun j => BitVec.ofNat 8 (B / 2 ^ (56 - 8 * j))
theorem reads_val (w : World) (x : Int) (b : BitVec 8) (hx : x = (b.toNat : Int)) : Reads (w.alloc (.cells #[.int .u8 x] 5)) (.slice (some ⟨w.heap.size, 0, none⟩) 1 1) [b] := by
  subst hx
  exact ⟨_, 1, rfl, Nat.le_refl _, (fun h => by cases h), fun _ => ⟨w.heap.size, 0, rfl, fun j hj => by match j, hj with | 0, _ => simp⟩⟩
structure RpInv (w : World) (l : List (BitVec 8)) (v : Value) (wr : World) : Prop where
  own : OwnB wr w.heap.size v l
  bel : Below w.heap.size w wr
end Go.Proofs.YtopmeedmgjdcgaaGreatDoor
/- The walk of blazonref01.Same: are two texts the same? -/
namespace Go.Proofs.YtopmeedmgjdcgaaGreatDoor
open Go.RowKit
set_option maxRecDepth 100000
def strB (l : List (BitVec 8)) : ByteArray := strOfNums (l.map fun b => (b.toNat : Int))
theorem conv_reads {w : World} {v : Value} {l : List (BitVec 8)} (h : Reads w v l) : (convert 23 9 v).run Tryz.prog w = .ok (.string (strB l)) w := by
  obtain ⟨ad, cap, rfl, hcap, hnn, hpos⟩ := h
  have key : ∀ a : Addr, ad = some a → (loadCells a l.length).run Tryz.prog w = .ok ((l.map fun b => (b.toNat : Int)).map (Value.int .u8)).toArray w := by
    intro a ha
    have hh := run_loadCells_list (P := Tryz.prog) w a ((l.map fun b => (b.toNat : Int)).map (Value.int .u8)) (fun j u hj => by
      have hjl : j < l.length := by have := (List.getElem?_eq_some_iff.1 hj).1; simpa using this
      obtain ⟨b, off, h1, h2⟩ := hpos (by omega)
      rw [ha] at h1
      cases h1
      rw [Addr.add_mid, h2 j hjl, ← hj]
      simp [hjl])
    simpa using hh
  rw [run_convert_bytes_string w 23 9 5 _ _ _ Tryz.underlying23 Tryz.underlying5 Tryz.underlying9]
  cases ad with
  | some a =>
    rw [run_bytesToString w a l.length cap _ (key a rfl), foldl_push_bytes]
    simp [strB, strOfNums]
  | none =>
    have h0 : l = [] := by
      cases l with
      | nil => rfl
      | cons b r => obtain ⟨b, off, h1, _⟩ := hpos (by simp); cases h1
    subst h0
    simp [Conv.bytesToString, strB, strOfNums]
    rfl
theorem strB_inj (a b : List (BitVec 8)) : ((strB a).toList == (strB b).toList) = decide (a = b) := by
  rw [ByteArray.toList_eq, ByteArray.toList_eq]
  unfold strB
  rw [strOfNums_data, strOfNums_data, List.map_map, List.map_map]
  by_cases h : a = b
  · subst h; simp
  · have hinj : ∀ x y : BitVec 8, UInt8.ofNat ((x.toNat : Int)).toNat = UInt8.ofNat ((y.toNat : Int)).toNat → x = y := by
      intro x y hxy
      have h2 := congrArg UInt8.toNat hxy
      have hx := x.isLt
      have hy := y.isLt
      simp at h2
      exact BitVec.eq_of_toNat_eq (by omega)
    have hne : ∀ a b : List (BitVec 8), a.map ((fun n : Int => UInt8.ofNat n.toNat) ∘ fun b => (b.toNat : Int)) = b.map ((fun n : Int => UInt8.ofNat n.toNat) ∘ fun b => (b.toNat : Int)) → a = b := by
      intro a
      induction a with
      | nil => intro b hb; cases b with
        | nil => rfl
        | cons y b => simp at hb
      | cons x a ih => intro b hb; cases b with
        | nil => simp at hb
        | cons y b =>
          rw [List.map_cons, List.map_cons, List.cons.injEq] at hb
          rw [hinj x y hb.1, ih b hb.2]
    rw [decide_eq_false h, beq_eq_false_iff_ne]
    exact fun he => h (hne a b he)
set_option maxHeartbeats 400000 in
theorem same_any (va vb : Value) (la lb : List (BitVec 8)) (w : World) (ha : Reads w va la) (hb : Reads w vb lb) :
    Calls Tryz.prog 16 #[va, vb] w fun e w' => e = .returned (.bool (decide (la = lb))) ∧ w' = w := by
  have hs := strB_inj la lb
  have ca := conv_reads ha
  have cb := conv_reads hb
  clear ha hb
  go_enter Tryz.func16, Tryz.ntmps16
  go_wp2
  go_ret
  exact ⟨rfl, rfl⟩
end Go.Proofs.YtopmeedmgjdcgaaGreatDoor
/- Keyed digests, as the chapter has them, on lists of bytes. No program is named here. -/
namespace Go.Proofs.YtopmeedmgjdcgaaGreatDoor
open Go.RowKit
set_option maxRecDepth 100000
theorem len_dig' (bs : List (BitVec 8)) : (dig bs).length = 32 := by unfold dig; exact len_outB _ _
end Go.Proofs.YtopmeedmgjdcgaaGreatDoor
/- The walk of blazonref01.words: the same 64 words that sha.spread makes. -/
namespace Go.Proofs.YtopmeedmgjdcgaaGreatDoor
open Go.RowKit
set_option maxRecDepth 100000
structure RwInv (w : World) (l : List (BitVec 32)) (wr : World) : Prop where
  res : Blk wr w.heap.size (cw z64) 196
  wds : Blk wr (w.heap.size + 1) (cw l) 196
  bel : Below w.heap.size w wr
theorem RwInv.store {w wr : World} {l : List (BitVec 32)} (h : RwInv w l wr) (k : Nat) (v : BitVec 32) :
    RwInv w (l.set k v) ((wr.setCell ⟨w.heap.size + 1, k, none⟩ (.int .u32 (v.toNat : Int))).drew) :=
  ⟨(h.res.other _ _ (by simp)).drew, by have := (h.wds.set k (.int .u32 (v.toNat : Int))).drew; rw [cw_set] at this; exact this, (h.bel.setCell (by simp) _).drew⟩
theorem RwInv.drewN {w wr : World} {l : List (BitVec 32)} (h : RwInv w l wr) (n : Nat) : RwInv w l (wr.drewN n) := ⟨h.res, h.wds, ⟨h.bel.os, h.bel.tape, h.bel.output, h.bel.size, h.bel.block⟩⟩
theorem RwInv.at {w wr : World} {l : List (BitVec 32)} (h : RwInv w l wr) (j : Nat) (hj : j < l.length) : wr.cell? ⟨w.heap.size + 1, j, none⟩ = some (.int .u32 ((l.getD j 0).toNat : Int)) := by
  rw [h.wds.cell, cw_get l j hj]
end Go.Proofs.YtopmeedmgjdcgaaGreatDoor
/- The walks of blazonref01.first, round and block: the same eight words that sha.mix makes. -/
namespace Go.Proofs.YtopmeedmgjdcgaaGreatDoor
open Go.RowKit
set_option maxRecDepth 100000
def kcs : List Value := cw kw
/-- behind the words: the eight words' box, the result, the block's words -/
structure Rb1 (w : World) (s : St) (ws : List (BitVec 32)) (g5 : Nat) (wr : World) : Prop where
  box : Blk wr w.heap.size (cw s.l) 184
  res : Blk wr (w.heap.size + 1) (cw z8) 184
  sch : Blk wr g5 (cw ws) 196
  bel : Below w.heap.size w wr
  lt5 : w.heap.size + 1 < g5
theorem Rb1.below {w w1 w2 : World} {s : St} {ws : List (BitVec 32)} {g5 : Nat} (h : Rb1 w s ws g5 w1) (hb : Below w1.heap.size w1 w2) : Rb1 w s ws g5 w2 :=
  ⟨h.box.below hb h.box.lt, h.res.below hb h.res.lt, h.sch.below hb h.sch.lt, h.bel.trans (hb.mono h.bel.size), h.lt5⟩
/-- and the rounds' words -/
structure Rb2 (w : World) (s : St) (ws : List (BitVec 32)) (g5 g6 : Nat) (wr : World) : Prop where
  one : Rb1 w s ws g5 wr
  kks : Blk wr g6 kcs 196
  lt6 : g5 < g6
/-- and the state -/
structure Rb3 (w : World) (s : St) (ws : List (BitVec 32)) (g5 g6 g7 : Nat) (q : St) (wr : World) : Prop where
  two : Rb2 w s ws g5 g6 wr
  stt : Blk wr g7 (cw q.l) 184
  lt7 : g6 < g7
theorem Rb3.drewN {w wr : World} {s q : St} {ws : List (BitVec 32)} {g5 g6 g7 : Nat} (h : Rb3 w s ws g5 g6 g7 q wr) (n : Nat) : Rb3 w s ws g5 g6 g7 q (wr.drewN n) :=
  ⟨⟨⟨h.two.one.box, h.two.one.res, h.two.one.sch, ⟨h.two.one.bel.os, h.two.one.bel.tape, h.two.one.bel.output, h.two.one.bel.size, h.two.one.bel.block⟩, h.two.one.lt5⟩, h.two.kks, h.two.lt6⟩, h.stt, h.lt7⟩
theorem Rb3.store {w wr : World} {s q : St} {ws : List (BitVec 32)} {g5 g6 g7 : Nat} (h : Rb3 w s ws g5 g6 g7 q wr) (q' : St) : Rb3 w s ws g5 g6 g7 q' (wr.setCells g7 0 (cw q'.l)) := by
  have h5 := h.two.one.lt5
  have h6 := h.two.lt6
  have h7 := h.lt7
  have hb := h.two.one.bel
  refine ⟨⟨⟨?_, ?_, ?_, Below.setCells _ (by omega) _ _ _ hb, h5⟩, ?_, h6⟩, h.stt.whole _ rfl, h7⟩
  · exact Blk.others _ _ _ _ h.two.one.box (by omega)
  · exact Blk.others _ _ _ _ h.two.one.res (by omega)
  · exact Blk.others _ _ _ _ h.two.one.sch (by omega)
  · exact Blk.others _ _ _ _ h.two.kks (by omega)
def plusL (s q : St) : Nat → List (BitVec 32)
  | 0 => s.l
  | k + 1 => (plusL s q k).set k ((plusL s q k).getD k 0 + q.l.getD k 0)
structure Rb4 (w : World) (s q : St) (g7 k : Nat) (wr : World) : Prop where
  box : Blk wr w.heap.size (cw (plusL s q k)) 184
  res : Blk wr (w.heap.size + 1) (cw z8) 184
  stt : Blk wr g7 (cw q.l) 184
  bel : Below w.heap.size w wr
  lt7 : w.heap.size + 1 < g7
theorem Rb4.store {w wr : World} {s q : St} {g7 k' : Nat} (h : Rb4 w s q g7 k' wr) (k : Nat) (v : BitVec 32) (hv : v = (plusL s q k').getD k 0 + q.l.getD k 0) (hk : k = k' := by rfl) :
    Rb4 w s q g7 (k' + 1) ((wr.setCell ⟨w.heap.size, k, none⟩ (.int .u32 (v.toNat : Int))).drew) := by
  subst hk
  subst hv
  have h7 := h.lt7
  refine ⟨?_, (h.res.other _ _ (by simp)).drew, (h.stt.other _ _ (by simp; omega)).drew, (h.bel.setCell (by simp) _).drew, h7⟩
  have := (h.box.set k (.int .u32 (((plusL s q k).getD k 0 + q.l.getD k 0).toNat : Int))).drew
  rw [cw_set] at this
  exact this
end Go.Proofs.YtopmeedmgjdcgaaGreatDoor
/- The walk of blazonref01.Sum: the same digest. -/
namespace Go.Proofs.YtopmeedmgjdcgaaGreatDoor
open Go.RowKit
set_option maxRecDepth 100000
structure RsInv (w : World) (g4 : Nat) (m : List (BitVec 8)) (va : Value) (q : St) (wr : World) : Prop where
  res : Blk wr w.heap.size (cb zb32) 155
  hh : Blk wr g4 (cw q.l) 184
  rd : Bytes wr g4 va m
  bel : Below w.heap.size w wr
  lt : w.heap.size < g4
structure OsInv (w : World) (g4 g6 : Nat) (q : St) (k : Nat) (wr : World) : Prop where
  res : Blk wr w.heap.size (cb zb32) 155
  hh : Blk wr g4 (cw q.l) 184
  out : Blk wr g6 (cb (outB q.l k)) 155
  bel : Below w.heap.size w wr
  lt4 : w.heap.size < g4
  lt6 : g4 < g6
theorem OsInv.store {w wr : World} {g4 g6 : Nat} {q : St} {k : Nat} (h : OsInv w g4 g6 q k wr) (v : Int) (hv : v = (((q.l.getD (k / 4) 0 >>> (24 - 8 * (k % 4))).setWidth 8).toNat : Int)) :
    OsInv w g4 g6 q (k + 1) (wr.setCell ⟨g6, k, none⟩ (.int .u8 v)) := by
  subst hv
  have h4 := h.lt4
  have h6 := h.lt6
  exact ⟨h.res.other _ _ (by simp; omega), h.hh.other _ _ (by simp; omega), by have := h.out.set k (.int .u8 (((q.l.getD (k / 4) 0 >>> (24 - 8 * (k % 4))).setWidth 8).toNat : Int)); rw [cb_set] at this; exact this, h.bel.setCell (by simp; omega) _, h4, h6⟩
end Go.Proofs.YtopmeedmgjdcgaaGreatDoor
/- make of a slice of bytes, of any length that a memory bears; and what a block of bytes reads as. -/
namespace Go.Proofs.YtopmeedmgjdcgaaGreatDoor
open Go.RowKit
set_option maxRecDepth 100000
theorem Blk.reads {w : World} {g : Nat} {bs : List (BitVec 8)} {t : TypeId} (h : Blk w g (cb bs) t) {n c : Nat} (hn : n = bs.length) (hc : bs.length ≤ c) : Reads w (.slice (some ⟨g, 0, none⟩) n c) bs := by
  subst hn
  exact ⟨_, _, rfl, hc, (fun h => by cases h), fun _ => ⟨g, 0, rfl, fun j hj => by rw [h.cell, Nat.zero_add, cb_get _ j hj]⟩⟩
end Go.Proofs.YtopmeedmgjdcgaaGreatDoor
/- The walk of blazonref01.Join: texts, one behind the other. -/
namespace Go.Proofs.YtopmeedmgjdcgaaGreatDoor
open Go.RowKit
set_option maxRecDepth 100000
/-- the slice v of slices reads as the texts ls -/
def ReadsL (w : World) (v : Value) (ls : List (List (BitVec 8))) : Prop :=
  ∃ ad cap, v = .slice ad ls.length cap ∧ ls.length ≤ cap ∧ (ad = none → cap = 0) ∧ (0 < ls.length → ∃ b off, ad = some ⟨b, off, none⟩ ∧ ∀ j, j < ls.length → ∃ vj, w.cell? ⟨b, off + j, none⟩ = some vj ∧ Reads w vj (ls.getD j []))
theorem ReadsL.below {w w' : World} {v : Value} {ls : List (List (BitVec 8))} (h : ReadsL w v ls) (hb : Below w.heap.size w w') : ReadsL w' v ls := by
  obtain ⟨ad, cap, hv, hc, hn, hx⟩ := h
  refine ⟨ad, cap, hv, hc, hn, fun hp => ?_⟩
  obtain ⟨b, off, h1, h2⟩ := hx hp
  refine ⟨b, off, h1, fun j hj => ?_⟩
  obtain ⟨vj, h3, h4⟩ := h2 j hj
  exact ⟨vj, by rw [hb.cell (p := ⟨b, off + j, none⟩) (block_lt_of_cell h3)]; exact h3, h4.below hb⟩
theorem flat_take (ls : List (List (BitVec 8))) (k : Nat) (h : k < ls.length) : (ls.take (k + 1)).flatten = (ls.take k).flatten ++ ls.getD k [] := by
  rw [List.take_add_one, List.getElem?_eq_getElem h, List.flatten_append]
  simp [h]
theorem flat_le (ls : List (List (BitVec 8))) (k : Nat) : (ls.take k).flatten.length ≤ ls.flatten.length := by
  have := congrArg (fun l => (List.flatten l).length) (List.take_append_drop k ls)
  simp only [List.flatten_append, List.length_append] at this
  omega
set_option maxHeartbeats 400000 in
theorem rjoin_any (v : Value) (ls : List (List (BitVec 8))) (w : World) (hR : ReadsL w v ls) (hl : ls.flatten.length ≤ 140737488355328) (hn : ls.length < 4611686018427387904) :
    Calls Tryz.prog 74 #[v] w fun e w' => ∃ v', e = .returned v' ∧ Reads w' v' ls.flatten ∧ Below w.heap.size w w' := by
  have HR : Hid (ReadsL w v ls) := hR
  obtain ⟨ad, cap, hv, hcap, _, _⟩ := hR
  obtain ⟨n, HNN⟩ : ∃ n, Hid (n = ls.length) := ⟨_, rfl⟩
  rw [← HNN.out] at hv hcap hn
  subst hv
  go_enter Tryz.func74, Tryz.ntmps74
  go_wp2
  go_loopw [3, 4] (fun u i wr => ∃ k : Nat, k ≤ n ∧ i = .int .i64 k ∧ RpInv w (ls.take k).flatten u wr) (fun _ i _ => n - (intOf i).toNat)
  case atStart => exact ⟨0, by omega, rfl, OwnB.nil _ _, Below.refl _ _⟩
  case round =>
    obtain ⟨k, hk, rfl, hI⟩ := hrel
    have HI : Hid (RpInv w (ls.take k).flatten u3 wr) := hI
    by_cases hlt : k < n
    · obtain ⟨ad', cap', hv', _, _, hx⟩ := HR.out.below hI.bel
      rw [← HNN.out] at hv' hx
      simp only [Value.slice.injEq, true_and] at hv'
      obtain ⟨rfl, rfl⟩ := hv'
      obtain ⟨b, off, rfl, hx2⟩ := hx (by omega)
      obtain ⟨vj, cj, hj⟩ := hx2 k hlt
      have HJ : Hid (Reads wr vj (ls.getD k [])) := hj
      have HF : Hid ((ls.take (k + 1)).flatten = (ls.take k).flatten ++ ls.getD k []) := flat_take ls k (by rw [← HNN.out]; exact hlt)
      have HL : Hid ((ls.take k).flatten.length + (ls.getD k []).length ≤ 140737488355328) := by
        have h1 := flat_le ls (k + 1)
        rw [HF.out, List.length_append] at h1
        exact Nat.le_trans h1 hl
      clear hx hx2 hj hI
      go_wp2_with (at_builtin; refine wpList_appendB rfl (.tmp 11) (.tmp 15) rfl w.heap.size _ (ls.take k).flatten rfl HI.out.own _ (ls.getD k []) rfl HJ.out HL.out HI.out.bel.size ?_; intro v2 w2 hown2 hb2 _)
      have hJ : RpInv w (ls.take (k + 1)).flatten v2 w2 := ⟨by rw [HF.out]; exact hown2, HI.out.bel.trans hb2⟩
      clear hown2 hb2 HI
      go_roundw
      case rel => exact ⟨k + 1, by omega, by go_num, hJ⟩
      case measure => simp [intOf]; omega
    · have hkn : k = n := by omega
      subst hkn
      have HV : Hid (Reads wr u3 ls.flatten) := by
        have := hI.own.reads
        rw [HNN.out, List.take_of_length_le (Nat.le_refl _)] at this
        exact this
      have hbel := hI.bel
      clear hI HI HR
      go_wp2
      go_ret
      exact ⟨_, rfl, HV.out, hbel⟩
end Go.Proofs.YtopmeedmgjdcgaaGreatDoor
/- A few texts in a row, made by the call itself; a Hash beside another one that is written to. -/
namespace Go.Proofs.YtopmeedmgjdcgaaGreatDoor
open Go.RowKit
set_option maxRecDepth 100000
theorem HashIs.only {t : TypeId} {w w' : World} {g g' : Nat} {m : List (BitVec 8)} (h : HashIs t w g m) (ho : Only g' w w') (hne : g ≠ g') : HashIs t w' g m := by
  obtain ⟨s, blk, h1, h2⟩ := h
  exact ⟨s, blk, h1.only ho hne, h2⟩
theorem readsL_two {w : World} {va vb : Value} {la lb : List (BitVec 8)} (ha : Reads w va la) (hb : Reads w vb lb) :
    ReadsL (w.alloc (.cells #[va, vb] 23)) (.slice (some ⟨w.heap.size, 0, none⟩) 2 2) [la, lb] := by
  have hbl : Below w.heap.size w (w.alloc (.cells #[va, vb] 23)) := (Below.refl _ _).alloc (Nat.le_refl _) _
  refine ⟨_, _, rfl, Nat.le_refl _, (fun h => by cases h), fun _ => ⟨w.heap.size, 0, rfl, fun j hj => ?_⟩⟩
  match j, hj with
  | 0, _ => exact ⟨va, by rw [World.cell?_alloc_mark]; rfl, ha.below hbl⟩
  | 1, _ => exact ⟨vb, by rw [World.cell?_alloc_mark]; rfl, hb.below hbl⟩
theorem below_alloc (w : World) (o : Obj) : Below w.heap.size w (w.alloc o) := (Below.refl _ _).alloc (Nat.le_refl _) _
end Go.Proofs.YtopmeedmgjdcgaaGreatDoor
/- The walk of blazonref02.Key: the key's block, each byte turned. -/
namespace Go.Proofs.YtopmeedmgjdcgaaGreatDoor
open Go.RowKit
set_option maxRecDepth 100000
end Go.Proofs.YtopmeedmgjdcgaaGreatDoor
/- Regions that draw their order, a step at a time, where one operation alone may come up. -/
namespace Go.Proofs.YtopmeedmgjdcgaaGreatDoor
open Go.RowKit
set_option maxRecDepth 100000
end Go.Proofs.YtopmeedmgjdcgaaGreatDoor
/- The walk of blazonref02.Mac: the same keyed digest. -/
namespace Go.Proofs.YtopmeedmgjdcgaaGreatDoor
open Go.RowKit
set_option maxRecDepth 100000
end Go.Proofs.YtopmeedmgjdcgaaGreatDoor
/- The walks of tags.number and blazonref03.Number: a number's eight bytes, the highest first. -/
namespace Go.Proofs.YtopmeedmgjdcgaaGreatDoor
open Go.RowKit
set_option maxRecDepth 100000
/-- a number's eight bytes, the highest first -/
def num8 (n : Nat) : List (BitVec 8) := tl8 n 8
theorem len_num8 (n : Nat) : (num8 n).length = 8 := by simp [num8, tl8]
def numL (n : Nat) : Nat → List (BitVec 8)
  | 0 => List.replicate 8 0
  | k + 1 => (numL n k).set (7 - k) (BitVec.ofNat 8 (n / 2 ^ (8 * k)))
structure NmInv (w : World) (g : Nat) (l : List (BitVec 8)) (t : TypeId) (wr : World) : Prop where
  blk : Blk wr g (cb l) t
  bel : Below w.heap.size w wr
  le : w.heap.size ≤ g
theorem NmInv.set {w wr : World} {g : Nat} {n k : Nat} {t : TypeId} (h : NmInv w g (numL n k) t wr) (v : Int) (hv : v = ((BitVec.ofNat 8 (n / 2 ^ (8 * k))).toNat : Int)) : NmInv w g (numL n (k + 1)) t (wr.setCell ⟨g, 7 - k, none⟩ (.int .u8 v)) := by
  subst hv
  exact ⟨by have := h.blk.set (7 - k) (.int .u8 ((BitVec.ofNat 8 (n / 2 ^ (8 * k))).toNat : Int)); rw [cb_set] at this; exact this, h.bel.setCell h.le _, h.le⟩
end Go.Proofs.YtopmeedmgjdcgaaGreatDoor
/- The walks of tags.tagged and blazonref03.sign: a sign, and texts behind it; of tags.count; and a string's bytes. -/
namespace Go.Proofs.YtopmeedmgjdcgaaGreatDoor
open Go.RowKit
set_option maxRecDepth 100000
theorem strB_size (l : List (BitVec 8)) : (strB l).size = l.length := by
  have h := congrArg List.length (strOfNums_data (l.map fun b => (b.toNat : Int)))
  simpa [strB] using h
theorem strB_data (l : List (BitVec 8)) : (strB l).data.toList = l.map fun b => UInt8.ofNat b.toNat := by
  unfold strB
  rw [strOfNums_data]
  simp
theorem conv_string (l : List (BitVec 8)) (w : World) : (convert 9 23 (.string (strB l))).run Tryz.prog w = .ok (.slice (some ⟨w.heap.size, 0, none⟩) l.length (grownCap w l.length 0 5)) (Lib.bytesWorld w 5 (strB l)) := by
  have := Lib.run_convert_string_bytes (P := Tryz.prog) w 9 23 5 (strB l) Tryz.underlying9 Tryz.underlying23 Tryz.underlying5
  rw [strB_size] at this
  exact this
theorem bytesWorld_reads (l : List (BitVec 8)) (w : World) : Reads (Lib.bytesWorld w 5 (strB l)) (.slice (some ⟨w.heap.size, 0, none⟩) l.length (grownCap w l.length 0 5)) l := by
  refine ⟨_, _, rfl, grownCap_ge _ _ _ _, (fun h => by cases h), fun _ => ⟨w.heap.size, 0, rfl, fun j hj => ?_⟩⟩
  rw [Nat.zero_add, Lib.bytesWorld_cell _ _ _ _ (by rw [strB_size]; exact hj), strB_data]
  have h2 : (l.map fun b => UInt8.ofNat b.toNat).getD j 0 = UInt8.ofNat (l.getD j 0).toNat := by simp [hj]
  rw [h2]
  have := (l.getD j 0).isLt
  simp
theorem bytesWorld_below (l : List (BitVec 8)) (w : World) : Below w.heap.size w (Lib.bytesWorld w 5 (strB l)) :=
  ⟨rfl, rfl, rfl, by rw [Lib.bytesWorld_size]; omega, fun k hk => Lib.bytesWorld_at_old _ _ _ _ hk⟩
theorem OwnB.cut {w : World} {base : Nat} {v : Value} {l : List (BitVec 8)} (h : OwnB w base v l) (hne : l ≠ []) : ∃ g cap, v = .slice (some ⟨g, 0, none⟩) l.length cap ∧ l.length ≤ cap ∧ Reads w (.slice (some ⟨g, 0, none⟩) l.length l.length) l := by
  obtain ⟨ad, cap, hv, hc, hnn, hx⟩ := h.reads
  obtain ⟨h1, h2⟩ := h
  rcases h2 with ⟨rfl, h0⟩ | ⟨g, cap', cur, rfl, hg, hh, hc', hm, hs, ht⟩
  · exact absurd (List.eq_nil_of_length_eq_zero h0) hne
  · cases hv
    exact ⟨g, cap, rfl, hc', _, _, rfl, Nat.le_refl _, (fun h => by cases h), hx⟩
end Go.Proofs.YtopmeedmgjdcgaaGreatDoor
/- Regions that draw their order and hold loads beside calls: a step at a time, under a condition on the world that each step keeps. -/
namespace Go.Proofs.YtopmeedmgjdcgaaGreatDoor
open Go.RowKit
set_option maxRecDepth 100000
theorem wpAnyH_enter {P : Program} {md : Region.Mode} {ops : Array Oper} {Q : Exit → Act → World → Prop} {S : World → Prop} {fuel : Nat} {listed : Array Bool} {a : Act} {w : World} (i : Nat) {oi : Oper} {f : FuncId} {args : Array Value} {R : Ending → World → Prop}
    (hr : Region.ready md ops listed = [i]) (hi : ops[i]? = some oi) (hw : Region.wanted oi (yielded ops a.tmps) = true) (he : (execOp a.eval oi).run P w = .ok (.enter f args) w) (hc : Calls P f args w R)
    (h : ∀ e w', R e w' → ∃ v, e = .returned v ∧ S w' ∧ wpAnyH P md ops Q S fuel (listed.setIfInBounds i true) (a.put oi.dst v) w') : wpAnyH P md ops Q S (fuel + 1) listed a w := by
  refine wpAnyH_all hr (by simp) (fun j hj => ?_)
  obtain rfl : j = i := by simpa using hj
  unfold wpOp
  rw [hi]
  simp only [hw, if_true]
  left
  unfold Oper.wp
  rw [he, Oper.upon_enter]
  refine hc.mono ?_
  intro e w' hR
  obtain ⟨v, rfl, hv⟩ := h e w' hR
  exact hv
theorem wpAnyH_step {P : Program} {md : Region.Mode} {ops : Array Oper} {Q : Exit → Act → World → Prop} {S : World → Prop} {fuel : Nat} {listed : Array Bool} {a : Act} {w : World} (i : Nat) {oi : Oper} (v : Value) (w' : World)
    (hr : Region.ready md ops listed = [i]) (hi : ops[i]? = some oi) (hw : Region.wanted oi (yielded ops a.tmps) = true) (he : (execOp a.eval oi).run P w = .ok (.value v) w') (hS : S w')
    (h : wpAnyH P md ops Q S fuel (listed.setIfInBounds i true) (a.put oi.dst v) w') : wpAnyH P md ops Q S (fuel + 1) listed a w := by
  refine wpAnyH_all hr (by simp) (fun j hj => ?_)
  obtain rfl : j = i := by simpa using hj
  unfold wpOp
  rw [hi]
  simp only [hw, if_true]
  left
  unfold Oper.wp
  rw [he, Oper.upon_value]
  exact ⟨hS, h⟩
theorem load_run {P : Program} {a : Act} {o : Oper} (ty : TypeId) (x : Operand) (ho : o.op = .load ty x) (b of : Nat) (hx : a.eval x = .pointer (some ⟨b, of, none⟩)) (cs : List Value) (d : TypeDesc) {w : World} (hc : w.rangeAt b of cs)
    (hu : P.underlying ty = some d) (hd : d.isRow = true) (hi : (P.info? ty).map (·.size) = some cs.length) : (execOp a.eval o).run P w = .ok (.value (.agg cs.toArray)) w := by
  unfold execOp
  simp only [ho, hx, Instr.loadAt, Instr.sureAddr, Sem.run_bind, Sem.run_pure, Result.andThen_ok, run_loadVar_mid w b of ty cs d hc hu hd hi]
end Go.Proofs.YtopmeedmgjdcgaaGreatDoor
/- Regions that draw their order: two that may come up; what is read in a world that keeps the blocks of old. -/
namespace Go.Proofs.YtopmeedmgjdcgaaGreatDoor
open Go.RowKit
set_option maxRecDepth 100000
theorem wpOp_vl {P : Program} {ops : Array Oper} {Q : Exit → Act → World → Prop} {K : Act → World → Prop} {a : Act} {w : World} (i : Nat) {oi : Oper} (v : Value) (w' : World) (hi : ops[i]? = some oi) (hw : Region.wanted oi (yielded ops a.tmps) = true)
    (he : (execOp a.eval oi).run P w = .ok (.value v) w') (h : K (a.put oi.dst v) w') : wpOp P ops Q i K a w := by
  unfold wpOp
  rw [hi]
  simp only [hw, if_true]
  left
  unfold Oper.wp
  rw [he, Oper.upon_value]
  exact h
theorem wpOp_en {P : Program} {ops : Array Oper} {Q : Exit → Act → World → Prop} {K : Act → World → Prop} {a : Act} {w : World} (i : Nat) {oi : Oper} {f : FuncId} {args : Array Value} {R : Ending → World → Prop} (hi : ops[i]? = some oi) (hw : Region.wanted oi (yielded ops a.tmps) = true)
    (he : (execOp a.eval oi).run P w = .ok (.enter f args) w) (hc : Calls P f args w R) (h : ∀ e w', R e w' → ∃ v, e = .returned v ∧ K (a.put oi.dst v) w') : wpOp P ops Q i K a w := by
  unfold wpOp
  rw [hi]
  simp only [hw, if_true]
  left
  unfold Oper.wp
  rw [he, Oper.upon_enter]
  refine hc.mono ?_
  intro e w' hR
  obtain ⟨v, rfl, hv⟩ := h e w' hR
  exact hv
theorem wpAnyH_pair {P : Program} {md : Region.Mode} {ops : Array Oper} {Q : Exit → Act → World → Prop} {S : World → Prop} {fuel : Nat} {listed : Array Bool} {a : Act} {w : World} (i j : Nat) (hr : Region.ready md ops listed = [i, j])
    (h1 : wpOp P ops Q i (fun a' w' => S w' ∧ wpAnyH P md ops Q S fuel (listed.setIfInBounds i true) a' w') a w) (h2 : wpOp P ops Q j (fun a' w' => S w' ∧ wpAnyH P md ops Q S fuel (listed.setIfInBounds j true) a' w') a w) : wpAnyH P md ops Q S (fuel + 1) listed a w := by
  refine wpAnyH_all hr (by simp) (fun k hk => ?_)
  rcases List.mem_cons.1 hk with rfl | hk
  · exact h1
  · obtain rfl : k = j := by simpa using hk
    exact h2
/-- the world wx keeps the blocks of w0 -/
def Over (w0 wx : World) : Prop := Below w0.heap.size w0 wx
theorem Over.out {w0 wx : World} (h : Over w0 wx) : Below w0.heap.size w0 wx := h
theorem Over.refl (w : World) : Over w w := Below.refl _ _
theorem Over.more {w0 wx wy : World} (h : Over w0 wx) (hb : Below wx.heap.size wx wy) : Over w0 wy := Below.trans h (hb.mono (Below.size h))
theorem fl2 (a b : List (BitVec 8)) : [a, b].flatten.length = a.length + b.length := by simp
theorem below_cell {w0 wx : World} {p : Addr} {v : Value} (h : Over w0 wx) (hc : w0.cell? p = some v) : wx.cell? p = some v := by
  rw [Below.cell h (block_lt_of_cell hc)]; exact hc
theorem slice_dig_at (g o : Nat) (w : World) : (Instr.sliceAt 155 (.pointer (some ⟨g, o, none⟩)) none none none).run Tryz.prog w = .ok (.slice (some ⟨g, o, none⟩) 32 32) w := by kernel_rfl
end Go.Proofs.YtopmeedmgjdcgaaGreatDoor
/- The walks of Of, EmptyBytes, SameBinding and of the statements' own bound (layer 3). -/
namespace Go.Proofs.YtopmeedmgjdcgaaGreatDoor
open Go.RowKit
set_option maxRecDepth 100000
set_option maxHeartbeats 400000 in
theorem tOf_any (v : Value) (bs : List (BitVec 8)) (w : World) (hK : KOk w) (hR : Reads w v bs) (hl : bs.length < 2305843009213693952) :
    Calls Tryz.prog 125 #[v] w fun e w' => e = .returned (.agg (cb (dig bs)).toArray) ∧ Below w.heap.size w w' := by
  have HK : Hid (KOk w) := hK
  have HR : Hid (Reads w v bs) := hR
  clear hK hR
  go_enter Tryz.func125, Tryz.ntmps125
  go_wp2_with fail
  generalize h0 : Obj.cells _ 155 = o32
  have ho : o32 = Obj.cells (cb zb32).toArray 155 := h0.symm
  clear h0
  subst ho
  have hb0 := below_alloc w (Obj.cells (cb zb32).toArray 155)
  refine (sum_any _ bs _ (HK.out.below hb0 HK.out.lt) (HR.out.below hb0) hl).mono ?_
  rintro e w1 ⟨rfl, hb1⟩
  simp at hb1
  obtain ⟨es, HES⟩ : ∃ zz, Hid (zz = cb (dig bs)) := ⟨_, rfl⟩
  have HLe : Hid (es.length = 32) := by show _ = _; rw [HES.out, cb_len, len_dig']
  have HZe : Hid ((Tryz.prog.info? 155).map (·.size) = some es.length) := by show _ = _; rw [HLe.out]; exact Tryz.info155
  have H1e : Hid (∀ v ∈ es, v.oneCell' = true) := by show ∀ _, _; rw [HES.out]; exact cb_one _
  have HR1 : Hid (Blk w1 w.heap.size (cb zb32) 155) := (Blk.new w (cb zb32) 155).below hb1 (by omega)
  have HS1 : Hid (Below w.heap.size w w1) := hb0.trans (hb1.mono (by omega))
  clear hb0 hb1
  rw [← HES.out]
  go_wp2_with (refine wpList_store_mid rfl 155 _ _ rfl w.heap.size 0 es.toArray rfl rfl (HR1.out.there 0 _ (by rw [List.size_toArray, HLe.out, cb_len, len_zb32]; omega)) (by simpa using HZe.out) (all_oneCell_toArray H1e.out) ?_)
  have hB := HR1.out.whole es (by rw [HLe.out, cb_len, len_zb32])
  refine bodyPost_ret (v := .agg es.toArray) (results_cell_row (by rfl) _ _ w.heap.size 155 _ (0, 0) _ rfl hB Tryz.underlying155 rfl (by simpa using HZe.out)) rfl ⟨by rw [HES.out], Below.setCells _ (Nat.le_refl _) _ _ _ HS1.out⟩
end Go.Proofs.YtopmeedmgjdcgaaGreatDoor
/- The walks of LeafBytes, NodeBytes, ValueBytes and RootBytes, of tags and of blazonref03. -/
namespace Go.Proofs.YtopmeedmgjdcgaaGreatDoor
open Go.RowKit
set_option maxRecDepth 100000
theorem reads_drew {w : World} {v : Value} {bs : List (BitVec 8)} (h : Reads w v bs) : Reads w.drew v bs := h
end Go.Proofs.YtopmeedmgjdcgaaGreatDoor
/- What the walks of the tree share with those of the older layers: one name for them all. -/

/- Plain: a disk of sectors whose power goes (layer 13). -/
namespace Go.Proofs.YtopmeedmgjdcgaaGreatDoor
open Go.RowKit
set_option maxRecDepth 100000
abbrev Bs := List (BitVec 8)
/-- a disk: its safe bytes, what waits, at which change the power goes (-1: at none), whether it has gone -/
structure DkT where
  safe : Bs
  wait : List (Nat × Bs)
  left : Int
  down : Bool
/-- bytes with a sector's first n bytes put over them -/
def layD (b : Bs) (at_ : Nat) (x : Bs) (n : Nat) : Bs := b.take (64 * at_) ++ (x.take n ++ b.drop (64 * at_ + n))
def dumpW (b : Bs) (l : List (Nat × Bs)) : Bs := l.foldl (fun b p => layD b p.1 p.2 64) b
def dumpD (D : DkT) : Bs := dumpW D.safe D.wait
def sizeD (D : DkT) : Nat := D.safe.length / 64
def hasD (D : DkT) (i : Int) : Bool := decide (0 ≤ i) && decide (i < (sizeD D : Int))
theorem hasD_iff (D : DkT) (i : Int) : hasD D i = true ↔ 0 ≤ i ∧ i < (sizeD D : Int) := by simp [hasD]
theorem hasD_not (D : DkT) (i : Int) : hasD D i = false ↔ ¬ (0 ≤ i ∧ i < (sizeD D : Int)) := by rw [← hasD_iff]; simp
def readX13 (D : DkT) (i : Int) : Int := if D.down then 14 else if hasD D i = false then 2 else 0
def lessL (n : Int) : Int := if 0 < n then n - 1 else n
def putX13 (D : DkT) (i : Int) (b : Bs) : Int := if D.down then 14 else if hasD D i = false then 2 else if b.length ≠ 64 then 1 else if D.left = 0 then 14 else 0
def putD13 (D : DkT) (i : Int) (b : Bs) : DkT := if D.down then D else if hasD D i = false then D else if b.length ≠ 64 then D else ⟨D.safe, D.wait ++ [(i.toNat, b)], lessL D.left, decide (D.left = 0)⟩
def syncX13 (D : DkT) : Int := if D.down then 14 else if D.left = 0 then 14 else 0
def syncD13 (D : DkT) : DkT := if D.down then D else if D.left = 0 then ⟨D.safe, D.wait, D.left, true⟩ else ⟨dumpD D, [], lessL D.left, false⟩
def fuseD13 (D : DkT) (n : Int) : DkT := ⟨D.safe, D.wait, if n < 0 then -1 else n, D.down⟩
/-- a disk that may be -/
structure okD (D : DkT) : Prop where
  ex : ∃ n, 1 ≤ n ∧ n ≤ 16384 ∧ D.safe.length = 64 * n ∧ ∀ p ∈ D.wait, p.1 < n ∧ p.2.length = 64
  lo : -1 ≤ D.left
  hi : D.left < 9223372036854775808
theorem okD.size {D : DkT} (h : okD D) : D.safe.length = 64 * sizeD D ∧ 1 ≤ sizeD D ∧ sizeD D ≤ 16384 := by
  obtain ⟨n, h1, h2, h3, _⟩ := h.ex
  have e : sizeD D = n := by rw [sizeD, h3, Nat.mul_div_cancel_left _ (by decide)]
  rw [e]
  exact ⟨h3, h1, h2⟩
theorem okD.wait {D : DkT} (h : okD D) : ∀ p ∈ D.wait, p.1 < sizeD D ∧ p.2.length = 64 := by
  obtain ⟨n, h1, h2, h3, h4⟩ := h.ex
  have e : sizeD D = n := by rw [sizeD, h3, Nat.mul_div_cancel_left _ (by decide)]
  rw [e]
  exact h4
theorem len_layD {b x : Bs} {at_ n : Nat} (h : 64 * at_ + n ≤ b.length) (hx : n ≤ x.length) : (layD b at_ x n).length = b.length := by
  rw [layD, List.length_append, List.length_append, List.length_take, List.length_take, List.length_drop]
  omega
theorem layD_at {b x : Bs} {at_ n : Nat} (h : 64 * at_ + n ≤ b.length) (hx : n ≤ x.length) (j : Nat) : (layD b at_ x n)[j]? = if 64 * at_ ≤ j ∧ j < 64 * at_ + n then x[j - 64 * at_]? else b[j]? := by
  have e1 : (b.take (64 * at_)).length = 64 * at_ := by rw [List.length_take]; omega
  have e2 : (x.take n).length = n := by rw [List.length_take]; omega
  rw [layD]
  by_cases h1 : j < 64 * at_
  · rw [if_neg (by omega), List.getElem?_append_left (by omega), List.getElem?_take_of_lt h1]
  · rw [List.getElem?_append_right (by omega), e1]
    by_cases h2 : j < 64 * at_ + n
    · rw [if_pos ⟨by omega, h2⟩, List.getElem?_append_left (by omega), List.getElem?_take_of_lt (by omega)]
    · rw [if_neg (by omega), List.getElem?_append_right (by omega), e2, List.getElem?_drop]
      congr 1
      omega
theorem dumpW_snoc (b : Bs) (l : List (Nat × Bs)) (p : Nat × Bs) : dumpW b (l ++ [p]) = layD (dumpW b l) p.1 p.2 64 := by rw [dumpW, List.foldl_append]; rfl
theorem take_snocW {l : List (Nat × Bs)} {k : Nat} (hk : k < l.length) : l.take (k + 1) = l.take k ++ [l[k]] := by
  rw [List.take_add_one, List.getElem?_eq_getElem hk]
  rfl
theorem len_dumpW {n : Nat} : ∀ (l : List (Nat × Bs)) (b : Bs), b.length = 64 * n → (∀ p ∈ l, p.1 < n ∧ p.2.length = 64) → (dumpW b l).length = 64 * n
  | [], b, h, _ => h
  | p :: l, b, h, hl => by
    have h1 := hl p (by simp)
    show (dumpW (layD b p.1 p.2 64) l).length = _
    exact len_dumpW l _ (by rw [len_layD (by omega) (by omega)]; exact h) (fun q hq => hl q (by simp [hq]))
theorem len_dumpD {D : DkT} (h : okD D) : (dumpD D).length = D.safe.length := by
  rw [h.size.1]
  exact len_dumpW D.wait D.safe h.size.1 h.wait
/-- what acts leave may be -/
theorem okD.put {D : DkT} (h : okD D) (i : Int) (b : Bs) : okD (putD13 D i b) := by
  unfold putD13
  by_cases hd : D.down
  · rw [if_pos hd]; exact h
  rw [if_neg hd]
  by_cases hh : hasD D i = false
  · rw [if_pos hh]; exact h
  rw [if_neg hh]
  rw [Bool.not_eq_false] at hh
  by_cases hb : b.length = 64
  case neg => rw [if_pos hb]; exact h
  rw [if_neg (by simpa using hb)]
  obtain ⟨h1, h2, h3⟩ := h.size
  refine ⟨⟨sizeD D, h2, h3, h1, fun p hp => ?_⟩, ?_, ?_⟩
  · rcases List.mem_append.1 hp with hp | hp
    · exact h.wait p hp
    · rw [List.mem_singleton.1 hp]
      obtain ⟨h4, h5⟩ := (hasD_iff D i).1 hh
      exact ⟨by show i.toNat < _; omega, hb⟩
  · show -1 ≤ lessL D.left
    have := h.lo
    unfold lessL
    split <;> omega
  · show lessL D.left < _
    have := h.hi
    unfold lessL
    split <;> omega
theorem okD.sync {D : DkT} (h : okD D) : okD (syncD13 D) := by
  unfold syncD13
  by_cases hd : D.down
  · rw [if_pos hd]; exact h
  rw [if_neg hd]
  obtain ⟨h1, h2, h3⟩ := h.size
  by_cases h0 : D.left = 0
  · rw [if_pos h0]
    exact ⟨⟨sizeD D, h2, h3, h1, h.wait⟩, h.lo, h.hi⟩
  rw [if_neg h0]
  refine ⟨⟨sizeD D, h2, h3, by show (dumpD D).length = _; rw [len_dumpD h, h1], fun p hp => by cases hp⟩, ?_, ?_⟩
  · show -1 ≤ lessL D.left
    have := h.lo
    unfold lessL
    split <;> omega
  · show lessL D.left < _
    have := h.hi
    unfold lessL
    split <;> omega
theorem okD.fuse {D : DkT} (h : okD D) (n : Int) (hn : n < 9223372036854775808) : okD (fuseD13 D n) := by
  obtain ⟨h1, h2, h3⟩ := h.size
  refine ⟨⟨sizeD D, h2, h3, h1, h.wait⟩, ?_, ?_⟩
  · show -1 ≤ (if n < 0 then -1 else n)
    split <;> omega
  · show (if n < 0 then -1 else n) < _
    split <;> omega
def zeroD (n : Nat) : DkT := ⟨List.replicate (64 * n) 0, [], -1, false⟩
def loadD (b : Bs) : DkT := ⟨b, [], -1, false⟩
theorem okD_load {b : Bs} {n : Nat} (h : b.length = 64 * n) (h1 : 1 ≤ n) (h2 : n ≤ 16384) : okD (loadD b) := ⟨⟨n, h1, h2, h, fun p hp => by cases hp⟩, by show (-1 : Int) ≤ -1; omega, by show (-1 : Int) < _; omega⟩
theorem okD_zero {n : Nat} (h1 : 1 ≤ n) (h2 : n ≤ 16384) : okD (zeroD n) := okD_load (List.length_replicate) h1 h2
theorem zeroD_load (n : Nat) : zeroD n = loadD (List.replicate (64 * n) 0) := rfl
/-- how many sectors stays -/
theorem size_put (D : DkT) (i : Int) (b : Bs) : (putD13 D i b).safe = D.safe := by
  unfold putD13
  split
  · rfl
  · split
    · rfl
    · split <;> rfl
theorem size_sync {D : DkT} (h : okD D) : sizeD (syncD13 D) = sizeD D := by
  unfold syncD13 sizeD
  split
  · rfl
  · split
    · rfl
    · show (dumpD D).length / 64 = _
      rw [len_dumpD h]
end Go.Proofs.YtopmeedmgjdcgaaGreatDoor
/- Plain: batches, keys with texts, and what batches make of them (layer 15). -/
namespace Go.Proofs.YtopmeedmgjdcgaaGreatDoor
open Go.RowKit
set_option maxRecDepth 100000
/-- an act: a key, and the data that stands under it from then on, or nothing -/
structure ActT where
  key : Bs
  set : Bool
  data : Bs
/-- texts in order, byte by byte -/
def ltB : Bs → Bs → Bool
  | _, [] => false
  | [], _ :: _ => true
  | a :: x, b :: y => decide (a.toNat < b.toNat) || (decide (a = b) && ltB x y)
theorem ltB_irr : ∀ (a : Bs), ltB a a = false
  | [] => rfl
  | a :: x => by simp [ltB, ltB_irr x]
theorem ltB_nil (a : Bs) : ltB [] a = true ↔ a ≠ [] := by cases a <;> simp [ltB]
theorem ltB_trans : ∀ (a b c : Bs), ltB a b = true → ltB b c = true → ltB a c = true
  | _, [], _, h, _ => by simp [ltB] at h
  | _, _ :: _, [], _, h => by simp [ltB] at h
  | [], _ :: _, _ :: _, _, _ => by simp [ltB]
  | a :: x, b :: y, c :: z, h1, h2 => by
    simp only [ltB, Bool.or_eq_true, Bool.and_eq_true, decide_eq_true_eq] at h1 h2 ⊢
    rcases h1 with h1 | ⟨rfl, h1⟩
    · rcases h2 with h2 | ⟨rfl, h2⟩
      · exact Or.inl (by omega)
      · exact Or.inl h1
    · rcases h2 with h2 | ⟨rfl, h2⟩
      · exact Or.inl h2
      · exact Or.inr ⟨rfl, ltB_trans x y z h1 h2⟩
theorem ltB_tri : ∀ (a b : Bs), ltB a b = true ∨ a = b ∨ ltB b a = true
  | [], [] => Or.inr (Or.inl rfl)
  | [], _ :: _ => Or.inl rfl
  | _ :: _, [] => Or.inr (Or.inr rfl)
  | a :: x, b :: y => by
    by_cases h1 : a.toNat < b.toNat
    · exact Or.inl (by simp [ltB, h1])
    by_cases h2 : b.toNat < a.toNat
    · exact Or.inr (Or.inr (by simp [ltB, h2]))
    have e : a = b := BitVec.eq_of_toNat_eq (by omega)
    subst e
    rcases ltB_tri x y with h | h | h
    · exact Or.inl (by simp [ltB, h])
    · exact Or.inr (Or.inl (by rw [h]))
    · exact Or.inr (Or.inr (by simp [ltB, h]))
theorem ltB_asym {a b : Bs} (h : ltB a b = true) : ltB b a = false := by
  cases h2 : ltB b a with
  | false => rfl
  | true =>
    have := ltB_trans _ _ _ h h2
    rw [ltB_irr] at this
    cases this
theorem ltB_ne {a b : Bs} (h : ltB a b = true) : a ≠ b := fun e => by rw [e, ltB_irr] at h; cases h
/-- may an act be, but for its place? -/
def okA (a : ActT) : Bool := decide (a.key.length ≤ 64) && (if a.set then decide (a.data.length ≤ 1048576) else decide (a.data.length = 0))
/-- keys that rise from behind a key on -/
def goodF : Bs → List ActT → Bool
  | _, [] => true
  | k, a :: r => ltB k a.key && okA a && goodF a.key r
def lastK (k : Bs) (l : List ActT) : Bs := (l.getLast?.map ActT.key).getD k
theorem lastK_cons (k : Bs) (a : ActT) (l : List ActT) : lastK k (a :: l) = lastK a.key l := by
  unfold lastK
  cases l with
  | nil => rfl
  | cons b l => rw [List.getLast?_cons_cons]; cases h : (b :: l).getLast? with
    | none => simp at h
    | some c => rfl
theorem lastK_snoc (k : Bs) (l : List ActT) (a : ActT) : lastK k (l ++ [a]) = a.key := by simp [lastK]
theorem goodF_snoc : ∀ (l : List ActT) (k : Bs) (a : ActT), goodF k (l ++ [a]) = (goodF k l && (ltB (lastK k l) a.key && okA a))
  | [], k, a => by simp [goodF, lastK]
  | b :: l, k, a => by
    rw [List.cons_append, goodF, goodF, goodF_snoc l, lastK_cons]
    simp only [Bool.and_assoc]
theorem goodF_false : ∀ (l r : List ActT) (k : Bs), goodF k l = false → goodF k (l ++ r) = false
  | [], _, _, h => by simp [goodF] at h
  | b :: l, r, k, h => by
    rw [goodF, Bool.and_eq_false_iff] at h
    rw [List.cons_append, goodF, Bool.and_eq_false_iff]
    exact h.imp id (goodF_false l r b.key)
/-- whether a batch may be -/
def chkL (l : List ActT) : Int := if l.length ≤ 4096 ∧ goodF [] l = true then 0 else 1
theorem chkL_or (l : List ActT) : chkL l = 0 ∨ chkL l = 1 := by unfold chkL; split; exact Or.inl rfl; exact Or.inr rfl
/-- an act's bytes -/
def encA (a : ActT) : Bs := encText a.key ++ (if a.set then encNum 1 ++ encText a.data else encNum 0)
def batchB (l : List ActT) : Bs := encList encA l
/-- the act that bytes begin with -/
def readCt (most : Nat) (l : Bs) : Option (Nat × Bs) :=
  match readNum l with
  | none => none
  | some (n, r) => if n ≤ most then some (n, r) else none
def readA (b : Bs) : Option (ActT × Bs) :=
  match readText b with
  | none => none
  | some (k, r) =>
    match readCt 1 r with
    | none => none
    | some (n, s) =>
      if n = 1 then
        match readText s with
        | none => none
        | some (d, t) => some (⟨k, true, d⟩, t)
      else some (⟨k, false, []⟩, s)
/-- the batch that bytes are -/
def readB (b : Bs) : Option (List ActT) :=
  match readList readA b with
  | none => none
  | some l => if goodF [] l = true then some l else none
/-- keys with texts, rising -/
abbrev KM := List (Bs × Bs)
def Rise (m : KM) : Prop := m.Pairwise fun p q => ltB p.1 q.1 = true
/-- what an act makes of keys -/
def oneM (m : KM) (a : ActT) : KM := m.filter (fun p => ltB p.1 a.key) ++ ((if a.set then [(a.key, a.data)] else []) ++ m.filter (fun p => ltB a.key p.1))
def doneM (m : KM) (l : List ActT) : KM := l.foldl oneM m
def wholeM (m : KM) : List ActT := m.map fun p => ⟨p.1, true, p.2⟩
def getM (m : KM) (k : Bs) : Option Bs := (m.find? fun p => decide (p.1 = k)).map (·.2)
theorem Rise.one {m : KM} (h : Rise m) (a : ActT) : Rise (oneM m a) := by
  unfold oneM Rise
  rw [List.pairwise_append, List.pairwise_append]
  refine ⟨List.Pairwise.filter _ h, ⟨?_, List.Pairwise.filter _ h, ?_⟩, ?_⟩
  · split
    · exact List.pairwise_singleton _ _
    · exact List.Pairwise.nil
  · intro p hp q hq
    split at hp
    · rw [List.mem_singleton] at hp
      subst hp
      exact (List.mem_filter.1 hq).2
    · cases hp
  · intro p hp q hq
    have h1 := (List.mem_filter.1 hp).2
    rcases List.mem_append.1 hq with hq | hq
    · split at hq
      · rw [List.mem_singleton] at hq
        subst hq
        exact h1
      · cases hq
    · exact ltB_trans _ _ _ h1 (List.mem_filter.1 hq).2
theorem Rise.done : ∀ (l : List ActT) {m : KM}, Rise m → Rise (doneM m l)
  | [], _, h => h
  | a :: l, _, h => Rise.done l (h.one a)
theorem doneM_snoc (m : KM) (l : List ActT) (a : ActT) : doneM m (l ++ [a]) = oneM (doneM m l) a := by rw [doneM, List.foldl_append]; rfl
theorem mem_one {m : KM} {a : ActT} {p : Bs × Bs} : p ∈ oneM m a ↔ (p ∈ m ∧ p.1 ≠ a.key) ∨ (a.set = true ∧ p = (a.key, a.data)) := by
  unfold oneM
  rw [List.mem_append, List.mem_append, List.mem_filter, List.mem_filter]
  constructor
  · rintro (⟨h1, h2⟩ | h | ⟨h1, h2⟩)
    · exact Or.inl ⟨h1, ltB_ne h2⟩
    · split at h
      next e => exact Or.inr ⟨e, List.mem_singleton.1 h⟩
      · cases h
    · exact Or.inl ⟨h1, (ltB_ne h2).symm⟩
  · rintro (⟨h1, h2⟩ | ⟨h1, h2⟩)
    · rcases ltB_tri p.1 a.key with h | h | h
      · exact Or.inl ⟨h1, h⟩
      · exact absurd h h2
      · exact Or.inr (Or.inr ⟨h1, h⟩)
    · refine Or.inr (Or.inl ?_)
      rw [if_pos h1]
      exact List.mem_singleton.2 h2
theorem rise_key {m : KM} (h : Rise m) {p q : Bs × Bs} (hp : p ∈ m) (hq : q ∈ m) (e : p.1 = q.1) : p = q := by
  induction m with
  | nil => cases hp
  | cons a m ih =>
    have h2 := List.pairwise_cons.1 h
    rcases List.mem_cons.1 hp with e1 | e1 <;> rcases List.mem_cons.1 hq with e2 | e2
    · rw [e1, e2]
    · rw [e1] at e
      exact absurd e (ltB_ne (h2.1 q e2))
    · rw [e2] at e
      exact absurd e.symm (ltB_ne (h2.1 p e1))
    · exact ih h2.2 e1 e2
theorem getM_mem {m : KM} (h : Rise m) (k d : Bs) : getM m k = some d ↔ (k, d) ∈ m := by
  unfold getM
  constructor
  · intro hh
    rw [Option.map_eq_some_iff] at hh
    obtain ⟨p, h1, rfl⟩ := hh
    have h2 := List.find?_some h1
    rw [decide_eq_true_eq] at h2
    rw [← h2]
    exact List.mem_of_find?_eq_some h1
  · intro hh
    cases hf : m.find? fun p => decide (p.1 = k) with
    | none =>
      have := List.find?_eq_none.1 hf _ hh
      simp at this
    | some p =>
      have h2 := List.find?_some hf
      rw [decide_eq_true_eq] at h2
      have := rise_key h (List.mem_of_find?_eq_some hf) hh h2
      rw [this]
      rfl
end Go.Proofs.YtopmeedmgjdcgaaGreatDoor
/- Rows in memory: made, loaded and stored; laws of regions (layer 13; out of the texts of layers 6, 10 and 11). -/
namespace Go.Proofs.YtopmeedmgjdcgaaGreatDoor
open Go.RowKit
set_option maxRecDepth 100000
theorem wpSeq_val {P : Program} {ops : Array Oper} {Q : Exit → Act → World → Prop} {rest : List Oper} {o : Oper} {a : Act} {w : World} (v : Value) (w' : World) (hw : Region.wanted o (yielded ops a.tmps) = true)
    (he : (execOp a.eval o).run P w = .ok (.value v) w') (h : wpList P ops Q rest (a.put o.dst v) w') : wpList P ops Q (o :: rest) a w := by
  unfold wpList
  simp only [hw, if_true]
  left
  unfold Oper.wp
  rw [he, Oper.upon_value]
  exact h
theorem wpAnyH_law {P : Program} {md : Region.Mode} {ops : Array Oper} {Q : Exit → Act → World → Prop} {S : World → Prop} {fuel : Nat} {listed : Array Bool} {a : Act} {w : World} (i : Nat) {oi : Oper}
    (hr : Region.ready md ops listed = [i]) (hi : ops[i]? = some oi) (hw : Region.wanted oi (yielded ops a.tmps) = true)
    (h : Oper.wp P oi a w (fun a' w' => S w' ∧ wpAnyH P md ops Q S fuel (listed.setIfInBounds i true) a' w') Q) : wpAnyH P md ops Q S (fuel + 1) listed a w := by
  refine wpAnyH_all hr (by simp) (fun j hj => ?_)
  obtain rfl : j = i := by simpa using hj
  unfold wpOp
  rw [hi]
  simp only [hw, if_true]
  exact Or.inl h
theorem wpSeq_box {ops : Array Oper} {Q : Exit → Act → World → Prop} {rest : List Oper} {o : Oper} {a : Act} {w : World} (ty : TypeId) (x : Operand) (ho : o.op = .box ty x) (cs : List Value) (hx : a.eval x = .agg cs.toArray) (hw : Region.wanted o (yielded ops a.tmps) = true) (w0 : World) (h0 : w0 = w.alloc (.cells cs.toArray ty))
    (h : wpList Tryz.prog ops Q rest (a.put o.dst (.pointer (some ⟨w.heap.size, 0, none⟩))) w0) : wpList Tryz.prog ops Q (o :: rest) a w := by
  refine wpSeq_val _ w0 hw ?_ h
  subst h0
  unfold execOp
  rw [ho]
  simp only [hx]
  rfl
theorem Reads.form {w : World} {v : Value} {l : List (BitVec 8)} (h : Reads w v l) : ∃ a n c, v = .slice a n c := by
  obtain ⟨a, c, hv, _⟩ := h
  exact ⟨_, _, _, hv⟩
theorem fold_set (off : Nat) : ∀ (vs B A C : List Value) (k : Nat), A.length = off + k → B.length = vs.length → (vs.zipIdx k).foldl (fun (cs : Array Value) (p : Value × Nat) => cs.setIfInBounds (off + p.2) p.1) (A ++ (B ++ C)).toArray = (A ++ (vs ++ C)).toArray
  | [], B, A, C, k, _, hB => by
    obtain rfl : B = [] := List.length_eq_zero_iff.1 hB
    rfl
  | v :: vs, [], A, C, k, _, hB => by simp at hB
  | v :: vs, b :: B, A, C, k, hA, hB => by
    rw [List.zipIdx_cons, List.foldl_cons]
    have e : (A ++ (b :: B ++ C)).toArray.setIfInBounds (off + k) v = ((A ++ [v]) ++ (B ++ C)).toArray := by
      rw [List.setIfInBounds_toArray, ← hA]
      congr 1
      rw [List.set_append_right _ _ (Nat.le_refl _), Nat.sub_self]
      simp
    rw [e, fold_set off vs B (A ++ [v]) C (k + 1) (by rw [List.length_append, hA]; rfl) (by simpa using hB)]
    simp
theorem fill_seg {place : Nat → Option (Nat × Nat)} {A B C vs : List Value} {i off size : Nat} {rest : List (Nat × Value)} {v : Value} (hp : place i = some (off, size)) (hA : A.length = off) (hB : B.length = size) (hv : v.cells = vs.toArray) (hvl : vs.length = size) :
    Instr.fill place (A ++ (B ++ C)).toArray ((i, v) :: rest) = Instr.fill place (A ++ (vs ++ C)).toArray rest := by
  have h1 : v.cells.size = size := by rw [hv, List.size_toArray, hvl]
  have h2 : (A ++ (B ++ C)).toArray.size = off + size + C.length := by simp [hA, hB]; omega
  rw [Instr.fill, hp]
  simp only [h1, h2]
  rw [if_neg (by simp)]
  congr 1
  rw [hv, ← fold_set off vs B A C 0 (by omega) (by omega), ← Array.foldl_toList, Array.toList_zipIdx]
/-- a literal's value, out of what it is built of -/
theorem build_op (f : Operand → Value) (o : Oper) (t : TypeId) (ps : List (Nat × Operand)) (ho : o.op = .build t ps.toArray) (cells : Array Value) (h : Tryz.prog.built t (ps.map fun p => (p.1, f p.2)) = some cells) (w : World) : (execOp f o).run Tryz.prog w = .ok (.value (.agg cells)) w := by
  unfold execOp
  rw [ho]
  have hm : (ps.toArray.map fun (p : Nat × Operand) => (p.1, f p.2)) = (ps.map fun p => (p.1, f p.2)).toArray := by simp
  have hr := run_build (P := Tryz.prog) w t (ps.map fun p => (p.1, f p.2)).toArray cells (by simpa using h)
  simp only [hm, Sem.run_bind, hr, Result.andThen_ok, Sem.run_pure]
theorem wpSeq_build {ops : Array Oper} {Q : Exit → Act → World → Prop} {rest : List Oper} {o : Oper} {a : Act} {w : World} (t : TypeId) (ps : List (Nat × Operand)) (cells : List Value) (h1 : Tryz.prog.built t (ps.map fun p => (p.1, a.eval p.2)) = some cells.toArray) (ho : o.op = .build t ps.toArray) (hw : Region.wanted o (yielded ops a.tmps) = true)
    (h : wpList Tryz.prog ops Q rest (a.put o.dst (.agg cells.toArray)) w) : wpList Tryz.prog ops Q (o :: rest) a w :=
  wpSeq_val _ _ hw (build_op a.eval o t ps ho cells.toArray h1 w) h
/-- a new block -/
structure NewR (cs : List Value) (t : TypeId) (w : World) (g : Nat) (w' : World) : Prop where
  ge : w.heap.size ≤ g
  blk : Blk w' g cs t
  below : Below w.heap.size w w'
theorem NewR.of (cs : List Value) (t : TypeId) (w : World) : NewR cs t w w.heap.size (w.alloc (.cells cs.toArray t)) := ⟨Nat.le_refl _, Blk.new w cs t, below_alloc w _⟩
theorem wpSeq_boxW {ops : Array Oper} {Q : Exit → Act → World → Prop} {rest : List Oper} {o : Oper} {a : Act} {w : World} (ty : TypeId) (x : Operand) (cs : List Value) (ho : o.op = .box ty x) (hx : a.eval x = .agg cs.toArray) (hw : Region.wanted o (yielded ops a.tmps) = true)
    (h : ∀ g w', NewR cs ty w g w' → wpList Tryz.prog ops Q rest (a.put o.dst (.pointer (some ⟨g, 0, none⟩))) w') : wpList Tryz.prog ops Q (o :: rest) a w :=
  wpSeq_box ty x ho cs hx hw _ rfl (h _ _ (NewR.of cs ty w))
/-- a row stored whole -/
structure SetR (cs : List Value) (t : TypeId) (w : World) (g : Nat) (w' : World) : Prop where
  blk : Blk w' g cs t
  only : Only g w w'
theorem SetR.of {cs ns : List Value} {t : TypeId} {w : World} {g : Nat} (hb : Blk w g cs t) (hl : ns.length = cs.length) : SetR ns t w g (w.setCells g 0 ns) := ⟨hb.whole ns hl, Only.setCells _ _ _ (Only.refl g w)⟩
theorem wpSeq_storeRow {ops : Array Oper} {Q : Exit → Act → World → Prop} {rest : List Oper} {o : Oper} {a : Act} {w : World} (ty : TypeId) (x y : Operand) (g : Nat) (cs ns : List Value) (hb : Blk w g cs ty) (hl : ns.length = cs.length) (hi : (Tryz.prog.info? ty).map (·.size) = some ns.length) (h1 : ∀ v ∈ ns, v.oneCell' = true)
    (ho : o.op = .store ty x y) (hx : a.eval x = .pointer (some ⟨g, 0, none⟩)) (hy : a.eval y = .agg ns.toArray) (hgd : o.guard = none)
    (h : ∀ w', SetR ns ty w g w' → wpList Tryz.prog ops Q rest (a.put o.dst undef) w') : wpList Tryz.prog ops Q (o :: rest) a w :=
  wpList_store_mid hgd ty x y ho g 0 _ hx hy (hb.there 0 _ (by rw [List.size_toArray, hl]; omega)) (by rw [List.size_toArray]; exact hi) (all_oneCell_toArray h1)
    (by rw [List.toList_toArray]; exact h _ (SetR.of hb hl))
/-- a row loaded whole, from wherever it lies -/
theorem wpSeq_loadW {ops : Array Oper} {Q : Exit → Act → World → Prop} {rest : List Oper} {o : Oper} {a : Act} {w : World} (ty : TypeId) (x : Operand) (b off : Nat) (cs : List Value) (d : TypeDesc) (hb : w.rangeAt b off cs) (hu : Tryz.prog.underlying ty = some d) (hd : d.isRow = true) (hi : (Tryz.prog.info? ty).map (·.size) = some cs.length) (ho : o.op = .load ty x) (hx : a.eval x = .pointer (some ⟨b, off, none⟩)) (hw : Region.wanted o (yielded ops a.tmps) = true)
    (h : wpList Tryz.prog ops Q rest (a.put o.dst (.agg cs.toArray)) w) : wpList Tryz.prog ops Q (o :: rest) a w :=
  wpSeq_val _ _ hw (load_run ty x ho b off hx cs d hb hu hd hi) h
theorem wpAnyH_storeRow {md : Region.Mode} {ops : Array Oper} {Q : Exit → Act → World → Prop} {S : World → Prop} {fuel : Nat} {listed : Array Bool} {a : Act} {w : World} (i : Nat) {oi : Oper} (ty : TypeId) (x y : Operand) (g : Nat) (cs ns : List Value) (hb : Blk w g cs ty) (hl : ns.length = cs.length) (hi0 : (Tryz.prog.info? ty).map (·.size) = some ns.length) (h1 : ∀ v ∈ ns, v.oneCell' = true)
    (hr : Region.ready md ops listed = [i]) (hi : ops[i]? = some oi) (hw : Region.wanted oi (yielded ops a.tmps) = true) (ho : oi.op = .store ty x y) (hx : a.eval x = .pointer (some ⟨g, 0, none⟩)) (hy : a.eval y = .agg ns.toArray)
    (h : ∀ w', SetR ns ty w g w' → S w' ∧ wpAnyH Tryz.prog md ops Q S fuel (listed.setIfInBounds i true) (a.put oi.dst undef) w') : wpAnyH Tryz.prog md ops Q S (fuel + 1) listed a w :=
  wpAnyH_law i hr hi hw (wp_store_mid ty x y ho g 0 ns.toArray hx hy (hb.there 0 _ (by rw [List.size_toArray, hl]; omega)) (by rw [List.size_toArray]; exact hi0) (all_oneCell_toArray h1) (by rw [List.toList_toArray]; exact h _ (SetR.of hb hl)))
theorem results_row_tmp {fn : Func} {p u : Tmp} {ty : TypeId} (h : fn.results = #[.cell p ty, .tmp u]) (tmps : Array Value) (w : World) (g : Nat) (v : Value) (hp : tmps.getD p undef = .pointer (some ⟨g, 0, none⟩)) (e1 : (loadVar ty ⟨g, 0, none⟩).run Tryz.prog w = .ok v w) :
    (results fn tmps).run Tryz.prog w = .ok (.tuple #[v, tmps.getD u undef]) w := by
  have hp' : tmps[p]?.getD undef = .pointer (some ⟨g, 0, none⟩) := by simpa using hp
  simp [results, h, hp', asAddr, e1]
theorem results_row_tmp2 {fn : Func} {p u x : Tmp} {ty : TypeId} (h : fn.results = #[.cell p ty, .tmp u, .tmp x]) (tmps : Array Value) (w : World) (g : Nat) (v : Value) (hp : tmps.getD p undef = .pointer (some ⟨g, 0, none⟩)) (e1 : (loadVar ty ⟨g, 0, none⟩).run Tryz.prog w = .ok v w) :
    (results fn tmps).run Tryz.prog w = .ok (.tuple #[v, tmps.getD u undef, tmps.getD x undef]) w := by
  have hp' : tmps[p]?.getD undef = .pointer (some ⟨g, 0, none⟩) := by simpa using hp
  simp [results, h, hp', asAddr, e1]
theorem make_cap (k c : Nat) (hkc : k ≤ c) (hc : c < 281474976710600) (w : World) : (Instr.makeSlice 23 (.int .i64 (k : Int)) (.int .i64 (c : Int))).run Tryz.prog w =
    .ok (.slice (some ⟨w.heap.size, 0, none⟩) k c) (w.alloc (.cells (cb (List.replicate c 0)).toArray 5)) := by
  obtain ⟨i0, hi, hz0, hz1, hz2⟩ := info_parts Tryz.infob
  rw [run_make (P := Tryz.prog) w 23 5 i0 _ Tryz.underlying23 hi hz0 .i64 .i64 _ _ (by omega) (by omega) (by rw [hz2]; omega) (by omega)]
  rw [Int.toNat_natCast, Int.toNat_natCast, hz1, Nat.mul_one]
  congr 3
  simp [madeCells, cb, Value.cells, Nat.mod_one]
  apply Array.ext
  · simp
  · intro j h1 h2; simp
/-- a new slice of k noughts with room for c bytes -/
theorem wpSeq_make {ops : Array Oper} {Q : Exit → Act → World → Prop} {rest : List Oper} {o : Oper} {a : Act} {w : World} (x y : Operand) (k c : Nat) (hkc : k ≤ c) (hc : c < 281474976710600) (ho : o.op = .makeSlice 23 x y) (hx : a.eval x = .int .i64 (k : Int)) (hy : a.eval y = .int .i64 (c : Int)) (hw : Region.wanted o (yielded ops a.tmps) = true)
    (h : ∀ g w' z, z = List.replicate c (0 : BitVec 8) → w.heap.size ≤ g → Blk w' g (cb z) 5 → Below w.heap.size w w' → wpList Tryz.prog ops Q rest (a.put o.dst (.slice (some ⟨g, 0, none⟩) k c)) w') : wpList Tryz.prog ops Q (o :: rest) a w := by
  refine wpSeq_val _ _ hw ?_ (h _ _ _ rfl (Nat.le_refl _) (Blk.new w _ 5) (below_alloc _ _))
  unfold execOp
  rw [ho]
  simp only [hx, hy, Sem.run_bind, make_cap k c hkc hc]
  rfl
/-- a cut of a slice of bytes -/
theorem cut_run (ga off n cap l m : Nat) (hm : 0 < m) (hn : l + m ≤ n) (hc : n ≤ cap) (w : World) :
    (Instr.sliceAt 23 (.slice (some ⟨ga, off, none⟩) n cap) (some (.int .i64 (l : Int))) (some (.int .i64 ((l + m : Nat) : Int))) none).run Tryz.prog w = .ok (.slice (some ⟨ga, off + l, none⟩) m (cap - l)) w := by
  have hs : (sizeOf 5).run Tryz.prog w = .ok 1 w := by kernel_rfl
  rw [run_sliceAt_slice w 23 _ _ _ _ (by kernel_rfl), run_slice_lh w 23 _ _ _ (by kernel_rfl) .i64 .i64 _ _ (by omega) (by omega) (by omega)]
  rw [show Tryz.prog.elem 23 = 5 from by kernel_rfl, hs]
  simp only [Result.andThen_ok, sliced, Int.toNat_natCast, Nat.mul_one]
  rw [show l + m - l = m by omega, if_neg (by omega)]
  simp [Addr.add_mid]
/-- one cell of a row stored -/
theorem wpSeq_cellI {ops : Array Oper} {Q : Exit → Act → World → Prop} {rest : List Oper} {o : Oper} {a : Act} {w : World} (x y : Operand) (g k : Nat) (cs : List Value) (n : Int) (tb : TypeId) (hk : k < cs.length) (hb : Blk w g cs tb) (ho : o.op = .store 3 x y) (hx : a.eval x = .pointer (some ⟨g, k, none⟩)) (hy : a.eval y = .int .i64 n) (hw : Region.wanted o (yielded ops a.tmps) = true)
    (h : ∀ w', Blk w' g (cs.set k (.int .i64 n)) tb → Only g w w' → wpList Tryz.prog ops Q rest (a.put o.dst undef) w') : wpList Tryz.prog ops Q (o :: rest) a w := by
  have hc : w.cell? ⟨g, k, none⟩ = some cs[k] := by rw [hb.cell, List.getElem?_eq_getElem hk]
  have hf : w.frozen? ⟨g, k, none⟩ = false := hb.frozen k
  have he : (execOp a.eval o).run Tryz.prog w = .ok .skip (w.setCell ⟨g, k, none⟩ (.int .i64 n)) := by
    clear h hw
    generalize a.eval = f at hx hy ⊢
    unfold execOp
    rw [ho]
    simp [go_sem, hx, hy, hc, hf]
  unfold wpList
  simp only [hw, if_true]
  left
  unfold Oper.wp
  rw [he, Oper.upon_skip]
  exact h _ (hb.set k _) (Only.setCell (Only.refl g w) k _)
theorem wpSeq_cellB {ops : Array Oper} {Q : Exit → Act → World → Prop} {rest : List Oper} {o : Oper} {a : Act} {w : World} (x y : Operand) (g k : Nat) (cs : List Value) (b : Bool) (tb : TypeId) (hk : k < cs.length) (hb : Blk w g cs tb) (ho : o.op = .store 4 x y) (hx : a.eval x = .pointer (some ⟨g, k, none⟩)) (hy : a.eval y = .bool b) (hw : Region.wanted o (yielded ops a.tmps) = true)
    (h : ∀ w', Blk w' g (cs.set k (.bool b)) tb → Only g w w' → wpList Tryz.prog ops Q rest (a.put o.dst undef) w') : wpList Tryz.prog ops Q (o :: rest) a w := by
  have hc : w.cell? ⟨g, k, none⟩ = some cs[k] := by rw [hb.cell, List.getElem?_eq_getElem hk]
  have hf : w.frozen? ⟨g, k, none⟩ = false := hb.frozen k
  have he : (execOp a.eval o).run Tryz.prog w = .ok .skip (w.setCell ⟨g, k, none⟩ (.bool b)) := by
    clear h hw
    generalize a.eval = f at hx hy ⊢
    unfold execOp
    rw [ho]
    simp [go_sem, hx, hy, hc, hf]
  unfold wpList
  simp only [hw, if_true]
  left
  unfold Oper.wp
  rw [he, Oper.upon_skip]
  exact h _ (hb.set k _) (Only.setCell (Only.refl g w) k _)
end Go.Proofs.YtopmeedmgjdcgaaGreatDoor
/- What stays where some blocks change; the reference's disk in memory; what disk's functions must do (layer 13). -/
namespace Go.Proofs.YtopmeedmgjdcgaaGreatDoor
open Go.RowKit
set_option maxRecDepth 100000
/-- nothing but blocks of P, and new ones, has changed -/
structure Mut (P : Nat → Prop) (w w' : World) : Prop where
  os : w'.os = w.os
  tape : w'.tape = w.tape
  output : w'.output = w.output
  size : w.heap.size ≤ w'.heap.size
  block : ∀ k, k < w.heap.size → ¬ P k → w'.heap[k]? = w.heap[k]?
theorem Mut.refl (P : Nat → Prop) (w : World) : Mut P w w := ⟨rfl, rfl, rfl, Nat.le_refl _, fun _ _ _ => rfl⟩
theorem Mut.trans {P P' : Nat → Prop} {a b c : World} (h : Mut P a b) (hP : ∀ k, k < a.heap.size → P' k → P k) (k : Mut P' b c) : Mut P a c :=
  ⟨k.os.trans h.os, k.tape.trans h.tape, k.output.trans h.output, Nat.le_trans h.size k.size, fun i hi hn => (k.block i (Nat.lt_of_lt_of_le hi h.size) (fun hp => hn (hP i hi hp))).trans (h.block i hi hn)⟩
theorem mut_below {w w' : World} (h : Below w.heap.size w w') (P : Nat → Prop) : Mut P w w' := ⟨h.os, h.tape, h.output, h.size, fun k hk _ => h.block k hk⟩
theorem Only.mut {g : Nat} {w w' : World} (h : Only g w w') {P : Nat → Prop} (hg : P g) : Mut P w w' := ⟨h.os, h.tape, h.output, h.size, fun k hk hn => h.block k (fun e => hn (e ▸ hg)) hk⟩
theorem Mut.below {P : Nat → Prop} {w w' : World} (h : Mut P w w') {B : Nat} (hB : B ≤ w.heap.size) (hP : ∀ k, P k → B ≤ k) : Below B w w' := ⟨h.os, h.tape, h.output, h.size, fun k hk => h.block k (Nat.lt_of_lt_of_le hk hB) (fun hp => absurd (hP k hp) (by omega))⟩
theorem Mut.blk {P : Nat → Prop} {w w' : World} {g : Nat} {cs : List Value} {t : TypeId} (h : Mut P w w') (hb : Blk w g cs t) (hg : ¬ P g) : Blk w' g cs t := by
  have hl := hb.lt
  unfold Blk at hb ⊢
  rw [h.block g hl hg]
  exact hb
theorem Mut.drew {P : Nat → Prop} {w w' : World} (h : Mut P w w') : Mut P w w'.drew := ⟨h.os, h.tape, h.output, h.size, h.block⟩
theorem mut_drew (P : Nat → Prop) (w : World) : Mut P w w.drew := (Mut.refl P w).drew
/-- what holds now, and whatever blocks of P become -/
def Sta (P : Nat → Prop) (w : World) (X : World → Prop) : Prop := ∀ w', Mut P w w' → X w'
theorem Sta.now {P : Nat → Prop} {w : World} {X : World → Prop} (h : Sta P w X) : X w := h w (Mut.refl P w)
theorem Sta.at {P : Nat → Prop} {w w' : World} {X : World → Prop} (h : Sta P w X) (m : Mut P w w') : X w' := h w' m
theorem Sta.go {P P' : Nat → Prop} {w w' : World} {X : World → Prop} (h : Sta P w X) (m : Mut P w w') (hP : ∀ k, k < w.heap.size → P' k → P k) : Sta P' w' X := fun w2 m2 => h w2 (m.trans hP m2)
theorem Sta.below {P : Nat → Prop} {w w' : World} {X : World → Prop} (h : Sta P w X) (hb : Below w.heap.size w w') : Sta P w' X := h.go (mut_below hb P) (fun _ _ h => h)
theorem Sta.mono {P : Nat → Prop} {w : World} {X Y : World → Prop} (h : Sta P w X) (f : ∀ w, X w → Y w) : Sta P w Y := fun w' m => f w' (h w' m)
/-- bytes that lie in blocks from base on stay, if P has none of these -/
theorem OwnB.st {w : World} {base : Nat} {v : Value} {l : Bs} (h : OwnB w base v l) {P : Nat → Prop} (hP : ∀ k, P k → k < base) : Sta P w (fun W => Reads W v l) := fun W m => by
  have hb := h
  obtain ⟨h1, h2⟩ := hb
  refine OwnB.reads (base := base) ⟨h1, ?_⟩
  rcases h2 with h2 | ⟨g, cap, cur, hv, hg, hh, r⟩
  · exact Or.inl h2
  · have hlt : g < w.heap.size := by
      rcases Nat.lt_or_ge g w.heap.size with h' | h'
      · exact h'
      · rw [Array.getElem?_eq_none h'] at hh; cases hh
    exact Or.inr ⟨g, cap, cur, hv, hg, by rw [m.block g hlt (fun hp => absurd (hP g hp) (by omega))]; exact hh, r⟩
theorem Blk.stB {w : World} {g : Nat} {bs : Bs} {t : TypeId} (h : Blk w g (cb bs) t) {P : Nat → Prop} (hg : ¬ P g) {n c : Nat} (hn : n = bs.length) (hc : bs.length ≤ c) : Sta P w (fun W => Reads W (.slice (some ⟨g, 0, none⟩) n c) bs) := fun _ m => (m.blk h hg).reads hn hc
theorem reads_nil13 (w : World) : Reads w (.slice none 0 0) [] := ⟨none, 0, rfl, Nat.le_refl _, fun _ => rfl, fun h => by simp at h⟩
theorem Sta.nil (P : Nat → Prop) (w : World) : Sta P w (fun W => Reads W (.slice none 0 0) []) := fun W _ => reads_nil13 W
/-- a slice of writes -/
def ReadsW (w : World) (v : Value) (l : List (Nat × Bs)) : Prop :=
  ∃ ad cap, v = .slice ad l.length cap ∧ l.length ≤ cap ∧ (ad = none → cap = 0) ∧ (0 < l.length → ∃ b off, ad = some ⟨b, off, none⟩ ∧ ∀ j, j < l.length → ∃ vj, w.cell? ⟨b, off + j * 2, none⟩ = some (.int .i64 ((l.getD j (0, [])).1 : Int)) ∧ w.cell? ⟨b, off + j * 2 + 1, none⟩ = some vj ∧ Reads w vj (l.getD j (0, [])).2)
theorem ReadsW.nil (w : World) : ReadsW w (.slice none 0 0) [] := ⟨none, 0, rfl, Nat.le_refl _, fun _ => rfl, fun h => by simp at h⟩
theorem ReadsW.form {w : World} {v : Value} {l : List (Nat × Bs)} (h : ReadsW w v l) : ∃ ad c, v = .slice ad l.length c := by
  obtain ⟨ad, cap, hv, _⟩ := h
  exact ⟨ad, cap, hv⟩
theorem ReadsW.at {w : World} {ad : Option Addr} {n c : Nat} {l : List (Nat × Bs)} (h : ReadsW w (.slice ad n c) l) (hp : 0 < l.length) : ∃ b off, ad = some ⟨b, off, none⟩ ∧ ∀ j, j < l.length → ∃ vj, w.cell? ⟨b, off + j * 2, none⟩ = some (.int .i64 ((l.getD j (0, [])).1 : Int)) ∧ w.cell? ⟨b, off + j * 2 + 1, none⟩ = some vj ∧ Reads w vj (l.getD j (0, [])).2 := by
  obtain ⟨ad', cap, hv, _, _, hx⟩ := h
  simp only [Value.slice.injEq] at hv
  obtain ⟨rfl, _, _⟩ := hv
  exact hx hp
/-- a slice of numbers -/
def ReadsI (w : World) (v : Value) (l : List Int) : Prop :=
  ∃ ad cap, v = .slice ad l.length cap ∧ l.length ≤ cap ∧ (0 < l.length → ∃ b off, ad = some ⟨b, off, none⟩ ∧ ∀ j, j < l.length → w.cell? ⟨b, off + j, none⟩ = some (.int .i64 (l.getD j 0)))
theorem ReadsI.below {w w' : World} {v : Value} {l : List Int} (h : ReadsI w v l) (hb : Below w.heap.size w w') : ReadsI w' v l := by
  obtain ⟨ad, cap, hv, hc, hx⟩ := h
  refine ⟨ad, cap, hv, hc, fun hp => ?_⟩
  obtain ⟨b, off, h1, h2⟩ := hx hp
  exact ⟨b, off, h1, fun j hj => by rw [hb.cell (p := ⟨b, off + j, none⟩) (block_lt_of_cell (h2 j hj))]; exact h2 j hj⟩
theorem ReadsI.form {w : World} {v : Value} {l : List Int} (h : ReadsI w v l) : ∃ ad c, v = .slice ad l.length c := by
  obtain ⟨ad, cap, hv, _⟩ := h
  exact ⟨ad, cap, hv⟩
theorem ReadsI.nil (w : World) : ReadsI w (.slice none 0 0) [] := ⟨none, 0, rfl, Nat.le_refl _, fun h => by simp at h⟩
/-- a slice of writes, whatever blocks of P become -/
def StaW (P : Nat → Prop) (w : World) (v : Value) (l : List (Nat × Bs)) : Prop :=
  ∃ ad cap, v = .slice ad l.length cap ∧ l.length ≤ cap ∧ (ad = none → cap = 0) ∧ (0 < l.length → ∃ b off, ad = some ⟨b, off, none⟩ ∧ ¬ P b ∧ ∀ j, j < l.length → ∃ vj, w.cell? ⟨b, off + j * 2, none⟩ = some (.int .i64 ((l.getD j (0, [])).1 : Int)) ∧ w.cell? ⟨b, off + j * 2 + 1, none⟩ = some vj ∧ Sta P w (fun W => Reads W vj (l.getD j (0, [])).2))
theorem StaW.now {P : Nat → Prop} {w : World} {v : Value} {l : List (Nat × Bs)} (h : StaW P w v l) : ReadsW w v l := by
  obtain ⟨ad, cap, h1, h2, h3, h4⟩ := h
  refine ⟨ad, cap, h1, h2, h3, fun hp => ?_⟩
  obtain ⟨b, off, h5, _, h6⟩ := h4 hp
  refine ⟨b, off, h5, fun j hj => ?_⟩
  obtain ⟨vj, h7, h8, h9⟩ := h6 j hj
  exact ⟨vj, h7, h8, h9.now⟩
theorem Mut.cell {P : Nat → Prop} {w w' : World} {b k : Nat} {v : Value} (m : Mut P w w') (hb : ¬ P b) (h : w.cell? ⟨b, k, none⟩ = some v) : w'.cell? ⟨b, k, none⟩ = some v := by
  have hlt : b < w.heap.size := block_lt_of_cell h
  have hm := m.block b hlt hb
  have e : ∀ W : World, W.heap[b]? = w.heap[b]? → W.cell? ⟨b, k, none⟩ = w.cell? ⟨b, k, none⟩ := fun W hW => by
    unfold World.cell?
    rw [hW]
  rw [e w' hm]
  exact h
theorem StaW.go {P P' : Nat → Prop} {w w' : World} {v : Value} {l : List (Nat × Bs)} (h : StaW P w v l) (m : Mut P w w') (hP : ∀ k, k < w.heap.size → P' k → P k) : StaW P' w' v l := by
  obtain ⟨ad, cap, h1, h2, h3, h4⟩ := h
  refine ⟨ad, cap, h1, h2, h3, fun hp => ?_⟩
  obtain ⟨b, off, h5, hnb, h6⟩ := h4 hp
  obtain ⟨_, h0, _⟩ := h6 0 hp
  refine ⟨b, off, h5, fun hb => hnb (hP b (block_lt_of_cell h0) hb), fun j hj => ?_⟩
  obtain ⟨vj, h7, h8, h9⟩ := h6 j hj
  exact ⟨vj, m.cell hnb h7, m.cell hnb h8, h9.go m hP⟩
theorem StaW.nil (P : Nat → Prop) (w : World) : StaW P w (.slice none 0 0) [] := ⟨none, 0, rfl, Nat.le_refl _, fun _ => rfl, fun h => by simp at h⟩
structure RdS (P : Nat → Prop) (w : World) (D : DkT) (vs vw : Value) : Prop where
  sf : Sta P w (fun W => Reads W vs D.safe)
  wt : StaW P w vw D.wait
theorem RdS.go {P P' : Nat → Prop} {w w' : World} {D : DkT} {vs vw : Value} (h : RdS P w D vs vw) (m : Mut P w w') (hP : ∀ k, k < w.heap.size → P' k → P k) : RdS P' w' D vs vw := ⟨h.sf.go m hP, h.wt.go m hP⟩
theorem RdS.below {P : Nat → Prop} {w w' : World} {D : DkT} {vs vw : Value} (h : RdS P w D vs vw) (hb : Below w.heap.size w w') : RdS P w' D vs vw := h.go (mut_below hb P) (fun _ _ h => h)
theorem RdS.form {P : Nat → Prop} {w : World} {D : DkT} {vs vw : Value} (h : RdS P w D vs vw) : ∃ ad cs aw cw, vs = .slice ad D.safe.length cs ∧ vw = .slice aw D.wait.length cw := by
  obtain ⟨a, c, hv, _⟩ := h.sf.now
  obtain ⟨a2, c2, hw⟩ := h.wt.now.form
  exact ⟨a, c, a2, c2, hv, hw⟩
theorem RdS.of {P : Nat → Prop} {w : World} {D D' : DkT} {vs vw : Value} (h : RdS P w D vs vw) (h1 : D'.safe = D.safe) (h2 : D'.wait = D.wait) : RdS P w D' vs vw := ⟨by rw [h1]; exact h.sf, by rw [h2]; exact h.wt⟩
/-- what an act leaves of a disk's blocks: none that was another's -/
def Grew (w : World) (P P' : Nat → Prop) : Prop := ∀ k, P' k → P k ∨ w.heap.size ≤ k
theorem Grew.old {w : World} {P P' : Nat → Prop} (h : Grew w P P') : ∀ k, k < w.heap.size → P' k → P k := fun k hk hp => (h k hp).elim id (fun h => absurd h (by omega))
theorem Grew.trans {w w' : World} {P P' P'' : Nat → Prop} (h : Grew w P P') (hs : w.heap.size ≤ w'.heap.size) (h2 : Grew w' P' P'') : Grew w P P'' := fun k hk => by
  rcases h2 k hk with h3 | h3
  · exact h k h3
  · exact Or.inr (Nat.le_trans hs h3)
theorem Grew.refl (w : World) (P : Nat → Prop) : Grew w P P := fun _ h => Or.inl h
/-- loading, besides -/
structure DkLoad (Dk : World → Nat → (Nat → Prop) → DkT → Prop) : Prop where
  load : ∀ (w : World) (v : Value) (b : Bs) (n : Nat), Reads w v b → b.length = 64 * n → 1 ≤ n → n ≤ 200 → Calls Tryz.prog 29 #[v] w fun r w' => ∃ g P, r = .returned (.tuple #[.pointer (some ⟨g, 0, none⟩), .int .i64 0]) ∧ Dk w' g P (loadD b) ∧ Below w.heap.size w w' ∧ ∀ k, P k → w.heap.size ≤ k
  arg : ∀ (w : World) (v : Value) (b : Bs), Reads w v b → b.length % 64 ≠ 0 → Calls Tryz.prog 29 #[v] w fun r w' => r = .returned (.tuple #[.pointer none, .int .i64 1]) ∧ Below w.heap.size w w'
  range : ∀ (w : World) (v : Value), Reads w v [] → Calls Tryz.prog 29 #[v] w fun r w' => r = .returned (.tuple #[.pointer none, .int .i64 2]) ∧ Below w.heap.size w w'
end Go.Proofs.YtopmeedmgjdcgaaGreatDoor
/- Bytes copied and stored; the walks of the reference's laid and Dump (layer 13). -/
namespace Go.Proofs.YtopmeedmgjdcgaaGreatDoor
open Go.RowKit
set_option maxRecDepth 100000
theorem Reads.atB {w : World} {ad : Option Addr} {n c : Nat} {l : Bs} (h : Reads w (.slice ad n c) l) (hp : 0 < l.length) : ∃ b off, ad = some ⟨b, off, none⟩ ∧ ∀ j, j < l.length → w.cell? ⟨b, off + j, none⟩ = some (.int .u8 ((l.getD j 0).toNat : Int)) := by
  obtain ⟨ad', cap, hv, _, _, hx⟩ := h
  simp only [Value.slice.injEq] at hv
  obtain ⟨rfl, _, _⟩ := hv
  exact hx hp
end Go.Proofs.YtopmeedmgjdcgaaGreatDoor
/- Rows of writes that are made by append (layer 13). -/
namespace Go.Proofs.YtopmeedmgjdcgaaGreatDoor
open Go.RowKit
set_option maxRecDepth 100000
/-- the values of writes, each of which reads as its bytes whatever P becomes -/
structure WrL (P : Nat → Prop) (w : World) (L : List (Nat × Value)) (l : List (Nat × Bs)) : Prop where
  len : L.length = l.length
  at_ : ∀ j, j < l.length → (L.getD j (0, undef)).1 = (l.getD j (0, [])).1 ∧ Sta P w (fun W => Reads W (L.getD j (0, undef)).2 (l.getD j (0, [])).2)
theorem WrL.go {P P' : Nat → Prop} {w w' : World} {L : List (Nat × Value)} {l : List (Nat × Bs)} (h : WrL P w L l) (m : Mut P w w') (hP : ∀ k, k < w.heap.size → P' k → P k) : WrL P' w' L l := ⟨h.len, fun j hj => ⟨(h.at_ j hj).1, (h.at_ j hj).2.go m hP⟩⟩
theorem WrL.snoc {P : Nat → Prop} {w : World} {L : List (Nat × Value)} {l : List (Nat × Bs)} (h : WrL P w L l) {i : Nat} {v : Value} {b : Bs} (hb : Sta P w (fun W => Reads W v b)) : WrL P w (L ++ [(i, v)]) (l ++ [(i, b)]) := by
  refine ⟨by rw [List.length_append, List.length_append, h.len]; rfl, fun j hj => ?_⟩
  rw [List.length_append, List.length_singleton] at hj
  by_cases hl : j < l.length
  · rw [List.getD_eq_getElem?_getD, List.getD_eq_getElem?_getD, List.getElem?_append_left (by rw [h.len]; exact hl), List.getElem?_append_left hl, ← List.getD_eq_getElem?_getD, ← List.getD_eq_getElem?_getD]
    exact h.at_ j hl
  · obtain rfl : j = l.length := by omega
    rw [List.getD_eq_getElem?_getD, List.getD_eq_getElem?_getD, List.getElem?_append_right (Nat.le_refl _), List.getElem?_append_right (by rw [h.len]; exact Nat.le_refl _), h.len, Nat.sub_self]
    exact ⟨rfl, hb⟩
theorem WrL.one {P : Nat → Prop} {w : World} {L : List (Nat × Value)} {l : List (Nat × Bs)} (h : WrL P w L l) : ∀ p ∈ L, p.2.oneCell' = true := fun p hp => by
  obtain ⟨j, hj, rfl⟩ := List.getElem_of_mem hp
  have h1 := (h.at_ j (by rw [← h.len]; exact hj)).2.now
  have e : L.getD j (0, undef) = L[j] := by rw [List.getD_eq_getElem?_getD, List.getElem?_eq_getElem hj]; rfl
  rw [e] at h1
  obtain ⟨a, n, c, hv⟩ := h1.form
  rw [hv]
  rfl
end Go.Proofs.YtopmeedmgjdcgaaGreatDoor
/- The program's disk in memory: sectors, writes that wait, its cells; what single operations do (layer 13). -/
namespace Go.Proofs.YtopmeedmgjdcgaaGreatDoor
open Go.RowKit
set_option maxRecDepth 100000
/-- a reading, and what makes memory, in either order -/
theorem wpAnyH_comm {P : Program} {md : Region.Mode} {ops : Array Oper} {Q : Exit → Act → World → Prop} {S : World → Prop} {fuel : Nat} {listed : Array Bool} {a : Act} {w : World} (i j : Nat) {oi oj : Oper} (v u : Value) (w' : World)
    (hr : Region.ready md ops listed = [i, j]) (hi : ops[i]? = some oi) (hj : ops[j]? = some oj)
    (wi : Region.wanted oi (yielded ops a.tmps) = true) (wj : Region.wanted oj (yielded ops a.tmps) = true) (wi2 : Region.wanted oi (yielded ops (a.put oj.dst u).tmps) = true) (wj2 : Region.wanted oj (yielded ops (a.put oi.dst v).tmps) = true)
    (ei : (execOp a.eval oi).run P w = .ok (.value v) w) (ej : (execOp a.eval oj).run P w = .ok (.value u) w') (ei2 : (execOp (a.put oj.dst u).eval oi).run P w' = .ok (.value v) w') (ej2 : (execOp (a.put oi.dst v).eval oj).run P w = .ok (.value u) w')
    (hr1 : Region.ready md ops (listed.setIfInBounds i true) = [j]) (hr2 : Region.ready md ops (listed.setIfInBounds j true) = [i])
    (hp : (a.put oj.dst u).put oi.dst v = (a.put oi.dst v).put oj.dst u) (hl : (listed.setIfInBounds j true).setIfInBounds i true = (listed.setIfInBounds i true).setIfInBounds j true)
    (hS : S w) (hS' : S w') (h : wpAnyH P md ops Q S fuel ((listed.setIfInBounds i true).setIfInBounds j true) ((a.put oi.dst v).put oj.dst u) w') : wpAnyH P md ops Q S (fuel + 2) listed a w := by
  refine wpAnyH_all hr (by simp) (fun k hk => ?_)
  rcases List.mem_cons.1 hk with rfl | hk
  · exact wpOp_vl k v w hi wi ei ⟨hS, wpAnyH_step j u w' hr1 hj wj2 ej2 hS' h⟩
  · obtain rfl : k = j := by simpa using hk
    refine wpOp_vl k u w' hj wj ej ⟨hS', wpAnyH_step i v w' hr2 hi wi2 ei2 hS' ?_⟩
    rw [hl, hp]
    exact h

def zs64 : Bs := List.replicate 64 0
theorem len_zs64 : zs64.length = 64 := List.length_replicate ..
theorem Tryz.infoSc : (Tryz.prog.info? 107).map (fun i => (i.zero, i.size, i.bytes)) = some (some (.agg (cb zs64).toArray), 64, 64) := by kernel_rfl
theorem Tryz.infoDw : (Tryz.prog.info? 109).map (fun i => (i.zero, i.size, i.bytes)) = some (some (.agg (Value.int .i64 0 :: cb zs64).toArray), 65, 72) := by kernel_rfl
theorem size_sc : (Tryz.prog.info? 107).map (·.size) = some 64 := by kernel_rfl
theorem size_dw : (Tryz.prog.info? 109).map (·.size) = some 65 := by kernel_rfl
/-- a write's cells -/
def wrC (p : Nat × Bs) : List Value := .int .i64 (p.1 : Int) :: cb p.2
theorem wrC_len {p : Nat × Bs} (h : p.2.length = 64) : (wrC p).length = 65 := by rw [wrC, List.length_cons, cb_len, h]
theorem wrC_one (p : Nat × Bs) : ∀ v ∈ wrC p, v.oneCell' = true := fun v hv => by
  rcases List.mem_cons.1 hv with rfl | hv
  · rfl
  · exact cb_one _ v hv
def flatV (l : List (Nat × Bs)) : List Value := (l.map wrC).flatten
theorem flatV_cons (p : Nat × Bs) (l : List (Nat × Bs)) : flatV (p :: l) = wrC p ++ flatV l := rfl
theorem flatV_snoc (l : List (Nat × Bs)) (p : Nat × Bs) : flatV (l ++ [p]) = flatV l ++ wrC p := by simp [flatV]
theorem flatV_at : ∀ (l : List (Nat × Bs)), (∀ p ∈ l, p.2.length = 64) → ∀ (j : Nat) (p : Nat × Bs), l[j]? = some p → ∀ i v, (wrC p)[i]? = some v → (flatV l)[j * 65 + i]? = some v
  | [], _, j, p, h, _, _, _ => by simp at h
  | q :: l, hl, 0, p, h, i, v, hv => by
    simp only [List.getElem?_cons_zero, Option.some.injEq] at h
    subst h
    have hi : i < (wrC q).length := (List.getElem?_eq_some_iff.1 hv).1
    rw [flatV_cons, Nat.zero_mul, Nat.zero_add, List.getElem?_append_left hi]
    exact hv
  | q :: l, hl, j + 1, p, h, i, v, hv => by
    simp only [List.getElem?_cons_succ] at h
    have := flatV_at l (fun x hx => hl x (by simp [hx])) j p h i v hv
    have hq := wrC_len (hl q (by simp))
    rw [flatV_cons, List.getElem?_append_right (by rw [hq]; omega), hq, show (j + 1) * 65 + i - 65 = j * 65 + i by omega]
    exact this
/-- the writes that wait -/
def OwnV (w : World) (v : Value) (l : List (Nat × Bs)) : Prop := w.ownsRow 0 109 65 v l.length (flatV l)
theorem OwnV.nil (w : World) : OwnV w (.slice none 0 0) [] := World.ownsRow_nil _ _ _ _
theorem OwnV.lt {w : World} {v : Value} {l : List (Nat × Bs)} (h : OwnV w v l) : ∀ k, v.ownBlock = some k → k < w.heap.size := fun k hk => (World.ownsRow.lt h k hk).2
theorem OwnV.same {w w' : World} {v : Value} {l : List (Nat × Bs)} (h : OwnV w v l) (hs : ∀ k, v.ownBlock = some k → w'.heap[k]? = w.heap[k]?) : OwnV w' v l := by
  rcases h with ⟨h1, ⟨rfl, h2⟩ | ⟨g, cap, cur, rfl, hg, hh, h3⟩⟩
  · exact ⟨h1, Or.inl ⟨rfl, h2⟩⟩
  · exact ⟨h1, Or.inr ⟨g, cap, cur, rfl, hg, by rw [hs g rfl]; exact hh, h3⟩⟩
theorem OwnV.ne {w : World} {v : Value} {l : List (Nat × Bs)} (h : OwnV w v l) {g : Nat} {cs : List Value} {t : TypeId} (hb : Blk w g cs t) (ht : t ≠ 109) : v.ownBlock ≠ some g := fun e => by
  rcases h with ⟨_, ⟨rfl, _⟩ | ⟨g', cap, cur, rfl, hg, hh, _⟩⟩
  · cases e
  · have e2 : g' = g := by simpa [Value.ownBlock] using e
    subst e2
    unfold Blk at hb
    rw [hh] at hb
    simp only [Option.some.injEq, Obj.cells.injEq] at hb
    exact ht hb.2.1.symm
theorem OwnV.form {w : World} {v : Value} {l : List (Nat × Bs)} (h : OwnV w v l) : ∃ ad c, v = .slice ad l.length c := by
  rcases h with ⟨_, ⟨rfl, h2⟩ | ⟨g', cap, cur, rfl, _⟩⟩
  · exact ⟨none, 0, by rw [h2]⟩
  · exact ⟨_, _, rfl⟩
/-- where the k-th write lies -/
theorem OwnV.at {w : World} {ad : Option Addr} {n c : Nat} {l : List (Nat × Bs)} (h : OwnV w (.slice ad n c) l) (hl : ∀ p ∈ l, p.2.length = 64) (hp : 0 < l.length) : ∃ b, ad = some ⟨b, 0, none⟩ ∧ ∀ j, j < l.length → w.rangeAt b (j * 65) (wrC (l.getD j (0, []))) := by
  obtain ⟨h1, h2⟩ := id h
  rcases h2 with ⟨_, h0⟩ | ⟨b, cap, cur, hv, _, hh, _, _, _, ht⟩
  · omega
  simp only [Value.slice.injEq] at hv
  obtain ⟨rfl, _, _⟩ := hv
  refine ⟨b, rfl, fun j hj i v hv => ?_⟩
  have e : l[j]? = some (l.getD j (0, [])) := by rw [List.getD_eq_getElem?_getD, List.getElem?_eq_getElem hj]; rfl
  have h3 := flatV_at l hl j _ e i v hv
  have hi : i < 65 := by
    have h4 := (List.getElem?_eq_some_iff.1 hv).1
    rwa [wrC_len (hl _ (List.mem_of_getElem? e))] at h4
  rw [cell_of_row w b _ cur 109 (0, 0) hh]
  rw [← ht, List.getElem?_take_of_lt (by omega)] at h3
  simpa using h3
theorem Blk.neT {w : World} {g g' : Nat} {cs cs' : List Value} {t t' : TypeId} (h : Blk w g cs t) (h' : Blk w g' cs' t') (ht : t ≠ t') : g ≠ g' := fun e => by
  subst e
  unfold Blk at h h'
  rw [h] at h'
  simp only [Option.some.injEq, Obj.cells.injEq] at h'
  exact ht h'.2.1
/-- a disk's cells -/
def dkC (gs n : Nat) (vw : Value) (dn fu : Bool) (lf : Int) : List Value := [.slice (some ⟨gs, 0, none⟩) n n, vw, .bool dn, .bool fu, .int .i64 lf]
structure DkM (w : World) (g gs : Nat) (vw : Value) (fu : Bool) (lf : Int) (D : DkT) : Prop where
  me : Blk w g (dkC gs (sizeD D) vw D.down fu lf) 94
  sf : Blk w gs (cb D.safe) 107
  wt : OwnV w vw D.wait
  ok : okD D
  fs : fu = decide (0 ≤ D.left)
  ls : 0 ≤ D.left → lf = D.left
def dkP (g gs : Nat) (vw : Value) : Nat → Prop := fun k => k = g ∨ k = gs ∨ vw.ownBlock = some k
/-- the disk D lies at block g, in blocks of P alone -/
def DkIs (w : World) (g : Nat) (P : Nat → Prop) (D : DkT) : Prop := ∃ gs vw fu lf, DkM w g gs vw fu lf D ∧ P = dkP g gs vw
theorem DkM.ne {w : World} {g gs : Nat} {vw : Value} {fu : Bool} {lf : Int} {D : DkT} (h : DkM w g gs vw fu lf D) : g ≠ gs ∧ vw.ownBlock ≠ some g ∧ vw.ownBlock ≠ some gs := ⟨h.me.neT h.sf (by decide), h.wt.ne h.me (by decide), h.wt.ne h.sf (by decide)⟩
theorem DkM.lt {w : World} {g gs : Nat} {vw : Value} {fu : Bool} {lf : Int} {D : DkT} (h : DkM w g gs vw fu lf D) : ∀ k, dkP g gs vw k → k < w.heap.size := fun k hk => by
  rcases hk with rfl | rfl | hk
  · exact h.me.lt
  · exact h.sf.lt
  · exact h.wt.lt k hk
theorem blk_same {w w' : World} {g : Nat} {cs : List Value} {t : TypeId} (h : Blk w g cs t) (e : w'.heap[g]? = w.heap[g]?) : Blk w' g cs t := by unfold Blk at *; rw [e]; exact h
theorem DkM.same {w w' : World} {g gs : Nat} {vw : Value} {fu : Bool} {lf : Int} {D : DkT} (h : DkM w g gs vw fu lf D) (hs : ∀ k, dkP g gs vw k → w'.heap[k]? = w.heap[k]?) : DkM w' g gs vw fu lf D :=
  ⟨blk_same h.me (hs g (Or.inl rfl)), blk_same h.sf (hs gs (Or.inr (Or.inl rfl))), h.wt.same (fun k hk => hs k (Or.inr (Or.inr hk))), h.ok, h.fs, h.ls⟩
theorem DkM.below {w w' : World} {g gs : Nat} {vw : Value} {fu : Bool} {lf : Int} {D : DkT} (h : DkM w g gs vw fu lf D) (hb : Below w.heap.size w w') : DkM w' g gs vw fu lf D := h.same (fun k hk => hb.block k (h.lt k hk))
/-- its own cells stored into -/
theorem DkM.mine {w w' : World} {g gs : Nat} {vw vw' : Value} {fu fu' : Bool} {lf lf' : Int} {D D' : DkT} (h : DkM w g gs vw fu lf D) (ho : Only g w w') (hb : Blk w' g (dkC gs (sizeD D') vw' D'.down fu' lf') 94) (h1 : D'.safe = D.safe) (hw : OwnV w' vw' D'.wait) (ok : okD D') (h3 : fu' = decide (0 ≤ D'.left)) (h4 : 0 ≤ D'.left → lf' = D'.left) : DkM w' g gs vw' fu' lf' D' :=
  ⟨hb, by rw [h1]; exact h.sf.only ho (Ne.symm h.ne.1), hw, ok, h3, h4⟩
theorem DkM.wtOnly {w w' : World} {g gs : Nat} {vw : Value} {fu : Bool} {lf : Int} {D : DkT} (h : DkM w g gs vw fu lf D) (ho : Only g w w') : OwnV w' vw D.wait := h.wt.same (fun k hk => ho.block k (fun e => h.ne.2.1 (e ▸ hk)) (h.wt.lt k hk))
/-- its sectors stored into -/
theorem DkM.sect {w w' : World} {g gs : Nat} {vw : Value} {fu : Bool} {lf : Int} {D : DkT} {b : Bs} (h : DkM w g gs vw fu lf D) (ho : Only gs w w') (hb : Blk w' gs (cb b) 107) (hl : b.length = D.safe.length) : DkM w' g gs vw fu lf ⟨b, D.wait, D.left, D.down⟩ := by
  have e : sizeD ⟨b, D.wait, D.left, D.down⟩ = sizeD D := by show b.length / 64 = _; rw [hl]; rfl
  refine ⟨by rw [e]; exact h.me.only ho h.ne.1, hb, h.wt.same (fun k hk => ho.block k (fun e => h.ne.2.2 (e ▸ hk)) (h.wt.lt k hk)), ⟨?_, h.ok.lo, h.ok.hi⟩, h.fs, h.ls⟩
  obtain ⟨n, h1, h2, h3, h4⟩ := h.ok.ex
  exact ⟨n, h1, h2, by rw [hl]; exact h3, h4⟩
/-- single operations -/
theorem idxSec (gs n k : Nat) (hk : k < n) (f : Operand → Value) (o : Oper) (x y : Operand) (ho : o.op = .indexAddr 91 x y) (hx : f x = .slice (some ⟨gs, 0, none⟩) n n) (hy : f y = .int .i64 (k : Int)) (w : World) :
    (execOp f o).run Tryz.prog w = .ok (.value (.pointer (some ⟨gs, 64 * k, none⟩))) w := by
  have k0 : (0 : Int) ≤ (k : Int) := by omega
  have k1 : (k : Int) < (n : Int) := by omega
  have hs : (sizeOf 107).run Tryz.prog w = .ok 64 w := by kernel_rfl
  unfold execOp
  rw [ho]
  simp [go_sem, hx, hy, k0, k1, Addr.add_mid, hs]
  try omega
theorem idxWr (b n c k : Nat) (hk : k < n) (f : Operand → Value) (o : Oper) (x y : Operand) (ho : o.op = .indexAddr 92 x y) (hx : f x = .slice (some ⟨b, 0, none⟩) n c) (hy : f y = .int .i64 (k : Int)) (w : World) :
    (execOp f o).run Tryz.prog w = .ok (.value (.pointer (some ⟨b, k * 65, none⟩))) w := by
  have k0 : (0 : Int) ≤ (k : Int) := by omega
  have k1 : (k : Int) < (n : Int) := by omega
  have hs : (sizeOf 109).run Tryz.prog w = .ok 65 w := by kernel_rfl
  unfold execOp
  rw [ho]
  simp [go_sem, hx, hy, k0, k1, Addr.add_mid, hs]
theorem sliceSec (b off : Nat) (f : Operand → Value) (o : Oper) (x : Operand) (ho : o.op = .slice 107 x none none none) (hx : f x = .pointer (some ⟨b, off, none⟩)) (w : World) :
    (execOp f o).run Tryz.prog w = .ok (.value (.slice (some ⟨b, off, none⟩) 64 64)) w := by
  unfold execOp
  rw [ho]
  simp only [hx, Option.map_none]
  kernel_rfl
theorem cutFrom (b off n c l : Nat) (hl : l < n) (hc : n ≤ c) (f : Operand → Value) (o : Oper) (x y : Operand) (ho : o.op = .slice 23 x (some y) none none) (hx : f x = .slice (some ⟨b, off, none⟩) n c) (hy : f y = .int .i64 (l : Int)) (w : World) :
    (execOp f o).run Tryz.prog w = .ok (.value (.slice (some ⟨b, off + l, none⟩) (n - l) (c - l))) w := by
  have hs : (sizeOf 5).run Tryz.prog w = .ok 1 w := by kernel_rfl
  have l0 : (0 : Int) ≤ (l : Int) := by omega
  have l1 : (l : Int) ≤ (n : Int) := by omega
  unfold execOp
  rw [ho]
  simp only [hx, hy, Option.map_some, Option.map_none, Sem.run_bind]
  rw [run_sliceAt_slice w 23 _ _ _ _ (by kernel_rfl), run_slice_l w 23 _ _ _ (by kernel_rfl) .i64 (l : Int) (by omega) (by omega)]
  rw [show Tryz.prog.elem 23 = 5 from by kernel_rfl, hs]
  simp only [Result.andThen_ok, sliced, Int.toNat_natCast, Nat.mul_one]
  rw [if_neg (by omega)]
  simp [Addr.add_mid]
theorem loadSec (b off : Nat) (x : Bs) (hx : x.length = 64) {a : Act} {o : Oper} (y : Operand) (ho : o.op = .load 107 y) (hy : a.eval y = .pointer (some ⟨b, off, none⟩)) {w : World} (hr : w.rangeAt b off (cb x)) : (execOp a.eval o).run Tryz.prog w = .ok (.value (.agg (cb x).toArray)) w :=
  load_run 107 y ho b off hy (cb x) _ hr Tryz.underlying107 rfl (by rw [cb_len, hx]; exact size_sc)
theorem loadWr (b off : Nat) (p : Nat × Bs) (hp : p.2.length = 64) {a : Act} {o : Oper} (y : Operand) (ho : o.op = .load 109 y) (hy : a.eval y = .pointer (some ⟨b, off, none⟩)) {w : World} (hr : w.rangeAt b off (wrC p)) : (execOp a.eval o).run Tryz.prog w = .ok (.value (.agg (wrC p).toArray)) w :=
  load_run 109 y ho b off hy (wrC p) _ hr Tryz.underlying109 rfl (by rw [wrC_len hp]; exact size_dw)
/-- bytes copied to any place of a block -/
theorem copyO (f : Operand → Value) (o : Oper) (d s : Operand) (ho : o.op = .call { callee := .builtin .copy, args := #[d, s], argTypes := #[23, 23] }) (w : World) (g k dLen dCap b off sLen sCap : Nat) (t : TypeId) (cs : List Value) (xs : Bs) (hg : Blk w g cs t) (hm : xs.length = min sLen dLen) (hk : k + xs.length ≤ cs.length)
    (hsrc : ∀ j, j < xs.length → w.cell? ⟨b, off + j, none⟩ = some (.int .u8 ((xs.getD j 0).toNat : Int))) (hx : f d = .slice (some ⟨g, k, none⟩) dLen dCap) (hy : f s = .slice (some ⟨b, off, none⟩) sLen sCap) :
    ∃ w', (execOp f o).run Tryz.prog w = .ok (.value (.int .i64 (xs.length : Int))) w' ∧ Blk w' g (cs.take k ++ cb xs ++ cs.drop (k + xs.length)) t ∧ Only g w w' := by
  have hcp : ∀ ty, (Builtin.copy_ #[23, 23] ty #[.slice (some ⟨g, k, none⟩) dLen dCap, .slice (some ⟨b, off, none⟩) sLen sCap]).run Tryz.prog w = .ok (goInt (cb xs).length) (w.setCells g k (cb xs)) := fun ty =>
      run_copy_cells w _ _ ty 5 g k dLen dCap ⟨b, off, none⟩ sLen sCap (cb xs) Tryz.underlying23 (by kernel_rfl) (by rw [cb_len]; exact hm)
        (fun j u hj => by
          have hjl : j < xs.length := by have := (List.getElem?_eq_some_iff.1 hj).1; rwa [cb_len] at this
          rw [Addr.add_mid, hsrc j hjl, ← hj, cb_get xs j hjl])
        (fun j hj => by rw [hg.cell, List.getElem?_eq_getElem (by rw [cb_len] at hj; omega)]; rfl) (fun j _ => hg.frozen _) (cb_one _)
  refine ⟨w.setCells g k (cb xs), ?_, ?_, Only.setCells _ _ _ (Only.refl g w)⟩
  · unfold execOp
    rw [ho]
    rw [cb_len] at hcp
    simp [resolve, invoke, builtin, hx, hy, hcp, Result.andThen]
    rfl
  · have := setCells_eq g (cb xs) k w cs t hg (by rw [cb_len]; exact hk)
    rwa [cb_len] at this
end Go.Proofs.YtopmeedmgjdcgaaGreatDoor
/- The walks of disk's New, Size, Pending, refused, change and Fuse (layer 13). -/
namespace Go.Proofs.YtopmeedmgjdcgaaGreatDoor
open Go.RowKit
set_option maxRecDepth 100000
theorem cb_rep (n j : Nat) (h : j < (cb (List.replicate n (0 : BitVec 8))).length) : (cb (List.replicate n (0 : BitVec 8)))[j] = .int .u8 0 := by
  simp only [cb, List.getElem_map, List.getElem_replicate]
  rfl
theorem madeSc (n : Nat) : madeCells (cb zs64).toArray (n * 64) = (cb (List.replicate (64 * n) (0 : BitVec 8))).toArray := by
  apply Array.ext
  · rw [size_madeCells, List.size_toArray, cb_len, List.length_replicate, Nat.mul_comm]
  · intro j h1 h2
    have hm : j % 64 < 64 := Nat.mod_lt _ (by decide)
    have hz : (cb zs64).toArray.size = 64 := by rw [List.size_toArray, cb_len, len_zs64]
    simp only [madeCells, Array.getElem_map, Array.getElem_range, hz]
    rw [getElem!_pos _ _ (by rw [hz]; exact hm), List.getElem_toArray, List.getElem_toArray]
    unfold zs64
    rw [cb_rep, cb_rep]
theorem make_sc (f : Operand → Value) (o : Oper) (x y : Operand) (n : Nat) (hn : n ≤ 1000000) (ho : o.op = .makeSlice 91 x y) (hx : f x = .int .i64 (n : Int)) (hy : f y = .int .i64 (n : Int)) (w : World) :
    (execOp f o).run Tryz.prog w = .ok (.value (.slice (some ⟨w.heap.size, 0, none⟩) n n)) (w.alloc (.cells (cb (List.replicate (64 * n) (0 : BitVec 8))).toArray 107)) := by
  obtain ⟨i0, hi, hz, hs, hby⟩ := info_parts Tryz.infoSc
  have hr := run_make (P := Tryz.prog) w 91 107 i0 _ Tryz.underlying91 hi hz .i64 .i64 (n : Int) (n : Int) (by omega) (Int.le_refl _) (by rw [hby]; omega) (by omega)
  rw [Int.toNat_natCast, hs] at hr
  rw [show Value.cells (.agg (cb zs64).toArray) = (cb zs64).toArray from rfl, madeSc] at hr
  unfold execOp
  rw [ho]
  simp only [hx, hy, Sem.run_bind, hr, Result.andThen_ok, Sem.run_pure]
theorem wpSeq_makeSc {ops : Array Oper} {Q : Exit → Act → World → Prop} {rest : List Oper} {o : Oper} {a : Act} {w : World} (x y : Operand) (n : Nat) (hn : n ≤ 1000000) (ho : o.op = .makeSlice 91 x y) (hx : a.eval x = .int .i64 (n : Int)) (hy : a.eval y = .int .i64 (n : Int)) (hw : Region.wanted o (yielded ops a.tmps) = true)
    (h : ∀ g w', NewR (cb (List.replicate (64 * n) (0 : BitVec 8))) 107 w g w' → wpList Tryz.prog ops Q rest (a.put o.dst (.slice (some ⟨g, 0, none⟩) n n)) w') : wpList Tryz.prog ops Q (o :: rest) a w :=
  wpSeq_val _ _ hw (make_sc _ o x y n hn ho hx hy w) (h _ _ (NewR.of _ _ w))
theorem built_dk (ad : Option Addr) (n c : Nat) : ∀ ps, ps = [(0, Value.slice ad n c)] → Tryz.prog.built 94 ps = some [Value.slice ad n c, .slice none 0 0, .bool false, .bool false, .int .i64 0].toArray := fun ps h => by subst h; kernel_rfl
theorem size_zero (n : Nat) : sizeD (zeroD n) = n := by show (List.replicate (64 * n) (0 : BitVec 8)).length / 64 = n; rw [List.length_replicate, Nat.mul_div_cancel_left _ (by decide)]
set_option maxRecDepth 100000 in
set_option maxHeartbeats 8000000 in
theorem dkNew_m (w : World) (n : Nat) (h1 : 1 ≤ n) (h2 : n ≤ 16384) : Calls Tryz.prog 35 #[.int .i64 (n : Int)] w fun r w' => ∃ g gs, r = .returned (.tuple #[.pointer (some ⟨g, 0, none⟩), .int .i64 0]) ∧ DkM w' g gs (.slice none 0 0) false 0 (zeroD n) ∧ Below w.heap.size w w' ∧ w.heap.size ≤ g ∧ w.heap.size ≤ gs := by
  have q1 : ¬ ((n : Int) < 1) := by omega
  have q2 : ¬ ((16384 : Int) < (n : Int)) := by omega
  have HR : Hid (1 ≤ n ∧ n ≤ 16384) := ⟨h1, h2⟩
  have HMX : Hid (n ≤ 1000000) := Nat.le_trans h2 (by decide)
  clear h1 h2
  go_enter Tryz.func35, Tryz.ntmps35
  have tk0 : Hid True := trivial
  have tk1 : Hid True := trivial
  have tk2 : Hid True := trivial
  go_wp2_with (first
    | (clear tk0; with_reducible refine wpSeq_makeSc (.tmp 10) (.tmp 10) n HMX.out ?_ ?_ ?_ ?_ ?_
       · rfl
       · rfl
       · rfl
       · rfl
       intro gs y1 nn
       have HS : Hid (Blk y1 gs (cb (List.replicate (64 * n) (0 : BitVec 8))) 107) := nn.blk
       have HB : Hid (Below w.heap.size w y1) := nn.below
       have HG : Hid (w.heap.size ≤ gs) := nn.ge
       clear nn)
    | (clear tk1; with_reducible refine wpSeq_build 94 [(0, .tmp 11)] [.slice (some ⟨gs, 0, none⟩) n n, .slice none 0 0, .bool false, .bool false, .int .i64 0] ?_ ?_ ?_ ?_
       rotate_left
       · rfl
       · rfl
       rotate_left
       · exact built_dk _ _ _ _ rfl)
    | (clear tk2; with_reducible refine wpSeq_boxW 94 (.tmp 12) [.slice (some ⟨gs, 0, none⟩) n n, .slice none 0 0, .bool false, .bool false, .int .i64 0] ?_ ?_ ?_ ?_
       · rfl
       · rfl
       · rfl
       intro g y2 nn
       have HD : Hid (Blk y2 g [.slice (some ⟨gs, 0, none⟩) n n, .slice none 0 0, .bool false, .bool false, .int .i64 0] 94) := nn.blk
       replace HS : Hid (Blk y2 gs (cb (List.replicate (64 * n) (0 : BitVec 8))) 107) := HS.out.below nn.below HS.out.lt
       have HGG : Hid (w.heap.size ≤ g) := Nat.le_trans HB.out.size nn.ge
       replace HB : Hid (Below w.heap.size w y2) := HB.out.trans (nn.below.mono HB.out.size)
       clear nn))
  refine bodyPost_ret (results_tmp2 rfl _ _ _) rfl ?_
  refine ⟨g, rfl, gs, ⟨?_, HS.out, OwnV.nil _, okD_zero HR.out.1 HR.out.2, rfl, fun h => absurd h (by show ¬ (0 : Int) ≤ -1; decide)⟩, HB.out, HGG.out, HG.out⟩
  rw [size_zero]
  exact HD.out
set_option maxRecDepth 100000 in
set_option maxHeartbeats 8000000 in
theorem dkRefused_any {w : World} {g gs : Nat} {vw : Value} {fu : Bool} {lf : Int} {D : DkT} (i : Int) (hm : DkM w g gs vw fu lf D) : Calls Tryz.prog 111 #[.pointer (some ⟨g, 0, none⟩), .int .i64 i] w fun r w' => r = .returned (.int .i64 (readX13 D i)) ∧ w' = w := by
  obtain ⟨n, HN⟩ : ∃ n, Hid (n = sizeD D) := ⟨_, rfl⟩
  obtain ⟨aw, cw, hvw⟩ := hm.wt.form
  obtain ⟨nw, HNW⟩ : ∃ n, Hid (n = D.wait.length) := ⟨_, rfl⟩
  rw [← HNW.out] at hvw
  subst hvw
  obtain ⟨dn, HDN⟩ : ∃ b, Hid (b = D.down) := ⟨_, rfl⟩
  have HM : Hid (DkM w g gs (.slice aw nw cw) fu lf D) := hm
  have HME : Hid (Blk w g [.slice (some ⟨gs, 0, none⟩) n n, .slice aw nw cw, .bool dn, .bool fu, .int .i64 lf] 94) := by have h9 := hm.me; rw [dkC, ← HN.out, ← HDN.out] at h9; exact h9
  have c0 : w.cell? ⟨g, 0, none⟩ = some (.slice (some ⟨gs, 0, none⟩) n n) := HME.out.cell 0
  have c1 : w.cell? ⟨g, 1, none⟩ = some (.slice aw nw cw) := HME.out.cell 1
  have c2 : w.cell? ⟨g, 2, none⟩ = some (.bool dn) := HME.out.cell 2
  have c3 : w.cell? ⟨g, 3, none⟩ = some (.bool fu) := HME.out.cell 3
  have c4 : w.cell? ⟨g, 4, none⟩ = some (.int .i64 lf) := HME.out.cell 4
  clear hm
  cases dn with
  | true =>
    have HX : Hid (readX13 D i = 14) := by show _ = _; rw [readX13, ← HDN.out]; rfl
    rw [HX.out]
    go_enter Tryz.func111, Tryz.ntmps111
    go_wp2
    go_ret
    exact ⟨rfl, rfl⟩
  | false =>
    by_cases hi : 0 ≤ i ∧ i < (n : Int)
    · have HX : Hid (readX13 D i = 0) := by show _ = _; rw [readX13, ← HDN.out, if_neg (by decide), if_neg (by rw [hasD_not, ← HN.out]; exact fun h => h hi)]
      rw [HX.out]
      have q1 : ¬ (i < 0) := by omega
      have q2 : ¬ ((n : Int) ≤ i) := by omega
      clear hi
      go_enter Tryz.func111, Tryz.ntmps111
      go_wp2
      go_ret
      exact ⟨rfl, rfl⟩
    · have HX : Hid (readX13 D i = 2) := by show _ = _; rw [readX13, ← HDN.out, if_neg (by decide), if_pos (by rw [hasD_not, ← HN.out]; exact hi)]
      rw [HX.out]
      by_cases q1 : i < 0
      · clear hi
        go_enter Tryz.func111, Tryz.ntmps111
        go_wp2
        go_ret
        exact ⟨rfl, rfl⟩
      · have q2 : (n : Int) ≤ i := by omega
        clear hi
        go_enter Tryz.func111, Tryz.ntmps111
        go_wp2
        go_ret
        exact ⟨rfl, rfl⟩
/-- a disk behind a change -/
def chD (D : DkT) : DkT := ⟨D.safe, D.wait, lessL D.left, decide (D.left = 0)⟩
theorem okD.ch {D : DkT} (h : okD D) : okD (chD D) := by
  refine ⟨h.ex, ?_, ?_⟩
  · show -1 ≤ lessL D.left; have := h.lo; unfold lessL; split <;> omega
  · show lessL D.left < _; have := h.hi; unfold lessL; split <;> omega
set_option maxRecDepth 100000 in
set_option maxHeartbeats 8000000 in
theorem dkChange_any {w : World} {g gs : Nat} {vw : Value} {fu : Bool} {lf : Int} {D : DkT} (hd : D.down = false) (hm : DkM w g gs vw fu lf D) : Calls Tryz.prog 117 #[.pointer (some ⟨g, 0, none⟩)] w fun r w' => ∃ lf', r = .returned (.int .i64 (if D.left = 0 then 14 else 0)) ∧ DkM w' g gs vw fu lf' (chD D) ∧ Only g w w' := by
  obtain ⟨n, HN⟩ : ∃ n, Hid (n = sizeD D) := ⟨_, rfl⟩
  obtain ⟨aw, cw, hvw⟩ := hm.wt.form
  obtain ⟨nw, HNW⟩ : ∃ n, Hid (n = D.wait.length) := ⟨_, rfl⟩
  rw [← HNW.out] at hvw
  subst hvw
  obtain ⟨dn, HDN⟩ : ∃ b, Hid (b = D.down) := ⟨_, rfl⟩
  have HM : Hid (DkM w g gs (.slice aw nw cw) fu lf D) := hm
  have HME : Hid (Blk w g [.slice (some ⟨gs, 0, none⟩) n n, .slice aw nw cw, .bool dn, .bool fu, .int .i64 lf] 94) := by have h9 := hm.me; rw [dkC, ← HN.out, ← HDN.out] at h9; exact h9
  have c0 : w.cell? ⟨g, 0, none⟩ = some (.slice (some ⟨gs, 0, none⟩) n n) := HME.out.cell 0
  have c1 : w.cell? ⟨g, 1, none⟩ = some (.slice aw nw cw) := HME.out.cell 1
  have c2 : w.cell? ⟨g, 2, none⟩ = some (.bool dn) := HME.out.cell 2
  have c3 : w.cell? ⟨g, 3, none⟩ = some (.bool fu) := HME.out.cell 3
  have c4 : w.cell? ⟨g, 4, none⟩ = some (.int .i64 lf) := HME.out.cell 4
  have HL : Hid (-1 ≤ D.left ∧ D.left < 9223372036854775808) := ⟨hm.ok.lo, hm.ok.hi⟩
  have HF : Hid (fu = decide (0 ≤ D.left)) := hm.fs
  have HLF : Hid (0 ≤ D.left → lf = D.left) := hm.ls
  rw [hd] at HDN
  clear hm
  cases fu with
  | false =>
    have HN0 : Hid (¬ 0 ≤ D.left) := by have h9 := HF.out; exact of_decide_eq_false (p := 0 ≤ D.left) h9.symm
    have HX : Hid ((if D.left = 0 then (14 : Int) else 0) = 0) := if_neg (by have := HN0.out; omega)
    have HC : Hid (chD D = D) := by
      show _ = _
      have := HN0.out
      rw [chD, lessL, if_neg (by omega), decide_eq_false (by omega), ← hd]
    rw [HX.out]
    go_enter Tryz.func117, Tryz.ntmps117
    go_wp2
    go_ret
    exact ⟨rfl, ⟨lf, by rw [HC.out]; exact HM.out⟩, Only.refl _ _⟩
  | true =>
    have HP0 : Hid (0 ≤ D.left) := by have h9 := HF.out; exact of_decide_eq_true (p := 0 ≤ D.left) h9.symm
    have hlf := HLF.out HP0.out
    by_cases h0 : lf = 0
    · have HX : Hid ((if D.left = 0 then (14 : Int) else 0) = 14) := if_pos (by omega)
      rw [HX.out]
      have HE : Hid (D.left = 0) := by show _ = _; omega
      clear hlf
      subst h0
      go_enter Tryz.func117, Tryz.ntmps117
      have tk0 : Hid True := trivial
      go_wp2_with (first
        | (clear tk0; with_reducible refine wpSeq_cellB (.tmp 15) (.const (.bool true)) g 2 [.slice (some ⟨gs, 0, none⟩) n n, .slice aw nw cw, .bool dn, .bool true, .int .i64 0] true 94 (by simp) HME.out ?_ ?_ ?_ ?_ ?_
           · rfl
           · rfl
           · rfl
           · rfl
           intro y1 hb ho
           have HB1 : Hid (Blk y1 g [.slice (some ⟨gs, 0, none⟩) n n, .slice aw nw cw, .bool true, .bool true, .int .i64 0] 94) := hb
           have HO1 : Hid (Only g w y1) := ho
           clear hb ho c0 c1 c2 c3 c4))
      go_ret
      refine ⟨0, rfl, HM.out.mine HO1.out ?_ rfl (HM.out.wtOnly HO1.out) HM.out.ok.ch ?_ ?_, HO1.out⟩
      · show Blk y1 g (dkC gs (sizeD D) _ (decide (D.left = 0)) true 0) _
        rw [← HN.out, decide_eq_true HE.out]
        exact HB1.out
      · show _ = decide (0 ≤ lessL D.left); rw [HE.out]; rfl
      · intro _; show _ = lessL D.left; rw [HE.out]; rfl
    · have HX : Hid ((if D.left = 0 then (14 : Int) else 0) = 0) := if_neg (by omega)
      rw [HX.out]
      have HE : Hid (0 < D.left ∧ lf = D.left) := ⟨by have := HP0.out; omega, hlf⟩
      have f1 : IntKind.i64.wrap (lf - 1) = lf - 1 := by rw [IntKind.wrap_i64]; have h := HL.out; have h2 := HE.out; omega
      have q0 : (lf == 0) = false := by rw [beq_eq_false_iff_ne]; exact h0
      clear hlf
      go_enter Tryz.func117, Tryz.ntmps117
      have tk0 : Hid True := trivial
      go_wp2_with (first
        | (clear tk0; with_reducible refine wpSeq_cellI (.tmp 22) (.tmp 20) g 4 [.slice (some ⟨gs, 0, none⟩) n n, .slice aw nw cw, .bool dn, .bool true, .int .i64 lf] (lf - 1) 94 (by simp) HME.out ?_ ?_ ?_ ?_ ?_
           · rfl
           · rfl
           · rfl
           · rfl
           intro y1 hb ho
           have HB1 : Hid (Blk y1 g [.slice (some ⟨gs, 0, none⟩) n n, .slice aw nw cw, .bool dn, .bool true, .int .i64 (lf - 1)] 94) := hb
           have HO1 : Hid (Only g w y1) := ho
           clear hb ho c0 c1 c2 c3 c4))
      go_ret
      have hE := HE.out
      have e1 : lessL D.left = lf - 1 := by rw [lessL, if_pos hE.1, hE.2]
      refine ⟨lf - 1, rfl, HM.out.mine HO1.out ?_ rfl (HM.out.wtOnly HO1.out) HM.out.ok.ch ?_ ?_, HO1.out⟩
      · show Blk y1 g (dkC gs (sizeD D) _ (decide (D.left = 0)) true (lf - 1)) _
        rw [← HN.out, decide_eq_false (by omega), ← HDN.out]
        exact HB1.out
      · show _ = decide (0 ≤ lessL D.left); rw [e1, decide_eq_true (by omega)]
      · intro _; show _ = lessL D.left; rw [e1]
end Go.Proofs.YtopmeedmgjdcgaaGreatDoor
/- The walks of disk's seen and Read (layer 13). -/
namespace Go.Proofs.YtopmeedmgjdcgaaGreatDoor
open Go.RowKit
set_option maxRecDepth 100000
def secD (b : Bs) (i : Nat) : Bs := (b.drop (64 * i)).take 64
theorem sec_len {b : Bs} {i : Nat} (h : 64 * i + 64 ≤ b.length) : (secD b i).length = 64 := by rw [secD, List.length_take, List.length_drop]; omega
theorem sec_at {b : Bs} {i j : Nat} (hj : j < 64) : (secD b i)[j]? = b[64 * i + j]? := by rw [secD, List.getElem?_take_of_lt hj, List.getElem?_drop]
theorem OwnV.le {w : World} {v : Value} {l : List (Nat × Bs)} (h : OwnV w v l) : l.length ≤ 9223372036854775807 := by
  rcases h with ⟨_, ⟨_, h2⟩ | ⟨g', cap, cur, _, _, _, h3, h4, _⟩⟩
  · omega
  · exact Nat.le_trans h3 h4
theorem sec_range {w : World} {gs : Nat} {b : Bs} {t : TypeId} (h : Blk w gs (cb b) t) {i : Nat} (hi : 64 * i + 64 ≤ b.length) : w.rangeAt gs (64 * i) (cb (secD b i)) := fun j v hv => by
  have hj : j < 64 := by have := (List.getElem?_eq_some_iff.1 hv).1; rwa [cb_len, sec_len hi] at this
  rw [h.cell, ← hv, cb_get _ _ (by omega), cb_get _ _ (by rw [sec_len hi]; exact hj)]
  rw [List.getD_eq_getElem?_getD, List.getD_eq_getElem?_getD, sec_at hj]
theorem range_tail {w : World} {b off : Nat} {v : Value} {cs : List Value} (h : w.rangeAt b off (v :: cs)) : w.rangeAt b (off + 1) cs := fun j u hu => by
  have := h (j + 1) u (by rw [List.getElem?_cons_succ]; exact hu)
  rwa [show off + (j + 1) = off + 1 + j by omega] at this
theorem alloc_dw (f : Operand → Value) (o : Oper) (ho : o.op = .alloc 109) (w : World) : (execOp f o).run Tryz.prog w = .ok (.value (.pointer (some ⟨w.heap.size, 0, none⟩))) (w.alloc (.cells (wrC (0, zs64)).toArray 109)) := by
  unfold execOp
  rw [ho]
  kernel_rfl
theorem wpSeq_allocDw {ops : Array Oper} {Q : Exit → Act → World → Prop} {rest : List Oper} {o : Oper} {a : Act} {w : World} (ho : o.op = .alloc 109) (hw : Region.wanted o (yielded ops a.tmps) = true)
    (h : ∀ g w', NewR (wrC (0, zs64)) 109 w g w' → wpList Tryz.prog ops Q rest (a.put o.dst (.pointer (some ⟨g, 0, none⟩))) w') : wpList Tryz.prog ops Q (o :: rest) a w :=
  wpSeq_val _ _ hw (alloc_dw _ _ ho _) (h _ _ (NewR.of _ _ w))
theorem wpSeq_idxWr {ops : Array Oper} {Q : Exit → Act → World → Prop} {rest : List Oper} {o : Oper} {a : Act} {w : World} (x y : Operand) (b n c k : Nat) (hk : k < n) (ho : o.op = .indexAddr 92 x y) (hx : a.eval x = .slice (some ⟨b, 0, none⟩) n c) (hy : a.eval y = .int .i64 (k : Int)) (hw : Region.wanted o (yielded ops a.tmps) = true)
    (h : wpList Tryz.prog ops Q rest (a.put o.dst (.pointer (some ⟨b, k * 65, none⟩))) w) : wpList Tryz.prog ops Q (o :: rest) a w :=
  wpSeq_val _ _ hw (idxWr b n c k hk _ o x y ho hx hy w) h
theorem wpSeq_sliceSec {ops : Array Oper} {Q : Exit → Act → World → Prop} {rest : List Oper} {o : Oper} {a : Act} {w : World} (x : Operand) (b off : Nat) (ho : o.op = .slice 107 x none none none) (hx : a.eval x = .pointer (some ⟨b, off, none⟩)) (hw : Region.wanted o (yielded ops a.tmps) = true)
    (h : wpList Tryz.prog ops Q rest (a.put o.dst (.slice (some ⟨b, off, none⟩) 64 64)) w) : wpList Tryz.prog ops Q (o :: rest) a w :=
  wpSeq_val _ _ hw (sliceSec b off _ o x ho hx w) h
theorem sz_sec {x : Bs} (h : x.length = 64) : (Tryz.prog.info? 107).map (·.size) = some (cb x).length := by rw [cb_len, h]; exact size_sc
theorem sz_wr {p : Nat × Bs} (h : p.2.length = 64) : (Tryz.prog.info? 109).map (·.size) = some (wrC p).length := by rw [wrC_len h]; exact size_dw
end Go.Proofs.YtopmeedmgjdcgaaGreatDoor

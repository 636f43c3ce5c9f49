/- Texts that the proof leans on, one behind the other: Plain mathematics of SHA-256 over words of 32 bits (BitVec 32) and bytes (BitVec 8); no program is named here. The walks of the turns: blazonref01.turn, sha.turned and bits.RotateLeft32 answer the word turned to the right, and leave the world as it is. Blocks of memory: what a block holds, and what stays of it behind a store, a new block or a draw. No program is named here. .. -/
import Derived.WalkKit
import Derived.Test.YtmkjcgjbhibnpaaDoorChecked
import Derived.WalkSpells
import Derived.WalkLawsBesides
import Derived.Deep.MidRow
import Derived.Deep.Draws
import Derived.Deep.RegionHeld3
import Derived.Deep.QuietTactic
import Derived.BigQuiet
import Derived.Laws.CopyOwn
import Derived.StillTailTactics
import Derived.Deep.Quiet
import Derived.BigCall
import Derived.Deep.RegionLaw
import Derived.Laws.AppendOwnNone
import Derived.Deep.RegionWith
import Derived.Lib.ConvBytes
import Derived.Deep.RegionHeld
/- Plain mathematics of SHA-256 over words of 32 bits (BitVec 32) and bytes (BitVec 8); no program is named here. -/
namespace Go.Proofs.YtmkjcgjbhibnpaaDoor
open Go.RowKit
set_option maxRecDepth 100000

/-- a word turned by n places to the right -/
def rr (x : BitVec 32) (n : Nat) : BitVec 32 := x >>> n ||| x <<< (32 - n)
def cw (l : List (BitVec 32)) : List Value := l.map fun x => Value.int .u32 (x.toNat : Int)
def cb (l : List (BitVec 8)) : List Value := l.map fun x => Value.int .u8 (x.toNat : Int)
def wordAt (b : List (BitVec 8)) (t : Nat) : BitVec 32 :=
  (b.getD (4 * t) 0).setWidth 32 <<< 24 ||| (b.getD (4 * t + 1) 0).setWidth 32 <<< 16 ||| (b.getD (4 * t + 2) 0).setWidth 32 <<< 8 ||| (b.getD (4 * t + 3) 0).setWidth 32
def sig0 (x : BitVec 32) : BitVec 32 := rr x 7 ^^^ rr x 18 ^^^ x >>> 3
def sig1 (x : BitVec 32) : BitVec 32 := rr x 17 ^^^ rr x 19 ^^^ x >>> 10
def sched1 (b : List (BitVec 8)) : Nat → List (BitVec 32)
  | 0 => List.replicate 64 0
  | k + 1 => (sched1 b k).set k (wordAt b k)
def sched2 (b : List (BitVec 8)) : Nat → List (BitVec 32)
  | 0 => sched1 b 16
  | k + 1 => (sched2 b k).set (k + 16) ((sched2 b k).getD k 0 + sig0 ((sched2 b k).getD (k + 1) 0) + (sched2 b k).getD (k + 9) 0 + sig1 ((sched2 b k).getD (k + 14) 0))

def z8 : List (BitVec 32) := List.replicate 8 0
def z64 : List (BitVec 32) := List.replicate 64 0
def zb32 : List (BitVec 8) := List.replicate 32 0
/-- the words of the rounds -/
def kw : List (BitVec 32) := [1116352408, 1899447441, 3049323471, 3921009573, 961987163, 1508970993, 2453635748, 2870763221, 3624381080, 310598401, 607225278, 1426881987, 1925078388, 2162078206, 2614888103, 3248222580, 3835390401, 4022224774, 264347078, 604807628, 770255983, 1249150122, 1555081692, 1996064986, 2554220882, 2821834349, 2952996808, 3210313671, 3336571891, 3584528711, 113926993, 338241895, 666307205, 773529912, 1294757372, 1396182291, 1695183700, 1986661051, 2177026350, 2456956037, 2730485921, 2820302411, 3259730800, 3345764771, 3516065817, 3600352804, 4094571909, 275423344, 430227734, 506948616, 659060556, 883997877, 958139571, 1322822218, 1537002063, 1747873779, 1955562222, 2024104815, 2227730452, 2361852424, 2428436474, 2756734187, 3204031479, 3329325298]
/-- eight words -/
structure St where
  a : BitVec 32
  b : BitVec 32
  c : BitVec 32
  d : BitVec 32
  e : BitVec 32
  f : BitVec 32
  g : BitVec 32
  h : BitVec 32
def St.l (s : St) : List (BitVec 32) := [s.a, s.b, s.c, s.d, s.e, s.f, s.g, s.h]
def st0 : St := ⟨1779033703, 3144134277, 1013904242, 2773480762, 1359893119, 2600822924, 528734635, 1541459225⟩
def big1 (x : BitVec 32) : BitVec 32 := rr x 6 ^^^ rr x 11 ^^^ rr x 25
def big0 (x : BitVec 32) : BitVec 32 := rr x 2 ^^^ rr x 13 ^^^ rr x 22
def cho (e f g : BitVec 32) : BitVec 32 := (e &&& f) ^^^ (~~~e &&& g)
def maj (a b c : BitVec 32) : BitVec 32 := (a &&& b) ^^^ (a &&& c) ^^^ (b &&& c)
/-- one round, with its word k and the block's word w -/
def rnd (s : St) (k w : BitVec 32) : St :=
  ⟨s.h + big1 s.e + cho s.e s.f s.g + k + w + (big0 s.a + maj s.a s.b s.c), s.a, s.b, s.c, s.d + (s.h + big1 s.e + cho s.e s.f s.g + k + w), s.e, s.f, s.g⟩
def rounds (ws : List (BitVec 32)) (s : St) : Nat → St
  | 0 => s
  | n + 1 => rnd (rounds ws s n) (kw.getD n 0) (ws.getD n 0)
def St.plus (s t : St) : St := ⟨s.a + t.a, s.b + t.b, s.c + t.c, s.d + t.d, s.e + t.e, s.f + t.f, s.g + t.g, s.h + t.h⟩
/-- the eight words behind one block more -/
def compress (s : St) (b : List (BitVec 8)) : St := s.plus (rounds (sched2 b 48) s 64)
theorem ofInt_toNat32 (x : BitVec 32) : BitVec.ofInt 32 (x.toNat : Int) = x := by
  apply BitVec.eq_of_toNat_eq; simp
theorem wrap_lt32 (x : BitVec 32) : IntKind.u32.wrap (x.toNat : Int) = (x.toNat : Int) := by
  have := x.isLt
  simp [IntKind.wrap, IntKind.bits, IntKind.signed]; omega
theorem u32_or (x y : BitVec 32) : bits .or .u32 (x.toNat : Int) (y.toNat : Int) = ((x ||| y).toNat : Int) := by
  show IntKind.u32.wrap ((BitVec.ofInt 32 (x.toNat : Int) ||| BitVec.ofInt 32 (y.toNat : Int)).toNat : Int) = _
  rw [ofInt_toNat32, ofInt_toNat32, wrap_lt32]
theorem u32_xor (x y : BitVec 32) : bits .xor .u32 (x.toNat : Int) (y.toNat : Int) = ((x ^^^ y).toNat : Int) := by
  show IntKind.u32.wrap ((BitVec.ofInt 32 (x.toNat : Int) ^^^ BitVec.ofInt 32 (y.toNat : Int)).toNat : Int) = _
  rw [ofInt_toNat32, ofInt_toNat32, wrap_lt32]
theorem u32_and (x y : BitVec 32) : bits .and .u32 (x.toNat : Int) (y.toNat : Int) = ((x &&& y).toNat : Int) := by
  show IntKind.u32.wrap ((BitVec.ofInt 32 (x.toNat : Int) &&& BitVec.ofInt 32 (y.toNat : Int)).toNat : Int) = _
  rw [ofInt_toNat32, ofInt_toNat32, wrap_lt32]
theorem u32_add (x y : BitVec 32) : ((x.toNat : Int) + (y.toNat : Int)) % 4294967296 = ((x + y).toNat : Int) := by
  simp [BitVec.toNat_add]
theorem u32_shr (x : BitVec 32) (n : Nat) : (x.toNat : Int) / 2 ^ n = ((x >>> n).toNat : Int) := by
  simp [BitVec.toNat_ushiftRight, Nat.shiftRight_eq_div_pow]
theorem u32_shl (x : BitVec 32) (n : Nat) : (x.toNat : Int) * 2 ^ n % 4294967296 = ((x <<< n).toNat : Int) := by
  simp [BitVec.toNat_shiftLeft, Nat.shiftLeft_eq]
theorem u32_add4 (x y z u : BitVec 32) : ((x.toNat : Int) + (y.toNat : Int) + (z.toNat : Int) + (u.toNat : Int)) % 4294967296 = ((x + y + z + u).toNat : Int) := by
  simp [BitVec.toNat_add]
theorem sig0_eq (x : BitVec 32) : bits .xor .u32 (bits .xor .u32 ((rr x 7).toNat : Int) ((rr x 18).toNat : Int)) ((x.toNat : Int) / 8) = ((sig0 x).toNat : Int) := by
  rw [show ((x.toNat : Int) / (8 : Int)) = ((x >>> 3).toNat : Int) from u32_shr x 3, u32_xor, u32_xor]; rfl
theorem sig1_eq (x : BitVec 32) : bits .xor .u32 (bits .xor .u32 ((rr x 17).toNat : Int) ((rr x 19).toNat : Int)) ((x.toNat : Int) / 1024) = ((sig1 x).toNat : Int) := by
  rw [show ((x.toNat : Int) / (1024 : Int)) = ((x >>> 10).toNat : Int) from u32_shr x 10, u32_xor, u32_xor]; rfl
theorem byte_word (b : BitVec 8) : (b.toNat : Int) = ((b.setWidth 32).toNat : Int) := by
  have := b.isLt
  simp [BitVec.toNat_setWidth]; omega
theorem u32_not (x : BitVec 32) : bits .xor .u32 (x.toNat : Int) 4294967295 = ((~~~x).toNat : Int) := by
  have := u32_xor x (BitVec.allOnes 32)
  rw [BitVec.xor_allOnes] at this
  rw [← this]; rfl
theorem big1_eq (e : BitVec 32) : bits .xor .u32 (bits .xor .u32 ((rr e 6).toNat : Int) ((rr e 11).toNat : Int)) ((rr e 25).toNat : Int) = ((big1 e).toNat : Int) := by rw [u32_xor, u32_xor]; rfl
theorem big0_eq (a : BitVec 32) : bits .xor .u32 (bits .xor .u32 ((rr a 2).toNat : Int) ((rr a 13).toNat : Int)) ((rr a 22).toNat : Int) = ((big0 a).toNat : Int) := by rw [u32_xor, u32_xor]; rfl
theorem not_own (x : BitVec 32) : bits .xor .u32 (if IntKind.u32.signed = true then -1 else IntKind.u32.max) (x.toNat : Int) = ((~~~x).toNat : Int) := by
  have := u32_xor (BitVec.allOnes 32) x
  rw [BitVec.allOnes_xor] at this
  rw [← this]; rfl
theorem cho_own (e f g : BitVec 32) : bits .xor .u32 (bits .and .u32 (e.toNat : Int) (f.toNat : Int)) (bits .and .u32 (bits .xor .u32 (if IntKind.u32.signed = true then -1 else IntKind.u32.max) (e.toNat : Int)) (g.toNat : Int)) = ((cho e f g).toNat : Int) := by
  rw [not_own, u32_and, u32_and, u32_xor]; rfl
theorem cho_ref (e f g : BitVec 32) : bits .xor .u32 (bits .and .u32 (e.toNat : Int) (f.toNat : Int)) (bits .and .u32 (bits .xor .u32 (e.toNat : Int) 4294967295) (g.toNat : Int)) = ((cho e f g).toNat : Int) := by
  rw [u32_not, u32_and, u32_and, u32_xor]; rfl
theorem maj_eq (a b c : BitVec 32) : bits .xor .u32 (bits .xor .u32 (bits .and .u32 (a.toNat : Int) (b.toNat : Int)) (bits .and .u32 (a.toNat : Int) (c.toNat : Int))) (bits .and .u32 (b.toNat : Int) (c.toNat : Int)) = ((maj a b c).toNat : Int) := by
  rw [u32_and, u32_and, u32_and, u32_xor, u32_xor]; rfl
theorem sum_a (h p q y x u v : BitVec 32) : (((h.toNat : Int) + (p.toNat : Int) + (q.toNat : Int) + (y.toNat : Int) + (x.toNat : Int)) % 4294967296 + ((u.toNat : Int) + (v.toNat : Int)) % 4294967296) % 4294967296 = ((h + p + q + y + x + (u + v)).toNat : Int) := by
  simp [BitVec.toNat_add]
theorem sum_e (d h p q y x : BitVec 32) : ((d.toNat : Int) + ((h.toNat : Int) + (p.toNat : Int) + (q.toNat : Int) + (y.toNat : Int) + (x.toNat : Int)) % 4294967296) % 4294967296 = ((d + (h + p + q + y + x)).toNat : Int) := by
  simp [BitVec.toNat_add]
theorem plus_cells (s q : St) : [Value.int .u32 (((s.a.toNat : Int) + (q.a.toNat : Int)) % 4294967296), Value.int .u32 (((s.b.toNat : Int) + (q.b.toNat : Int)) % 4294967296), Value.int .u32 (((s.c.toNat : Int) + (q.c.toNat : Int)) % 4294967296), Value.int .u32 (((s.d.toNat : Int) + (q.d.toNat : Int)) % 4294967296), Value.int .u32 (((s.e.toNat : Int) + (q.e.toNat : Int)) % 4294967296), Value.int .u32 (((s.f.toNat : Int) + (q.f.toNat : Int)) % 4294967296), Value.int .u32 (((s.g.toNat : Int) + (q.g.toNat : Int)) % 4294967296), Value.int .u32 (((s.h.toNat : Int) + (q.h.toNat : Int)) % 4294967296)] = cw (s.plus q).l := by
  simp only [u32_add]; rfl
theorem compress_eq (s : St) (b : List (BitVec 8)) : compress s b = s.plus (rounds (sched2 b 48) s 64) := rfl
theorem len_z8 : z8.length = 8 := rfl
theorem len_z64 : z64.length = 64 := rfl
theorem len_zb32 : zb32.length = 32 := rfl
end Go.Proofs.YtmkjcgjbhibnpaaDoor
/- The walks of the turns: blazonref01.turn, sha.turned and bits.RotateLeft32 answer the word turned to the right, and leave the world as it is. -/
namespace Go.Proofs.YtmkjcgjbhibnpaaDoor
open Go.RowKit
set_option maxRecDepth 100000

theorem rr_ref (x : BitVec 32) (n : Int) (h1 : 1 ≤ n) (h2 : n ≤ 31) :
    bits .or .u32 ((x.toNat : Int) / 2 ^ n.toNat) ((x.toNat : Int) * 2 ^ (32 - n).toNat % 4294967296) = ((rr x n.toNat).toNat : Int) := by
  rw [u32_shr, u32_shl, u32_or, rr, show (32 - n).toNat = 32 - n.toNat from by omega]
theorem rr_own (x : BitVec 32) (n : Int) (h1 : -31 ≤ n) (h2 : n ≤ -1) :
    bits .or .u32 ((x.toNat : Int) * 2 ^ (32 + n).toNat % 4294967296) ((x.toNat : Int) / 2 ^ (32 - (32 + n)).toNat) = ((rr x (-n).toNat).toNat : Int) := by
  rw [u32_shr, u32_shl, u32_or, rr, BitVec.or_comm, show (32 - (32 + n)).toNat = (-n).toNat from by omega, show (32 + n).toNat = 32 - (-n).toNat from by omega]
theorem and31 (n : Int) (h1 : -31 ≤ n) (h2 : n ≤ -1) : bits .and .u64 (IntKind.u64.wrap n) 31 = 32 + n := by
  obtain ⟨k, hk, hn⟩ : ∃ k : Nat, k < 32 ∧ n = -(k : Int) := ⟨(-n).toNat, by omega, by omega⟩
  subst hn
  have : ∀ k : Fin 32, 1 ≤ k.val → bits .and .u64 (IntKind.u64.wrap (-(k.val : Int))) 31 = 32 + -(k.val : Int) := by decide
  exact this ⟨k, hk⟩ (by simp; omega)

set_option maxHeartbeats 400000 in
theorem turn_any (x : BitVec 32) (n : Int) (w : World) (h1 : 1 ≤ n) (h2 : n ≤ 31) :
    Calls Tryd.prog 47 #[.int .u32 (x.toNat : Int), .int .i64 n] w fun e w' => e = .returned (.int .u32 ((rr x n.toNat).toNat : Int)) ∧ w' = w := by
  have h := rr_ref x n h1 h2
  have H : Hid (bits .or .u32 ((x.toNat : Int) / 2 ^ n.toNat) ((x.toNat : Int) * 2 ^ (32 - n).toNat % 4294967296) = ((rr x n.toNat).toNat : Int)) := h
  clear h
  go_enter Tryd.func47, Tryd.ntmps47
  go_wp2
  go_ret
  refine ⟨?_, rfl⟩
  rw [← H.out]; rfl
set_option maxHeartbeats 400000 in
theorem rot_any (x : BitVec 32) (n : Int) (w : World) (h1 : -31 ≤ n) (h2 : n ≤ -1) :
    Calls Tryd.prog 56 #[.int .u32 (x.toNat : Int), .int .i64 n] w fun e w' => e = .returned (.int .u32 ((rr x (-n).toNat).toNat : Int)) ∧ w' = w := by
  have hb := and31 n h1 h2
  go_enter Tryd.func56, Tryd.ntmps56
  go_wp2
  go_ret
  refine ⟨?_, rfl⟩
  rw [← rr_own x n h1 h2]
  rfl
set_option maxHeartbeats 400000 in
theorem turned_any (x : BitVec 32) (n : Int) (w : World) (h1 : 1 ≤ n) (h2 : n ≤ 31) :
    Calls Tryd.prog 55 #[.int .u32 (x.toNat : Int), .int .i64 n] w fun e w' => e = .returned (.int .u32 ((rr x n.toNat).toNat : Int)) ∧ w' = w := by
  go_enter Tryd.func55, Tryd.ntmps55
  go_wp2_with (go_at_call 56; refine (rot_any x (-n) _ (by omega) (by omega)).mono ?_; rintro e w' ⟨rfl, rfl⟩)
  go_ret
  exact ⟨by simp, rfl⟩
end Go.Proofs.YtmkjcgjbhibnpaaDoor
/- Blocks of memory: what a block holds, and what stays of it behind a store, a new block or a draw. No program is named here. -/
namespace Go.Proofs.YtmkjcgjbhibnpaaDoor
open Go.RowKit
set_option maxRecDepth 100000

/-- block g is a row of the cells cs, of element type t, no cell of it frozen -/
def Blk (w : World) (g : Nat) (cs : List Value) (t : TypeId) : Prop := w.heap[g]? = some (.cells cs.toArray t (0, 0))

theorem Blk.lt {w : World} {g : Nat} {cs : List Value} {t : TypeId} (h : Blk w g cs t) : g < w.heap.size := by
  unfold Blk at h
  rcases Nat.lt_or_ge g w.heap.size with h' | h'
  · exact h'
  · rw [Array.getElem?_eq_none h'] at h; cases h
theorem Blk.cell {w : World} {g : Nat} {cs : List Value} {t : TypeId} (h : Blk w g cs t) (j : Nat) : w.cell? ⟨g, j, none⟩ = cs[j]? := by
  rw [cell_of_row w g j _ t (0, 0) h]; simp
theorem Blk.frozen {w : World} {g : Nat} {cs : List Value} {t : TypeId} (h : Blk w g cs t) (j : Nat) : w.frozen? ⟨g, j, none⟩ = false := frozen_of_row w g j _ t h
theorem Blk.drew {w : World} {g : Nat} {cs : List Value} {t : TypeId} (h : Blk w g cs t) : Blk w.drew g cs t := h
theorem Blk.drewN {w : World} {g : Nat} {cs : List Value} {t : TypeId} (h : Blk w g cs t) (n : Nat) : Blk (w.drewN n) g cs t := h
theorem Blk.alloc {w : World} {g : Nat} {cs : List Value} {t : TypeId} (h : Blk w g cs t) (o : Obj) : Blk (w.alloc o) g cs t := by
  have := h.lt
  unfold Blk at *
  rw [Go.RowKit.Below.heap_alloc w o g this]; exact h
theorem Blk.new (w : World) (cs : List Value) (t : TypeId) : Blk (w.alloc (.cells cs.toArray t)) w.heap.size cs t := heap_alloc_new w _
theorem Blk.new_at {w : World} {n : Nat} (hn : w.heap.size = n) (cs : List Value) (t : TypeId) : Blk (w.alloc (.cells cs.toArray t)) n cs t := by
  subst hn; exact Blk.new w cs t
theorem Blk.set {w : World} {g : Nat} {cs : List Value} {t : TypeId} (h : Blk w g cs t) (i : Nat) (v : Value) : Blk (w.setCell ⟨g, i, none⟩ v) g (cs.set i v) t := by
  unfold Blk at *
  rw [heap_setCell_same w g i _ t v h]; simp
theorem Blk.other {w : World} {g : Nat} {cs : List Value} {t : TypeId} (h : Blk w g cs t) (a : Addr) (v : Value) (hne : g ≠ a.block) : Blk (w.setCell a v) g cs t := by
  unfold Blk at *
  rw [heap_setCell_other w a g v hne]; exact h
theorem Blk.below {w w' : World} {g B : Nat} {cs : List Value} {t : TypeId} (h : Blk w g cs t) (hb : Below B w w') (hg : g < B) : Blk w' g cs t := by
  unfold Blk at *
  rw [hb.block g hg]; exact h
theorem Blk.range {w : World} {g : Nat} {cs : List Value} {t : TypeId} (h : Blk w g cs t) : w.rangeAt g 0 cs := fun j v hv => by
  rw [Nat.zero_add, h.cell j, hv]
theorem Blk.there {w : World} {g : Nat} {cs : List Value} {t : TypeId} (h : Blk w g cs t) (o n : Nat) (hn : o + n ≤ cs.length) : w.there g o n := fun j hj => by
  rw [h.cell, h.frozen]
  exact ⟨by rw [List.getElem?_eq_getElem (by omega)]; rfl, rfl⟩
theorem setCells_eq (g : Nat) : ∀ (vs : List Value) (o : Nat) (w : World) (cs : List Value) (t : TypeId), Blk w g cs t → o + vs.length ≤ cs.length → Blk (w.setCells g o vs) g (cs.take o ++ vs ++ cs.drop (o + vs.length)) t
  | [], o, w, cs, t, h, _ => by simpa [World.setCells] using h
  | v :: r, o, w, cs, t, h, hl => by
    rw [World.setCells]
    simp only [List.length_cons] at hl
    have := setCells_eq g r (o + 1) _ _ t (h.set o v) (by simp; omega)
    have e : (cs.set o v).take (o + 1) ++ r ++ (cs.set o v).drop (o + 1 + r.length) = cs.take o ++ (v :: r) ++ cs.drop (o + (v :: r).length) := by
      have e1 : (cs.set o v).take (o + 1) = cs.take o ++ [v] := by
        apply List.ext_getElem?
        intro i
        by_cases h1 : i < o
        · rw [List.getElem?_take_of_lt (by omega), List.getElem?_append_left (by simp; omega), List.getElem?_take_of_lt h1, List.getElem?_set_ne (by omega)]
        · by_cases h2 : i = o
          · subst h2
            rw [List.getElem?_take_of_lt (by omega), List.getElem?_append_right (by simp; omega), List.getElem?_set_self (by omega)]
            simp [Nat.min_eq_left (show i ≤ cs.length by omega)]
          · rw [List.getElem?_eq_none (by simp; omega), List.getElem?_eq_none (by simp; omega)]
      have e2 : (cs.set o v).drop (o + 1 + r.length) = cs.drop (o + (v :: r).length) := by
        rw [List.drop_set_of_lt (by omega), List.length_cons]; congr 1; omega
      rw [e1, e2]; simp
    rw [e] at this; exact this
theorem Blk.whole {w : World} {g : Nat} {cs : List Value} {t : TypeId} (h : Blk w g cs t) (vs : List Value) (hl : vs.length = cs.length) : Blk (w.setCells g 0 vs) g vs t := by
  have := setCells_eq g vs 0 w cs t h (by omega)
  simpa [hl] using this
theorem wpList_store8 {P : Program} {ops : Array Oper} {rest : List Oper} {op : Oper} {a : Act} {w : World} {Q : Exit → Act → World → Prop} (hgd : op.guard = none) (ty : TypeId) (x y : Operand) (ho : op.op = .store ty x y)
    (b : Nat) (na nb nc nd ne nf ng nh : Int) (hx : a.eval x = .pointer (some ⟨b, 0, none⟩)) (hy : a.eval y = .agg #[Value.int .u32 na, Value.int .u32 nb, Value.int .u32 nc, Value.int .u32 nd, Value.int .u32 ne, Value.int .u32 nf, Value.int .u32 ng, Value.int .u32 nh])
    (ht : w.there b 0 8) (hi : (P.info? ty).map (·.size) = some 8)
    (h : wpList P ops Q rest (a.put op.dst undef) (w.setCells b 0 [Value.int .u32 na, Value.int .u32 nb, Value.int .u32 nc, Value.int .u32 nd, Value.int .u32 ne, Value.int .u32 nf, Value.int .u32 ng, Value.int .u32 nh])) : wpList P ops Q (op :: rest) a w :=
  wpList_store_mid hgd ty x y ho b 0 _ hx hy ht hi (by simp [Value.oneCell']) h
theorem wpList_build8 {P : Program} {ops : Array Oper} {rest : List Oper} {o : Oper} {a : Act} {w : World} {Q : Exit → Act → World → Prop} (hg : o.guard = none) (t : TypeId) (xa xb xc xd xe xf xg xh : Operand)
    (ho : o.op = .build t #[(0, xa), (1, xb), (2, xc), (3, xd), (4, xe), (5, xf), (6, xg), (7, xh)]) (na nb nc nd ne nf ng nh : Int) (ea : a.eval xa = .int .u32 na) (eb : a.eval xb = .int .u32 nb) (ec : a.eval xc = .int .u32 nc) (ed : a.eval xd = .int .u32 nd) (ee : a.eval xe = .int .u32 ne) (ef : a.eval xf = .int .u32 nf) (eg : a.eval xg = .int .u32 ng) (eh : a.eval xh = .int .u32 nh)
    (hb : P.built t [(0, Value.int .u32 na), (1, Value.int .u32 nb), (2, Value.int .u32 nc), (3, Value.int .u32 nd), (4, Value.int .u32 ne), (5, Value.int .u32 nf), (6, Value.int .u32 ng), (7, Value.int .u32 nh)] = some #[Value.int .u32 na, Value.int .u32 nb, Value.int .u32 nc, Value.int .u32 nd, Value.int .u32 ne, Value.int .u32 nf, Value.int .u32 ng, Value.int .u32 nh])
    (h : wpList P ops Q rest (a.put o.dst (.agg #[Value.int .u32 na, Value.int .u32 nb, Value.int .u32 nc, Value.int .u32 nd, Value.int .u32 ne, Value.int .u32 nf, Value.int .u32 ng, Value.int .u32 nh])) w) : wpList P ops Q (o :: rest) a w :=
  wpList_build hg t _ ho (by simp [ea, eb, ec, ed, ee, ef, eg, eh, hb]) (by simpa [ea, eb, ec, ed, ee, ef, eg, eh, hb] using h)
theorem cw_get (l : List (BitVec 32)) (j : Nat) (h : j < l.length) : (cw l)[j]? = some (.int .u32 ((l.getD j 0).toNat : Int)) := by simp [cw, h]
theorem cb_get (l : List (BitVec 8)) (j : Nat) (h : j < l.length) : (cb l)[j]? = some (.int .u8 ((l.getD j 0).toNat : Int)) := by simp [cb, h]
theorem cw_set (l : List (BitVec 32)) (j : Nat) (v : BitVec 32) : (cw l).set j (.int .u32 (v.toNat : Int)) = cw (l.set j v) := by simp [cw, List.map_set]
theorem cb_set (l : List (BitVec 8)) (j : Nat) (v : BitVec 8) : (cb l).set j (.int .u8 (v.toNat : Int)) = cb (l.set j v) := by simp [cb, List.map_set]
theorem cw_len (l : List (BitVec 32)) : (cw l).length = l.length := by simp [cw]
theorem cb_len (l : List (BitVec 8)) : (cb l).length = l.length := by simp [cb]
theorem cw_one (l : List (BitVec 32)) : ∀ v ∈ cw l, v.oneCell' = true := by simp [cw, Value.oneCell']
theorem cb_one (l : List (BitVec 8)) : ∀ v ∈ cb l, v.oneCell' = true := by simp [cb, Value.oneCell']
theorem Below.setCells {B : Nat} {a : World} (g : Nat) (hg : B ≤ g) : ∀ (vs : List Value) (o : Nat) (w : World), Below B a w → Below B a (w.setCells g o vs)
  | [], _, _, h => h
  | v :: r, o, w, h => by rw [World.setCells]; exact Below.setCells g hg r (o + 1) _ (h.setCell hg v)
theorem Blk.others (g' : Nat) : ∀ (vs : List Value) (o : Nat) (w : World) {g : Nat} {cs : List Value} {t : TypeId}, Blk w g cs t → g ≠ g' → Blk (w.setCells g' o vs) g cs t
  | [], _, _, _, _, _, h, _ => h
  | v :: r, o, w, _, _, _, h, hne => by rw [World.setCells]; exact Blk.others g' r (o + 1) _ (h.other _ v hne) hne
end Go.Proofs.YtmkjcgjbhibnpaaDoor
/- The walk of sha.spread: the 64 words that a block gives to the rounds. -/
namespace Go.Proofs.YtmkjcgjbhibnpaaDoor
open Go.RowKit
set_option maxRecDepth 100000
theorem Tryd.info74 : (Tryd.prog.info? 74).map (·.size) = some 64 := by kernel_rfl
theorem len_sched1 (b : List (BitVec 8)) (k : Nat) : (sched1 b k).length = 64 := by
  induction k with
  | zero => simp [sched1]
  | succ k ih => simp [sched1, ih]
theorem len_sched2 (b : List (BitVec 8)) (k : Nat) : (sched2 b k).length = 64 := by
  induction k with
  | zero => exact len_sched1 b 16
  | succ k ih => simp [sched2, ih]
/-- The three blocks of a call of spread: the block's bytes, the result, the words. -/
structure SpInv (w : World) (b : List (BitVec 8)) (l : List (BitVec 32)) (wr : World) : Prop where
  blk : Blk wr w.heap.size (cb b) 78
  res : Blk wr (w.heap.size + 1) (cw (List.replicate 64 0)) 74
  wds : Blk wr (w.heap.size + 1 + 1) (cw l) 74
  bel : Below w.heap.size w wr
theorem SpInv.store {w wr : World} {b : List (BitVec 8)} {l : List (BitVec 32)} (h : SpInv w b l wr) (k : Nat) (v : BitVec 32) :
    SpInv w b (l.set k v) ((wr.setCell ⟨w.heap.size + 1 + 1, k, none⟩ (.int .u32 (v.toNat : Int))).drew) :=
  ⟨(h.blk.other _ _ (by simp; omega)).drew, (h.res.other _ _ (by simp)).drew, by have := (h.wds.set k (.int .u32 (v.toNat : Int))).drew; rw [cw_set] at this; exact this, (h.bel.setCell (by simp; omega) _).drew⟩
theorem SpInv.drewN {w wr : World} {b : List (BitVec 8)} {l : List (BitVec 32)} (h : SpInv w b l wr) (n : Nat) : SpInv w b l (wr.drewN n) := ⟨h.blk, h.res, h.wds, ⟨h.bel.os, h.bel.tape, h.bel.output, h.bel.size, h.bel.block⟩⟩
theorem SpInv.at {w wr : World} {b : List (BitVec 8)} {l : List (BitVec 32)} (h : SpInv w b l wr) (j : Nat) (hj : j < l.length) : wr.cell? ⟨w.heap.size + 1 + 1, j, none⟩ = some (.int .u32 ((l.getD j 0).toNat : Int)) := by
  rw [h.wds.cell, cw_get l j hj]
theorem SpInv.by {w wr : World} {b : List (BitVec 8)} {l : List (BitVec 32)} (h : SpInv w b l wr) (j : Nat) (hj : j < b.length) : wr.cell? ⟨w.heap.size, j, none⟩ = some (.int .u8 ((b.getD j 0).toNat : Int)) := by
  rw [h.blk.cell, cb_get b j hj]
theorem word4 (b0 b1 b2 b3 : BitVec 8) :
    bits .or .u32 (bits .or .u32 (bits .or .u32 ((b0.toNat : Int) * 16777216) ((b1.toNat : Int) * 65536)) ((b2.toNat : Int) * 256)) (b3.toNat : Int) =
      ((b0.setWidth 32 <<< 24 ||| b1.setWidth 32 <<< 16 ||| b2.setWidth 32 <<< 8 ||| b3.setWidth 32).toNat : Int) := by
  have h0 := b0.isLt
  have h1 := b1.isLt
  have h2 := b2.isLt
  have e0 : (b0.toNat : Int) * (16777216 : Int) = ((b0.setWidth 32 <<< 24).toNat : Int) := by simp [BitVec.toNat_shiftLeft, Nat.shiftLeft_eq]; omega
  have e1 : (b1.toNat : Int) * (65536 : Int) = ((b1.setWidth 32 <<< 16).toNat : Int) := by simp [BitVec.toNat_shiftLeft, Nat.shiftLeft_eq]; omega
  have e2 : (b2.toNat : Int) * (256 : Int) = ((b2.setWidth 32 <<< 8).toNat : Int) := by simp [BitVec.toNat_shiftLeft, Nat.shiftLeft_eq]; omega
  rw [e0, e1, e2, byte_word b3, u32_or, u32_or, u32_or]
set_option maxRecDepth 100000 in
set_option maxHeartbeats 1000000 in
theorem spread_any (b : List (BitVec 8)) (hb : b.length = 64) (w : World) :
    Calls Tryd.prog 54 #[.agg (cb b).toArray] w fun e w' => e = .returned (.agg (cw (sched2 b 48)).toArray) ∧ Below w.heap.size w w' := by
  go_enter Tryd.func54, Tryd.ntmps54
  go_wp2
  go_loopw [10] (fun i wr => ∃ k : Nat, k ≤ 16 ∧ i = .int .i64 k ∧ SpInv w b (sched1 b k) wr) (fun i _ => 16 - (intOf i).toNat)
  case atStart =>
    refine ⟨0, by omega, rfl, ?_, ?_, ?_, ?_⟩
    · exact ((Blk.new w (cb b) 78).alloc _).alloc _
    · exact (Blk.new_at (w := w.alloc (.cells (cb b).toArray 78)) (by simp) (cw (List.replicate 64 0)) 74).alloc (.cells (cw (List.replicate 64 0)).toArray 74)
    · exact Blk.new_at (w := (w.alloc (.cells (cb b).toArray 78)).alloc (.cells (cw (List.replicate 64 0)).toArray 74)) (by simp) (cw (List.replicate 64 0)) 74
    · exact (((Below.refl _ _).alloc (Nat.le_refl _) _).alloc (by simp) _).alloc (by simp; omega) _
  case round =>
    obtain ⟨k, hk, rfl, hI⟩ := hrel
    by_cases hlt : k < 16
    · obtain ⟨b0, H0⟩ : ∃ x, Hid (x = b.getD (4 * k) 0) := ⟨_, rfl⟩
      obtain ⟨b1, H1⟩ : ∃ x, Hid (x = b.getD (4 * k + 1) 0) := ⟨_, rfl⟩
      obtain ⟨b2, H2⟩ : ∃ x, Hid (x = b.getD (4 * k + 2) 0) := ⟨_, rfl⟩
      obtain ⟨b3, H3⟩ : ∃ x, Hid (x = b.getD (4 * k + 3) 0) := ⟨_, rfl⟩
      have c0 : wr.cell? ⟨w.heap.size, 4 * k, none⟩ = some (.int .u8 (b0.toNat : Int)) := by rw [H0.out]; exact hI.by _ (by omega)
      have c1 : wr.cell? ⟨w.heap.size, 4 * k + 1, none⟩ = some (.int .u8 (b1.toNat : Int)) := by rw [H1.out]; exact hI.by _ (by omega)
      have c2 : wr.cell? ⟨w.heap.size, 4 * k + 2, none⟩ = some (.int .u8 (b2.toNat : Int)) := by rw [H2.out]; exact hI.by _ (by omega)
      have c3 : wr.cell? ⟨w.heap.size, 4 * k + 3, none⟩ = some (.int .u8 (b3.toNat : Int)) := by rw [H3.out]; exact hI.by _ (by omega)
      have HW : Hid (wordAt b k = b0.setWidth 32 <<< 24 ||| b1.setWidth 32 <<< 16 ||| b2.setWidth 32 <<< 8 ||| b3.setWidth 32) := by rw [H0.out, H1.out, H2.out, H3.out]; rfl
      obtain ⟨o, cT⟩ : ∃ o, wr.cell? ⟨w.heap.size + 1 + 1, k, none⟩ = some o := ⟨_, hI.at k (by rw [len_sched1]; omega)⟩
      have fT : wr.frozen? ⟨w.heap.size + 1 + 1, k, none⟩ = false := hI.wds.frozen k
      have g0 : (b0.toNat : Int) < 256 := by have := b0.isLt; omega
      have g1 : (b1.toNat : Int) < 256 := by have := b1.isLt; omega
      have g2 : (b2.toNat : Int) < 256 := by have := b2.isLt; omega
      have g3 : (b3.toNat : Int) < 256 := by have := b3.isLt; omega
      clear H0 H1 H2 H3
      go_wp2
      go_region
      go_wp2
      go_roundw
      case rel =>
        refine ⟨k + 1, by omega, by go_num, ?_⟩
        have := hI.store k (wordAt b k)
        rw [HW.out, ← word4] at this
        rw [sched1, HW.out]
        exact this
      case measure => simp [intOf]; omega
    · have hk16 : k = 16 := by omega
      subst hk16
      go_wp2
      go_loopw [43] (fun i wr => ∃ k : Nat, k ≤ 48 ∧ i = .int .i64 k ∧ SpInv w b (sched2 b k) wr) (fun i _ => 48 - (intOf i).toNat)
      case atStart => exact ⟨0, by omega, rfl, hI⟩
      case round =>
        clear hI hlt hk
        obtain ⟨k, hk, rfl, hI⟩ := hrel
        by_cases hlt : k < 48
        · obtain ⟨x0, H0⟩ : ∃ x, Hid (x = (sched2 b k).getD k 0) := ⟨_, rfl⟩
          obtain ⟨x1, H1⟩ : ∃ x, Hid (x = (sched2 b k).getD (k + 1) 0) := ⟨_, rfl⟩
          obtain ⟨x9, H9⟩ : ∃ x, Hid (x = (sched2 b k).getD (k + 9) 0) := ⟨_, rfl⟩
          obtain ⟨x14, H14⟩ : ∃ x, Hid (x = (sched2 b k).getD (k + 14) 0) := ⟨_, rfl⟩
          have hl := len_sched2 b k
          have hc : ∀ wx, SpInv w b (sched2 b k) wx → wx.cell? ⟨w.heap.size + 1 + 1, k, none⟩ = some (.int .u32 (x0.toNat : Int)) ∧ wx.cell? ⟨w.heap.size + 1 + 1, k + 1, none⟩ = some (.int .u32 (x1.toNat : Int)) ∧
              wx.cell? ⟨w.heap.size + 1 + 1, k + 9, none⟩ = some (.int .u32 (x9.toNat : Int)) ∧ wx.cell? ⟨w.heap.size + 1 + 1, k + 14, none⟩ = some (.int .u32 (x14.toNat : Int)) ∧ 
              (∃ o, wx.cell? ⟨w.heap.size + 1 + 1, k + 16, none⟩ = some o) ∧ wx.frozen? ⟨w.heap.size + 1 + 1, k + 16, none⟩ = false := by
            intro wx hx
            rw [H0.out, H1.out, H9.out, H14.out]
            exact ⟨hx.at _ (by omega), hx.at _ (by omega), hx.at _ (by omega), hx.at _ (by omega), ⟨_, hx.at _ (by omega)⟩, hx.wds.frozen _⟩
          have HC : Hid (∀ wx, SpInv w b (sched2 b k) wx → wx.cell? ⟨w.heap.size + 1 + 1, k, none⟩ = some (.int .u32 (x0.toNat : Int)) ∧ wx.cell? ⟨w.heap.size + 1 + 1, k + 1, none⟩ = some (.int .u32 (x1.toNat : Int)) ∧
              wx.cell? ⟨w.heap.size + 1 + 1, k + 9, none⟩ = some (.int .u32 (x9.toNat : Int)) ∧ wx.cell? ⟨w.heap.size + 1 + 1, k + 14, none⟩ = some (.int .u32 (x14.toNat : Int)) ∧ 
              (∃ o, wx.cell? ⟨w.heap.size + 1 + 1, k + 16, none⟩ = some o) ∧ wx.frozen? ⟨w.heap.size + 1 + 1, k + 16, none⟩ = false) := hc
          clear hc hl
          obtain ⟨c0, c1, c9, c14, ⟨o, cT⟩, fT⟩ := HC.out wr hI
          go_wp2
          go_quiet ((go_at_call 55; exact Calls.quiet_of_same (turned_any _ _ _ (by omega) (by omega))))
          have hI2 := hI.drewN nq
          clear hI c0 c1 c9 c14 cT fT
          generalize wr.drewN nq = wq at *
          obtain ⟨c0, c1, c9, c14, ⟨o, cT⟩, fT⟩ := HC.out wq hI2
          go_wp2
          go_quiet ((go_at_call 55; exact Calls.quiet_of_same (turned_any _ _ _ (by omega) (by omega))))
          have hI := hI2.drewN nq
          clear hI2 c0 c1 c9 c14 cT fT
          generalize wq.drewN nq = wp at *
          obtain ⟨c0, c1, c9, c14, ⟨o, cT⟩, fT⟩ := HC.out wp hI
          go_wp2
          go_region
          go_wp2
          go_roundw
          case rel =>
            refine ⟨k + 1, by omega, by go_num, ?_⟩
            have := hI.store (k + 16) (x0 + sig0 x1 + x9 + sig1 x14)
            rw [← u32_add4, ← sig0_eq, ← sig1_eq] at this
            rw [sched2, ← H0.out, ← H1.out, ← H9.out, ← H14.out]
            exact this
          case measure => simp [intOf]; omega
        · have hk48 : k = 48 := by omega
          subst hk48
          have hz : (Tryd.prog.info? 74).map (·.size) = some (cw (sched2 b 48)).length := by rw [cw_len, len_sched2]; exact Tryd.info74
          have HL : Hid ((cw (sched2 b 48)).length = (cw (List.replicate 64 (0 : BitVec 32))).length) := by rw [cw_len, cw_len, len_sched2]; rfl
          have HZ : Hid ((Tryd.prog.info? 74).map (·.size) = some (cw (sched2 b 48)).length) := hz
          clear hz
          go_wp2_with (first
            | (refine wpList_load_mid rfl 74 _ rfl (w.heap.size + 1 + 1) 0 rfl (cw (sched2 b 48)) _ hI.wds.range Tryd.underlying74 rfl HZ.out ?_)
            | (refine wpList_store_mid rfl 74 _ _ rfl (w.heap.size + 1) 0 (cw (sched2 b 48)).toArray rfl rfl (hI.res.there 0 _ (by simp [HL.out])) (by simpa using HZ.out) (all_oneCell_toArray (cw_one _)) ?_))
          have hB := hI.res.whole (cw (sched2 b 48)) HL.out
          refine bodyPost_ret (v := .agg (cw (sched2 b 48)).toArray) (results_cell_row (by rfl) _ _ (w.heap.size + 1) 74 _ (0, 0) _ rfl hB Tryd.underlying74 rfl (by simpa using HZ.out)) rfl ⟨rfl, Below.setCells _ (by omega) _ _ _ hI.bel⟩
end Go.Proofs.YtmkjcgjbhibnpaaDoor
/- The walk of sha.mix: the eight words behind one block more. -/
namespace Go.Proofs.YtmkjcgjbhibnpaaDoor
open Go.RowKit
set_option maxRecDepth 100000
theorem Tryd.info78 : (Tryd.prog.info? 78).map (·.size) = some 64 := by kernel_rfl
theorem Tryd.info62 : (Tryd.prog.info? 62).map (·.size) = some 8 := by kernel_rfl
theorem built8 (na nb nc nd ne nf ng nh : Int) : Tryd.prog.built 62 [(0, Value.int .u32 na), (1, Value.int .u32 nb), (2, Value.int .u32 nc), (3, Value.int .u32 nd), (4, Value.int .u32 ne), (5, Value.int .u32 nf), (6, Value.int .u32 ng), (7, Value.int .u32 nh)] = some #[Value.int .u32 na, Value.int .u32 nb, Value.int .u32 nc, Value.int .u32 nd, Value.int .u32 ne, Value.int .u32 nf, Value.int .u32 ng, Value.int .u32 nh] := by kernel_rfl
/-- the variable of the rounds' words holds them -/
def KOk (w : World) : Prop := ∀ j, j < 64 → w.cell? ⟨0, j, none⟩ = some (.int .u32 ((kw.getD j 0).toNat : Int))
theorem KOk.lt {w : World} (h : KOk w) : 0 < w.heap.size := block_lt_of_cell (h 0 (by omega))
theorem KOk.below {w w' : World} {B : Nat} (h : KOk w) (hb : Below B w w') (hB : 0 < B) : KOk w' := fun j hj => by rw [hb.cell (p := ⟨0, j, none⟩) hB]; exact h j hj
/-- what the rounds of mix find in memory: the eight words, the result, the block's words -/
structure MixInv (w : World) (s : St) (ws : List (BitVec 32)) (g : Nat) (wr : World) : Prop where
  wds : Blk wr w.heap.size (cw s.l) 62
  res : Blk wr (w.heap.size + 1 + 1) (cw z8) 62
  sch : Blk wr g (cw ws) 74
  kok : KOk wr
  bel : Below w.heap.size w wr
theorem MixInv.drewN {w wr : World} {s : St} {ws : List (BitVec 32)} {g : Nat} (h : MixInv w s ws g wr) (n : Nat) : MixInv w s ws g (wr.drewN n) :=
  ⟨h.wds, h.res, h.sch, h.kok, ⟨h.bel.os, h.bel.tape, h.bel.output, h.bel.size, h.bel.block⟩⟩
theorem MixInv.words {w wr : World} {s : St} {ws : List (BitVec 32)} {g : Nat} (h : MixInv w s ws g wr) :
    wr.cell? ⟨w.heap.size, 0, none⟩ = some (.int .u32 (s.a.toNat : Int)) ∧ wr.cell? ⟨w.heap.size, 1, none⟩ = some (.int .u32 (s.b.toNat : Int)) ∧
    wr.cell? ⟨w.heap.size, 2, none⟩ = some (.int .u32 (s.c.toNat : Int)) ∧ wr.cell? ⟨w.heap.size, 3, none⟩ = some (.int .u32 (s.d.toNat : Int)) ∧
    wr.cell? ⟨w.heap.size, 4, none⟩ = some (.int .u32 (s.e.toNat : Int)) ∧ wr.cell? ⟨w.heap.size, 5, none⟩ = some (.int .u32 (s.f.toNat : Int)) ∧
    wr.cell? ⟨w.heap.size, 6, none⟩ = some (.int .u32 (s.g.toNat : Int)) ∧ wr.cell? ⟨w.heap.size, 7, none⟩ = some (.int .u32 (s.h.toNat : Int)) := by
  simp only [h.wds.cell]
  exact ⟨rfl, rfl, rfl, rfl, rfl, rfl, rfl, rfl⟩
theorem MixInv.at {w wr : World} {s : St} {ws : List (BitVec 32)} {g : Nat} (h : MixInv w s ws g wr) (j : Nat) (hj : j < ws.length) : wr.cell? ⟨g, j, none⟩ = some (.int .u32 ((ws.getD j 0).toNat : Int)) := by
  rw [h.sch.cell, cw_get ws j hj]
theorem rounds_succ' (ws : List (BitVec 32)) (s : St) (k : Nat) : rounds ws s (k + 1) = rnd (rounds ws s k) (kw.getD k 0) (ws.getD k 0) := rfl
theorem MixInv.start {w w1 : World} {s : St} {ws : List (BitVec 32)} {X : Obj} (hK : KOk w) (hl : ws.length = 64)
    (h : Below (w.heap.size + 1 + 1 + 1) (((w.alloc (.cells (cw s.l).toArray 62)).alloc X).alloc (.cells (cw z8).toArray 62)) w1) :
    MixInv w s ws w1.heap.size ((w1.alloc (.cells (cw z64).toArray 74)).setCells w1.heap.size 0 (cw ws)) := by
  have h1 := h.size
  simp at h1
  have hk := hK.lt
  have b0 : Below w.heap.size w (((w.alloc (.cells (cw s.l).toArray 62)).alloc X).alloc (.cells (cw z8).toArray 62)) :=
    (((Below.refl _ _).alloc (Nat.le_refl _) _).alloc (by simp) _).alloc (by simp; omega) _
  have b1 : Below w.heap.size w w1 := b0.trans (h.mono (by omega))
  have b2 : Below w.heap.size w ((w1.alloc (.cells (cw z64).toArray 74)).setCells w1.heap.size 0 (cw ws)) := Below.setCells _ (by omega) _ _ _ (b1.alloc (by omega) _)
  refine ⟨?_, ?_, ?_, hK.below b2 hk, b2⟩
  · exact Blk.others _ _ _ _ ((Blk.below (((Blk.new w (cw s.l) _).alloc _).alloc _) h (by omega)).alloc _) (by omega)
  · exact Blk.others _ _ _ _ ((Blk.below (Blk.new_at (by simp) (cw z8) _) h (by omega)).alloc _) (by omega)
  · exact (Blk.new w1 _ _).whole _ (by simp [cw_len, hl, len_z64])
set_option maxHeartbeats 1000000 in
theorem mix_any (s : St) (b : List (BitVec 8)) (hb : b.length = 64) (w : World) (hK : KOk w) :
    Calls Tryd.prog 51 #[.agg (cw s.l).toArray, .agg (cb b).toArray] w fun e w' => e = .returned (.agg (cw (compress s b).l).toArray) ∧ Below w.heap.size w w' := by
  have HK : Hid (KOk w) := hK
  clear hK
  obtain ⟨r, HR⟩ : ∃ r, Hid (compress s b = r) := ⟨_, rfl⟩
  rw [HR.out]
  go_enter Tryd.func51, Tryd.ntmps51
  have HZ : Hid ((Tryd.prog.info? 78).map (·.size) = some (cb b).length) := by rw [cb_len, hb]; exact Tryd.info78
  have HY : Hid ((Tryd.prog.info? 74).map (·.size) = some (cw (sched2 b 48)).length) := by rw [cw_len, len_sched2]; exact Tryd.info74
  have HN : Hid (b.length = 64) := hb
  clear hb
  set_option maxRecDepth 100000 in
  go_wp2_with (first
    | (refine wpList_load_mid rfl 78 _ rfl _ 0 rfl (cb b) _ ?_ Tryd.underlying78 rfl HZ.out ?_; exact (Blk.alloc (Blk.new_at (by simp) _ _) _).range)
    | (go_at_call 54; refine (spread_any b HN.out _).mono ?_; rintro e w1 ⟨rfl, hw1⟩)
    | (refine wpList_store_mid rfl 74 _ _ rfl _ 0 (cw (sched2 b 48)).toArray rfl rfl ?_ (by simpa using HY.out) (all_oneCell_toArray (cw_one _)) ?_; exact Blk.there (Blk.new_at rfl (cw z64) _) _ _ (by simp [cw_len, len_sched2, len_z64])))
  have h2 := hw1.mono (B' := w.heap.size + 1 + 1 + 1) (by simp)
  clear hw1
  generalize h0 : Obj.cells _ 74 = o64
  set_option maxRecDepth 100000 in
  have ho : o64 = Obj.cells (cw z64).toArray 74 := h0.symm
  clear h0
  subst ho
  set_option maxRecDepth 100000 in
  have hI := MixInv.start (ws := sched2 b 48) HK.out (len_sched2 b 48) h2
  clear h2
  generalize World.setCells _ _ _ _ = wq at *
  have HL : Hid ((sched2 b 48).length = 64) := len_sched2 b 48
  clear HY
  generalize hws : sched2 b 48 = ws at *
  have HW : Hid (sched2 b 48 = ws) := hws
  clear hws
  generalize w1.heap.size = g at *
  simp only [Act.put]
  as_aux_lemma =>
    obtain ⟨c0, c1, c2, c3, c4, c5, c6, c7⟩ := hI.words
    go_quiet (fail)
    have hJ := hI.drewN nq
    clear c0 c1 c2 c3 c4 c5 c6 c7 hI
    generalize wq.drewN nq = wp at *
    obtain ⟨c0, c1, c2, c3, c4, c5, c6, c7⟩ := hJ.words
    go_wp2
    go_quiet (fail)
    have hI := hJ.drewN nq
    clear c0 c1 c2 c3 c4 c5 c6 c7 hJ
    generalize wp.drewN nq = wq at *
    go_wp2
    go_loopw [6, 7, 8, 9, 10, 11, 12, 13, 35] (fun v6 v7 v8 v9 v10 v11 v12 v13 i wr => ∃ k : Nat, k ≤ 64 ∧ i = .int .i64 k ∧
        v6 = .int .u32 ((rounds ws s k).a.toNat : Int) ∧ v7 = .int .u32 ((rounds ws s k).b.toNat : Int) ∧ v8 = .int .u32 ((rounds ws s k).c.toNat : Int) ∧ v9 = .int .u32 ((rounds ws s k).d.toNat : Int) ∧
        v10 = .int .u32 ((rounds ws s k).e.toNat : Int) ∧ v11 = .int .u32 ((rounds ws s k).f.toNat : Int) ∧ v12 = .int .u32 ((rounds ws s k).g.toNat : Int) ∧ v13 = .int .u32 ((rounds ws s k).h.toNat : Int) ∧ MixInv w s ws g wr)
      (fun _ _ _ _ _ _ _ _ i _ => 64 - (intOf i).toNat)
    case atStart => exact ⟨0, by omega, rfl, rfl, rfl, rfl, rfl, rfl, rfl, rfl, rfl, hI⟩
    case round =>
      clear hI
      obtain ⟨k, hk, rfl, rfl, rfl, rfl, rfl, rfl, rfl, rfl, rfl, hI⟩ := hrel
      by_cases hlt : k < 64
      · obtain ⟨x, y, cx, cy, HS⟩ : ∃ x y : BitVec 32, wr.cell? ⟨g, k, none⟩ = some (.int .u32 (x.toNat : Int)) ∧ wr.cell? ⟨0, k, none⟩ = some (.int .u32 (y.toNat : Int)) ∧ Hid (rounds ws s (k + 1) = rnd (rounds ws s k) y x) :=
          ⟨_, _, hI.at k (by have := HL.out; omega), hI.kok k hlt, rounds_succ' ws s k⟩
        clear HL HN HW HR
        generalize rounds ws s k = q at *
        obtain ⟨ra, rb, rc, rd, re, rf, rg, rh⟩ := q
        dsimp only at *
        go_wp2
        go_quiet ((go_at_call 55; exact Calls.quiet_of_same (turned_any _ _ _ (by omega) (by omega))))
        go_wp2_with (go_at_call 55; refine (turned_any _ _ _ (by omega) (by omega)).mono ?_; rintro e w' ⟨rfl, rfl⟩)
        go_roundw
        case rel =>
          refine ⟨k + 1, by omega, by go_num, ?_, ?_, ?_, ?_, ?_, ?_, ?_, ?_, hI.drewN nq⟩
          all_goals rw [HS.out]
          · rw [big1_eq, cho_own, big0_eq, maj_eq, sum_a]; rfl
          · rfl
          · rfl
          · rfl
          · rw [big1_eq, cho_own, sum_e]; rfl
          · rfl
          · rfl
          · rfl
        case measure => simp [intOf]; omega
      · have hk64 : k = 64 := by omega
        subst hk64
        obtain ⟨c0, c1, c2, c3, c4, c5, c6, c7⟩ := hI.words
        have HC : Hid (r = s.plus (rounds ws s 64)) := by have := HR.out; rw [compress_eq, HW.out] at this; exact this.symm
        clear HW HR
        generalize rounds ws s 64 = q at *
        as_aux_lemma =>
          go_wp2_with (first
            | (refine wpList_build8 rfl 62 _ _ _ _ _ _ _ _ rfl _ _ _ _ _ _ _ _ rfl rfl rfl rfl rfl rfl rfl rfl (built8 _ _ _ _ _ _ _ _) ?_)
            | (refine wpList_store8 rfl 62 _ _ rfl _ _ _ _ _ _ _ _ _ rfl rfl (hI.res.there 0 8 (by simp [cw_len, len_z8])) Tryd.info62 ?_))
          have hB := hI.res.whole [Value.int .u32 (((s.a.toNat : Int) + (q.a.toNat : Int)) % 4294967296), Value.int .u32 (((s.b.toNat : Int) + (q.b.toNat : Int)) % 4294967296), Value.int .u32 (((s.c.toNat : Int) + (q.c.toNat : Int)) % 4294967296), Value.int .u32 (((s.d.toNat : Int) + (q.d.toNat : Int)) % 4294967296), Value.int .u32 (((s.e.toNat : Int) + (q.e.toNat : Int)) % 4294967296), Value.int .u32 (((s.f.toNat : Int) + (q.f.toNat : Int)) % 4294967296), Value.int .u32 (((s.g.toNat : Int) + (q.g.toNat : Int)) % 4294967296), Value.int .u32 (((s.h.toNat : Int) + (q.h.toNat : Int)) % 4294967296)] (by rw [cw_len, len_z8]; rfl)
          refine bodyPost_ret (v := .agg #[Value.int .u32 (((s.a.toNat : Int) + (q.a.toNat : Int)) % 4294967296), Value.int .u32 (((s.b.toNat : Int) + (q.b.toNat : Int)) % 4294967296), Value.int .u32 (((s.c.toNat : Int) + (q.c.toNat : Int)) % 4294967296), Value.int .u32 (((s.d.toNat : Int) + (q.d.toNat : Int)) % 4294967296), Value.int .u32 (((s.e.toNat : Int) + (q.e.toNat : Int)) % 4294967296), Value.int .u32 (((s.f.toNat : Int) + (q.f.toNat : Int)) % 4294967296), Value.int .u32 (((s.g.toNat : Int) + (q.g.toNat : Int)) % 4294967296), Value.int .u32 (((s.h.toNat : Int) + (q.h.toNat : Int)) % 4294967296)]) (results_cell_row (by rfl) _ _ (w.heap.size + 1 + 1) 62 _ (0, 0) _ rfl hB Tryd.underlying62 rfl Tryd.info62) rfl ⟨?_, Below.setCells _ (by omega) _ _ _ hI.bel⟩
          rw [HC.out, ← plus_cells]
end Go.Proofs.YtmkjcgjbhibnpaaDoor
/- What a Hash in memory stands for: the text that was written to it; and what one more piece makes of it. Plain mathematics and memory; no program is named here. -/
namespace Go.Proofs.YtmkjcgjbhibnpaaDoor
open Go.RowKit
set_option maxRecDepth 100000

def blocks : Nat → St → List (BitVec 8) → St
  | 0, s, _ => s
  | k + 1, s, m => blocks k (compress s (m.take 64)) (m.drop 64)
theorem blocks_append : ∀ (k : Nat) (s : St) (m x : List (BitVec 8)), 64 * k ≤ m.length → blocks k s (m ++ x) = blocks k s m
  | 0, _, _, _, _ => rfl
  | k + 1, s, m, x, h => by
    simp only [blocks]
    rw [List.take_append_of_le_length (by omega), List.drop_append_of_le_length (by omega)]
    exact blocks_append k _ _ _ (by simp; omega)
theorem blocks_last : ∀ (k : Nat) (s : St) (m : List (BitVec 8)), blocks (k + 1) s m = compress (blocks k s m) ((m.drop (64 * k)).take 64)
  | 0, s, m => by simp [blocks]
  | k + 1, s, m => by
    rw [blocks, blocks_last k, blocks, List.drop_drop]
    congr 3; omega

/-- the cells of a Hash: the eight words, the block that waits, how many bytes there were -/
def hc (s : St) (blk : List (BitVec 8)) (n : Nat) : List Value := cw s.l ++ (cb blk ++ [Value.int .u64 (n : Int)])
theorem len_l (s : St) : (cw s.l).length = 8 := rfl
theorem len_hc (s : St) (blk : List (BitVec 8)) (n : Nat) (h : blk.length = 64) : (hc s blk n).length = 73 := by simp [hc, len_l, cb_len, h]
theorem hc_len (s : St) (blk : List (BitVec 8)) (n : Nat) (h : blk.length = 64) : (hc s blk n)[72]? = some (.int .u64 (n : Int)) := by
  rw [hc, List.getElem?_append_right (by rw [len_l]; omega), List.getElem?_append_right (by rw [cb_len, len_l, h]; omega)]
  simp [cb_len, len_l, h]
theorem hc_setn (s : St) (blk : List (BitVec 8)) (n k : Nat) (h : blk.length = 64) : (hc s blk n).set 72 (.int .u64 (k : Int)) = hc s blk k := by
  rw [hc, List.set_append_right _ _ (by rw [len_l]; omega), List.set_append_right _ _ (by rw [cb_len, len_l, h]; omega)]
  simp [cb_len, len_l, h, hc]
theorem hc_words (s t : St) (blk : List (BitVec 8)) (n : Nat) : (hc s blk n).take 0 ++ cw t.l ++ (hc s blk n).drop (0 + (cw t.l).length) = hc t blk n := by
  rw [len_l, hc, List.drop_append_of_le_length (by rw [len_l]; omega)]
  simp [hc, cw, St.l]
theorem hc_block (s : St) (blk y : List (BitVec 8)) (n r : Nat) (h : blk.length = 64) (hy : r + y.length ≤ 64) :
    (hc s blk n).take (8 + r) ++ cb y ++ (hc s blk n).drop (8 + r + (cb y).length) = hc s (blk.take r ++ y ++ blk.drop (r + y.length)) n := by
  have h1 : (hc s blk n).take (8 + r) = cw s.l ++ cb (blk.take r) := by
    rw [hc, List.take_append, len_l, List.take_of_length_le (by rw [len_l]; omega), show 8 + r - 8 = r by omega, List.take_append_of_le_length (by rw [cb_len]; omega)]
    simp [cb, List.map_take]
  have h2 : (hc s blk n).drop (8 + r + (cb y).length) = cb (blk.drop (r + y.length)) ++ [Value.int .u64 (n : Int)] := by
    rw [hc, cb_len, List.drop_append, len_l, List.drop_of_length_le (by rw [len_l]; omega), show 8 + r + y.length - 8 = r + y.length by omega, List.drop_append_of_le_length (by rw [cb_len]; omega)]
    simp [cb, List.map_drop]
  rw [h1, h2]
  simp [hc, cb]
theorem hc_block_at (s : St) (blk : List (BitVec 8)) (n : Nat) (h : blk.length = 64) (j : Nat) (v : Value) (hv : (cb blk)[j]? = some v) : (hc s blk n)[8 + j]? = some v := by
  have hj : j < blk.length := by have := (List.getElem?_eq_some_iff.1 hv).1; rwa [cb_len] at this
  rw [hc, List.getElem?_append_right (by rw [len_l]; omega), len_l, show 8 + j - 8 = j by omega, List.getElem?_append_left (by rw [cb_len]; omega)]
  exact hv
theorem hc_words_at (s : St) (blk : List (BitVec 8)) (n : Nat) (j : Nat) (v : Value) (hv : (cw s.l)[j]? = some v) : (hc s blk n)[0 + j]? = some v := by
  have hj : j < (cw s.l).length := (List.getElem?_eq_some_iff.1 hv).1
  rw [hc, List.getElem?_append_left (by omega), Nat.zero_add]; exact hv

/-- what the state (s, blk) says of the text m -/
structure Says (s : St) (blk m : List (BitVec 8)) : Prop where
  len : blk.length = 64
  wds : s = blocks (m.length / 64) st0 m
  blk : blk.take (m.length % 64) = m.drop (64 * (m.length / 64))
theorem Says.more {s : St} {blk m y : List (BitVec 8)} (h : Says s blk m) (hy : m.length % 64 + y.length < 64) :
    Says s (blk.take (m.length % 64) ++ y ++ blk.drop (m.length % 64 + y.length)) (m ++ y) := by
  have hl := h.len
  have e1 : (m ++ y).length / 64 = m.length / 64 := by simp; omega
  have e2 : (m ++ y).length % 64 = m.length % 64 + y.length := by simp; omega
  refine ⟨by simp [hl]; omega, ?_, ?_⟩
  · rw [e1, blocks_append _ _ _ _ (by omega)]; exact h.wds
  · rw [e1, e2, List.drop_append_of_le_length (by omega), ← h.blk, List.take_append_of_le_length (by simp [hl]; omega), List.take_of_length_le (by simp [hl]; omega)]
theorem Says.full {s : St} {blk m y : List (BitVec 8)} (h : Says s blk m) (hy : m.length % 64 + y.length = 64) :
    Says (compress s (blk.take (m.length % 64) ++ y ++ blk.drop (m.length % 64 + y.length))) (blk.take (m.length % 64) ++ y ++ blk.drop (m.length % 64 + y.length)) (m ++ y) := by
  have hl := h.len
  have e1 : (m ++ y).length / 64 = m.length / 64 + 1 := by simp; omega
  have e2 : (m ++ y).length % 64 = 0 := by simp; omega
  have e3 : blk.drop (m.length % 64 + y.length) = [] := List.drop_of_length_le (by omega)
  have e4 : (m ++ y).drop (64 * (m.length / 64)) = m.drop (64 * (m.length / 64)) ++ y := List.drop_append_of_le_length (by omega)
  refine ⟨by simp [hl]; omega, ?_, ?_⟩
  · rw [e1, blocks_last, blocks_append _ _ _ _ (by omega), ← h.wds, e4, h.blk, e3, List.append_nil, List.take_of_length_le (by simp; omega)]
  · rw [e1, e2, List.take_zero, List.drop_of_length_le (by simp; omega)]

/-- the world w' is w but for block g and new blocks -/
structure Only (g : Nat) (w w' : World) : Prop where
  os : w'.os = w.os
  tape : w'.tape = w.tape
  output : w'.output = w.output
  size : w.heap.size ≤ w'.heap.size
  block : ∀ k, k ≠ g → k < w.heap.size → w'.heap[k]? = w.heap[k]?
theorem Only.refl (g : Nat) (w : World) : Only g w w := ⟨rfl, rfl, rfl, Nat.le_refl _, fun _ _ _ => rfl⟩
theorem Only.trans {g : Nat} {a b c : World} (h : Only g a b) (k : Only g b c) : Only g a c :=
  ⟨k.os.trans h.os, k.tape.trans h.tape, k.output.trans h.output, Nat.le_trans h.size k.size, fun i hi hl => (k.block i hi (Nat.lt_of_lt_of_le hl h.size)).trans (h.block i hi hl)⟩
theorem Only.drewN {g : Nat} {a b : World} (h : Only g a b) (n : Nat) : Only g a (b.drewN n) := ⟨h.os, h.tape, h.output, h.size, h.block⟩
theorem Only.drew {g : Nat} {a b : World} (h : Only g a b) : Only g a b.drew := ⟨h.os, h.tape, h.output, h.size, h.block⟩
theorem Only.setCell {g : Nat} {a b : World} (h : Only g a b) (i : Nat) (v : Value) : Only g a (b.setCell ⟨g, i, none⟩ v) :=
  h.trans ⟨rfl, rfl, rfl, by simp [World.setCell], fun k hk _ => Below.heap_setCell _ _ _ _ hk⟩
theorem Only.setCells {g : Nat} {a : World} : ∀ (vs : List Value) (o : Nat) (w : World), Only g a w → Only g a (w.setCells g o vs)
  | [], _, _, h => h
  | v :: r, o, w, h => by rw [World.setCells]; exact Only.setCells r (o + 1) _ (h.setCell o v)
theorem Only.of_below {g : Nat} {w w' : World} (h : Below w.heap.size w w') : Only g w w' := ⟨h.os, h.tape, h.output, h.size, fun k _ hk => h.block k hk⟩
theorem Only.below {g : Nat} {w w' : World} (h : Only g w w') {B : Nat} (hg : B ≤ g) (hB : B ≤ w.heap.size) : Below B w w' := ⟨h.os, h.tape, h.output, h.size, fun k hk => h.block k (by omega) (by omega)⟩
theorem Blk.only {w w' : World} {g g' : Nat} {cs : List Value} {t : TypeId} (h : Blk w g cs t) (ho : Only g' w w') (hne : g ≠ g') : Blk w' g cs t := by
  have := h.lt
  unfold Blk at *
  rw [ho.block g hne this]; exact h
theorem Only.cell {g : Nat} {w w' : World} (h : Only g w w') {p : Addr} (hp : p.block ≠ g) {v : Value} (hv : w.cell? p = some v) : w'.cell? p = some v := by
  rw [World.cell?_of_block (w := w) (h.block p.block hp (block_lt_of_cell hv))]; exact hv

/-- the slice v reads as the bytes bs, in another block than g -/
def Bytes (w : World) (g : Nat) (v : Value) (bs : List (BitVec 8)) : Prop :=
  ∃ ad cap, v = .slice ad bs.length cap ∧ bs.length ≤ cap ∧ (0 < bs.length → ∃ b off, ad = some ⟨b, off, none⟩ ∧ b ≠ g ∧ ∀ j, j < bs.length → w.cell? ⟨b, off + j, none⟩ = some (.int .u8 ((bs.getD j 0).toNat : Int)))
theorem Bytes.only {w w' : World} {g : Nat} {v : Value} {bs : List (BitVec 8)} (h : Bytes w g v bs) (ho : Only g w w') : Bytes w' g v bs := by
  obtain ⟨ad, cap, hv, hc, hx⟩ := h
  refine ⟨ad, cap, hv, hc, fun hp => ?_⟩
  obtain ⟨b, off, h1, h2, h3⟩ := hx hp
  exact ⟨b, off, h1, h2, fun j hj => ho.cell h2 (h3 j hj)⟩
theorem Bytes.below {w w' : World} {g : Nat} {v : Value} {bs : List (BitVec 8)} (h : Bytes w g v bs) (hb : Below w.heap.size w w') : Bytes w' g v bs := h.only (Only.of_below hb)
/-- the Hash at g stands for the text m -/
def HashIs (t : TypeId) (w : World) (g : Nat) (m : List (BitVec 8)) : Prop := ∃ s blk, Blk w g (hc s blk m.length) t ∧ Says s blk m
theorem HashIs.below {t : TypeId} {w w' : World} {g B : Nat} {m : List (BitVec 8)} (h : HashIs t w g m) (hb : Below B w w') (hg : g < B) : HashIs t w' g m := by
  obtain ⟨s, blk, h1, h2⟩ := h
  exact ⟨s, blk, h1.below hb hg, h2⟩
theorem HashIs.lt {t : TypeId} {w : World} {g : Nat} {m : List (BitVec 8)} (h : HashIs t w g m) : g < w.heap.size := by
  obtain ⟨s, blk, h1, h2⟩ := h
  exact h1.lt
theorem step_copy_cells {P : Program} {ops : Array Oper} {o : Oper} {a : Act} {w : World} {K : Act → World → Prop} {Q : Exit → Act → World → Prop} {E : Prop} (hgd : o.guard = none) (d s : Operand) (dT sT : TypeId)
    (ho : o.op = .call { callee := .builtin .copy, args := #[d, s], argTypes := #[dT, sT] }) (elem : TypeId) (hu : P.underlying dT = some (.slice elem)) (hsz : (P.info? elem).map (·.size) = some 1)
    (b off dLen dCap : Nat) (ad : Addr) (sLen sCap : Nat) (hd : a.eval d = .slice (some ⟨b, off, none⟩) dLen dCap) (hs : a.eval s = .slice (some ad) sLen sCap) (cs : List Value) (hn : cs.length = Nat.min sLen dLen)
    (hsrc : ∀ j v, cs[j]? = some v → w.cell? (ad.add j) = some v) (ht : w.there b off cs.length) (h1 : ∀ v ∈ cs, v.oneCell' = true)
    (h : K (a.put o.dst (goInt cs.length)) (w.setCells b off cs)) : if Region.wanted o (yielded ops a.tmps) = true then Oper.wp P o a w K Q else E := by
  have hw : Region.wanted o (yielded ops a.tmps) = true := by simp [Region.wanted, hgd]
  rw [if_pos hw]
  have hrun := run_copy_cells (P := P) w dT sT o.type elem b off dLen dCap ad sLen sCap cs hu hsz hn hsrc (fun j hj => (ht j hj).1) (fun j hj => (ht j hj).2) h1
  unfold Oper.wp
  simp [execOp, ho, resolve, invoke, builtin, hd, hs, hrun, Result.andThen]
  exact h
theorem wpStill_load {P : Program} {ops : Array Oper} {w : World} {Q : Act → Prop} {o : Oper} {rest : List Oper} {a : Act} (hgd : o.guard = none) (ty : TypeId) (x : Operand) (ho : o.op = .load ty x)
    (b of : Nat) (hx : a.eval x = .pointer (some ⟨b, of, none⟩)) (cs : List Value) (d : TypeDesc) (hc : w.rangeAt b of cs)
    (hu : P.underlying ty = some d) (hd : d.isRow = true) (hi : (P.info? ty).map (·.size) = some cs.length)
    (h : wpStill P ops w Q rest (a.put o.dst (.agg cs.toArray))) : wpStill P ops w Q (o :: rest) a := by
  have hw : Region.wanted o (yielded ops a.tmps) = true := by simp [Region.wanted, hgd]
  rw [wpStill, if_pos hw]
  unfold Oper.still execOp
  simp only [ho, hx, Instr.loadAt, Instr.sureAddr, Sem.run_bind, Sem.run_pure, Result.andThen_ok, run_loadVar_mid w b of ty cs d hc hu hd hi]
  exact ⟨rfl, h⟩
theorem hc_range_words {t : TypeId} {w : World} {g : Nat} {s : St} {blk : List (BitVec 8)} {n : Nat} (h : Blk w g (hc s blk n) t) : w.rangeAt g 0 (cw s.l) := fun j v hv => by rw [h.cell, hc_words_at s blk n j v hv]
theorem hc_range_block {t : TypeId} {w : World} {g : Nat} {s : St} {blk : List (BitVec 8)} {n : Nat} (h : Blk w g (hc s blk n) t) (hl : blk.length = 64) : w.rangeAt g 8 (cb blk) := fun j v hv => by rw [h.cell, hc_block_at s blk n hl j v hv]
theorem hc_there {t : TypeId} {w : World} {g : Nat} {s : St} {blk : List (BitVec 8)} {n : Nat} (h : Blk w g (hc s blk n) t) (hl : blk.length = 64) : w.there g 0 8 := h.there 0 8 (by rw [len_hc s blk n hl]; omega)
theorem hc_store {t : TypeId} {w : World} {g : Nat} {s : St} {blk : List (BitVec 8)} {n : Nat} (h : Blk w g (hc s blk n) t) (hl : blk.length = 64) (r : St) : Blk (w.setCells g 0 (cw r.l)) g (hc r blk n) t := by
  have := setCells_eq g (cw r.l) 0 w _ t h (by rw [len_hc s blk n hl, len_l]; omega)
  rwa [hc_words] at this
theorem Bytes.drop_eq {w : World} {g b off n cap c : Nat} {rest : List (BitVec 8)} (h : Bytes w g (.slice (some ⟨b, off, none⟩) n cap) rest) (hc : c ≤ n) (hcc : cap = c) : Bytes w g (.slice (some ⟨b, off, none⟩) (n - c) 0) (rest.drop c) := by
  obtain ⟨ad, cap', hv, hcap, hx⟩ := h
  simp only [Value.slice.injEq] at hv
  obtain ⟨rfl, hn, rfl⟩ := hv
  exact ⟨some ⟨b, off, none⟩, 0, by simp [hn], by simp; omega, fun hp => by simp at hp; omega⟩
theorem Bytes.drop_ne {w : World} {g b off n cap c : Nat} {rest : List (BitVec 8)} (h : Bytes w g (.slice (some ⟨b, off, none⟩) n cap) rest) (hc : c ≤ n) : Bytes w g (.slice (some ⟨b, off + c, none⟩) (n - c) (cap - c)) (rest.drop c) := by
  obtain ⟨ad, cap', hv, hcap, hx⟩ := h
  simp only [Value.slice.injEq] at hv
  obtain ⟨rfl, hn, rfl⟩ := hv
  refine ⟨some ⟨b, off + c, none⟩, cap - c, by simp [hn], by simp; omega, fun hp => ?_⟩
  simp at hp
  obtain ⟨b', off', h1, h2, h3⟩ := hx (by omega)
  simp only [Option.some.injEq, Addr.mk.injEq, and_true] at h1
  obtain ⟨rfl, rfl⟩ := h1
  refine ⟨b, off + c, rfl, h2, fun j hj => ?_⟩
  simp at hj
  have := h3 (c + j) (by omega)
  rw [show off + c + j = off + (c + j) by omega, this]
  simp
theorem Bytes.drop_if {w : World} {g b off n cap c : Nat} {rest : List (BitVec 8)} (h : Bytes w g (.slice (some ⟨b, off, none⟩) n cap) rest) (hc : c ≤ n) :
    Bytes w g (.slice (if cap = c then some ⟨b, off, none⟩ else some ⟨b, off + c, none⟩) (n - c) (cap - c)) (rest.drop c) := by
  by_cases hcc : cap = c
  · rw [if_pos hcc]; have := h.drop_eq hc hcc; rwa [show cap - c = 0 by omega]
  · rw [if_neg hcc]; exact h.drop_ne hc
end Go.Proofs.YtmkjcgjbhibnpaaDoor
/- A region that draws its order, whose last operation waits for all others: the others quiet (they may call what makes memory), the last one whatever it is: one walk in the order of the text serves every order. No program is named here. -/
namespace Go.Proofs.YtmkjcgjbhibnpaaDoor
open Go
set_option maxRecDepth 100000
section
variable {P : Program} {md : Region.Mode} {C : World → Prop}
def idle (o : Oper) : Oper := { dst := none, op := .move (.const undef), type := o.type, pos := o.pos, after := o.after, guard := none }
theorem ready_idle (l : List Oper) (o : Oper) (listed : Array Bool) : Region.ready md (l ++ [idle o]).toArray listed = Region.ready md (l ++ [o]).toArray listed := by
  unfold Region.ready
  have hs : (l ++ [idle o]).toArray.size = (l ++ [o]).toArray.size := by simp
  rw [hs]
  apply List.filter_congr
  intro i _
  congr 1
  simp only [List.getElem?_toArray]
  rcases Nat.lt_trichotomy i l.length with h | h | h
  · rw [List.getElem?_append_left h, List.getElem?_append_left h]
  · subst h; simp [idle]
  · rw [List.getElem?_eq_none (by simp; omega), List.getElem?_eq_none (by simp; omega)]
/-- every edge leads back; no guards; the last waits for all -/
def lastB (md : Region.Mode) (l : List Oper) (o : Oper) : Bool :=
  (List.range (l.length + 1)).all (fun i => (((l ++ [o])[i]?).map fun x => x.after.all fun e => !Region.binds md e || decide (e.on < i)).getD true) &&
  (l ++ [o]).all (fun x => x.guard.isNone) &&
  (List.range l.length).all (fun i => (List.range (l.length + 1)).any fun j => decide (i < j) && (((l ++ [o])[j]?).map fun x => x.after.any fun e => Region.binds md e && e.on == i).getD false)
theorem getD_set {listed : Array Bool} {i j : Nat} (d : Bool) (h : j ≠ i) : (listed.setIfInBounds i true).getD j d = listed.getD j d := by
  simp [h.symm]
theorem ready_nonempty {ops : Array Oper} (hb : ∀ i o, ops[i]? = some o → ∀ e ∈ o.after, Region.binds md e = true → e.on < i) (listed : Array Bool) (hsz : listed.size = ops.size) :
    ∀ n, n < ops.size → listed.getD n true = false → Region.ready md ops listed ≠ [] := by
  intro n
  induction n using Nat.strongRecOn with
  | _ n ih =>
    intro hn hu h0
    by_cases hr : n ∈ Region.ready md ops listed
    · rw [h0] at hr; cases hr
    · apply hr
      refine mem_ready.2 ⟨hu, ops[n], by simp [hn], fun e he hbd => ?_⟩
      have hlt := hb n ops[n] (by simp [hn]) e he hbd
      cases hl : listed.getD e.on false with
      | true => rfl
      | false =>
        exact absurd h0 (ih e.on hlt (by omega) (by have : e.on < listed.size := by omega
                                                    simp [this] at hl ⊢; exact hl))
theorem all_listed {l : List Oper} {o : Oper} {listed : Array Bool} (hw : ∀ i, i < l.length → ∃ j x, i < j ∧ j ≤ l.length ∧ (l ++ [o]).toArray[j]? = some x ∧ ∃ e ∈ x.after, Region.binds md e = true ∧ e.on = i)
    (hcl : ∀ j x, (l ++ [o]).toArray[j]? = some x → listed.getD j false = true → ∀ e ∈ x.after, Region.binds md e = true → listed.getD e.on false = true)
    (ho : (l ++ [o]).toArray[l.length]? = some o) (hall : ∀ e ∈ o.after, Region.binds md e = true → listed.getD e.on false = true) :
    ∀ d i, l.length - i = d → i < l.length → listed.getD i false = true := by
  intro d
  induction d using Nat.strongRecOn with
  | _ d ih =>
    intro i hd hi
    obtain ⟨j, x, hij, hjl, hx, e, he, hbd, hon⟩ := hw i hi
    by_cases hjN : j = l.length
    · subst hjN
      have hxo : x = o := Option.some.inj (hx.symm.trans ho)
      subst hxo
      rw [← hon]; exact hall e he hbd
    · have hj := ih (l.length - j) (by omega) j rfl (by omega)
      rw [← hon]; exact hcl j x hx hj e he hbd
theorem wpAny_of_last {l : List Oper} {o : Oper} {Q' : Exit → Act → World → Prop}
    (hb : ∀ i x, (l ++ [o]).toArray[i]? = some x → ∀ e ∈ x.after, Region.binds md e = true → e.on < i) (hg : ∀ x ∈ l ++ [o], x.guard = none) (hw : ∀ i, i < l.length → ∃ j x, i < j ∧ j ≤ l.length ∧ (l ++ [o]).toArray[j]? = some x ∧ ∃ e ∈ x.after, Region.binds md e = true ∧ e.on = i) :
    ∀ (fuel : Nat) (listed : Array Bool) (a : Act) (w : World) (S : List Nat), C w → S.Nodup → S.length = fuel → (∀ i, i ∈ S ↔ (i < (l ++ [o]).length ∧ listed.getD i true = false)) → l.length ∈ S → listed.size = (l ++ [o]).length → (∀ j x, (l ++ [o]).toArray[j]? = some x → listed.getD j false = true → ∀ e ∈ x.after, Region.binds md e = true → listed.getD e.on false = true) →
    wpAnyQ P md (l ++ [idle o]).toArray C (fun a' => ∀ w', C w' → o.wp P a' w' (fun a'' w'' => Q' .normal a'' w'') Q') fuel listed a → wpAny P md (l ++ [o]).toArray Q' fuel listed a w := by
  intro fuel
  induction fuel with
  | zero => intro listed a w S _ _ hl _ hN _ _ _; rw [List.length_eq_zero_iff.1 hl] at hN; cases hN
  | succ fuel ih =>
    intro listed a w S hC hnd hlen hS hN hsz hcl hq
    obtain ⟨_, hq2⟩ := hq
    rw [ready_idle] at hq2
    have hNu := ((hS l.length).1 hN).2
    refine ⟨fun h0 => absurd h0 (ready_nonempty hb listed (by simpa using hsz) l.length (by simp) hNu), fun i hi => ?_⟩
    have hqi := hq2 i hi
    obtain ⟨hiu, oi, hoi, hall⟩ := mem_ready.1 hi
    have hil : i < (l ++ [o]).length := by simpa using (Array.getElem?_eq_some_iff.1 hoi).1
    by_cases hiN : i = l.length
    · subst hiN
      have hoo : oi = o := by simpa using hoi.symm
      subst hoo
      unfold wpOp
      rw [hoi]
      have hwant : Region.wanted oi (yielded (l ++ [oi]).toArray a.tmps) = true := by simp [Region.wanted, hg oi (by simp)]
      simp only [hwant, if_true]
      refine .inl ?_
      have h1 : (l ++ [idle oi]).toArray[l.length]? = some (idle oi) := by simp
      unfold qOp at hqi
      rw [h1] at hqi
      have hw2 : Region.wanted (idle oi) (yielded (l ++ [idle oi]).toArray a.tmps) = true := by simp [Region.wanted, idle]
      simp only [hw2, if_true] at hqi
      obtain ⟨v, _, hk⟩ := hqi
      have hput : a.put (idle oi).dst v = a := rfl
      rw [hput] at hk
      have hnone : Region.ready md (l ++ [oi]).toArray (listed.setIfInBounds l.length true) = [] := by
        cases hr : Region.ready md (l ++ [oi]).toArray (listed.setIfInBounds l.length true) with
        | nil => rfl
        | cons j r =>
          exfalso
          have hj : j ∈ Region.ready md (l ++ [oi]).toArray (listed.setIfInBounds l.length true) := by rw [hr]; simp
          obtain ⟨hju, oj, hoj, _⟩ := mem_ready.1 hj
          have hjl : j < (l ++ [oi]).length := by simpa using (Array.getElem?_eq_some_iff.1 hoj).1
          by_cases hjN : j = l.length
          · subst hjN
            have : l.length < listed.size := by rw [hsz]; simp
            simp [this] at hju
          · rw [getD_set true hjN] at hju
            have := all_listed hw hcl hoi hall (l.length - j) j rfl (by simp at hjl; omega)
            have hjs : j < listed.size := by omega
            simp [hjs] at hju this
            rw [hju] at this; cases this
      have hQ : ∀ w', C w' → oi.wp P a w' (fun a'' w'' => Q' .normal a'' w'') Q' := by
        cases fuel with
        | zero => exact hk.2
        | succ f => exact hk.1 (by rw [ready_idle]; exact hnone)
      refine Oper.wp_mono (fun a' w' hn => ?_) (hQ w hC)
      cases fuel with
      | zero => exact ⟨hnone, hn⟩
      | succ f => exact ⟨fun _ => hn, fun j hj => by rw [hnone] at hj; cases hj⟩
    · have hin : i < l.length := by simp at hil; omega
      have e1 : (l ++ [idle o]).toArray[i]? = (l ++ [o]).toArray[i]? := by simp [List.getElem?_append_left hin]
      have hgi : oi.guard = none := hg oi (by have := List.mem_of_getElem? (by simpa using hoi : (l ++ [o])[i]? = some oi); exact this)
      unfold qOp at hqi
      rw [e1, hoi] at hqi
      unfold wpOp
      rw [hoi]
      have w1 : Region.wanted oi (yielded (l ++ [idle o]).toArray a.tmps) = true := by simp [Region.wanted, hgi]
      have w2 : Region.wanted oi (yielded (l ++ [o]).toArray a.tmps) = true := by simp [Region.wanted, hgi]
      simp only [w1, if_true] at hqi
      simp only [w2, if_true]
      refine .inl (Oper.wp_of_quiet hC (fun a' w' hw' hk => ?_) hqi)
      have hiS : i ∈ S := (hS i).2 ⟨hil, hiu⟩
      refine ih (listed.setIfInBounds i true) a' w' (S.erase i) hw' (hnd.erase _) (by rw [List.length_erase_of_mem hiS]; omega) (fun j => ?_) ((List.mem_erase_of_ne (Ne.symm hiN)).2 hN) (by simpa using hsz) (fun j x hx hlj e he hbd => ?_) hk
      rotate_left
      · by_cases hji : i = j
        · subst hji
          have hxo : x = oi := Option.some.inj (hx.symm.trans hoi)
          subst hxo
          exact getD_set_true (hall e he hbd)
        · rw [getD_set_ne false hji] at hlj
          exact getD_set_true (hcl j x hx hlj e he hbd)
      by_cases hji : j = i
      · subst hji
        have hjs : j < listed.size := by omega
        simp [hnd.not_mem_erase, hjs]
      · rw [List.mem_erase_of_ne hji, hS j, getD_set true hji]
theorem wp_region_last {id : Nat} {Q : Exit → Act → World → Prop} {a : Act} {w : World} (l : List Oper) (o : Oper) (hm : P.follows .mixedOrders = true) (hB : Region.lexB .any (l ++ [idle o]).toArray = true) (hL : lastB .any l o = true)
    (hC : C { w with drawn := w.drawn + 1 }) (h : wpQuiet P (l ++ [idle o]).toArray C (fun a' => ∀ w', C w' → o.wp P a' w' (fun a'' w'' => Q .normal a'' w'') Q) l a) : (Code.region id (l ++ [o]).toArray true).wp P Q a w := by
  simp only [Region.lexB, Bool.and_eq_true] at hB
  simp only [lastB, Bool.and_eq_true] at hL
  obtain ⟨⟨hb, hg⟩, hw⟩ := hL
  have hq : ∀ (k : List Oper) (a : Act), wpQuiet P (l ++ [idle o]).toArray C (fun a' => ∀ w', C w' → o.wp P a' w' (fun a'' w'' => Q .normal a'' w'') Q) k a → wpQuiet P (l ++ [idle o]).toArray C (fun a' => ∀ w', C w' → o.wp P a' w' (fun a'' w'' => Q .normal a'' w'') Q) (k ++ [idle o]) a := by
    intro k
    induction k with
    | nil =>
      intro a h
      have hw2 : Region.wanted (idle o) (yielded (l ++ [idle o]).toArray a.tmps) = true := by simp [Region.wanted, idle]
      simp only [List.nil_append, wpQuiet, hw2, if_true]
      exact ⟨undef, fun w' _ => by unfold Oper.quietAt idle execOp; exact ⟨rfl, rfl⟩, h⟩
    | cons x k ih =>
      intro a h
      simp only [List.cons_append, wpQuiet] at h ⊢
      split
      · rename_i hx; simp only [hx, if_true] at h; exact Oper.quiet_mono (fun a' h' => ih a' h') h
      · rename_i hx; simp only [hx] at h; exact ih _ h
  have := wpAnyQ_lex (C := C) (md := .any) hB.1 (l ++ [idle o]) 0 (Array.replicate (l ++ [idle o]).toArray.size false) a (by simp) (by simpa using hB.2) (hq l a h)
  refine wp_region_any hm ?_
  have hsz : (l ++ [o]).toArray.size = (l ++ [idle o]).length := by simp
  rw [hsz]
  refine wpAny_of_last ?_ ?_ ?_ _ _ _ _ (List.range (l ++ [o]).length) hC List.nodup_range (by simp) (fun i => ?_) (by simp) (by simp) (fun j x _ hlj => ?_) (by simpa using this)
  · intro i x hx e he hbd
    have hi : i < l.length + 1 := by simpa using (Array.getElem?_eq_some_iff.1 hx).1
    have h1 := List.all_eq_true.1 hb i (List.mem_range.2 hi)
    rw [show (l ++ [o])[i]? = some x by simpa using hx] at h1
    simp only [Option.map_some, Option.getD_some] at h1
    have h2 := Array.all_eq_true_iff_forall_mem.1 h1 e he
    simpa [hbd] using h2
  · intro x hx
    have := List.all_eq_true.1 hg x hx
    simpa using this
  · intro i hi
    have h1 := List.all_eq_true.1 hw i (List.mem_range.2 hi)
    obtain ⟨j, hj, h2⟩ := List.any_eq_true.1 h1
    simp only [Bool.and_eq_true, decide_eq_true_eq] at h2
    have hjl := List.mem_range.1 hj
    cases hx : (l ++ [o])[j]? with
    | none => rw [hx] at h2; simp at h2
    | some x =>
      rw [hx] at h2
      simp only [Option.map_some, Option.getD_some] at h2
      obtain ⟨e, he, h3⟩ := Array.any_eq_true'.1 h2.2
      simp only [Bool.and_eq_true, beq_iff_eq] at h3
      exact ⟨j, x, h2.1, by omega, by simpa using hx, e, he, h3.1, h3.2⟩
  · simp only [List.mem_range]
    constructor
    · intro hi; exact ⟨hi, by simp at hi; simp [hi]⟩
    · intro hi; exact hi.1
  · exfalso
    generalize (l ++ [idle o]).length = N at hlj
    rcases Nat.lt_or_ge j N with h | h
    · simp [h] at hlj
    · simp [h] at hlj
theorem wp_region_last_lit {id : Nat} {Q : Exit → Act → World → Prop} {a : Act} {w : World} {L : List Oper} (hne : L ≠ []) (hm : P.follows .mixedOrders = true) (hB : Region.lexB .any (L.dropLast ++ [idle (L.getLast hne)]).toArray = true) (hL : lastB .any L.dropLast (L.getLast hne) = true)
    (hC : C { w with drawn := w.drawn + 1 }) (h : wpQuiet P (L.dropLast ++ [idle (L.getLast hne)]).toArray C (fun a' => ∀ w', C w' → (L.getLast hne).wp P a' w' (fun a'' w'' => Q .normal a'' w'') Q) L.dropLast a) : (Code.region id L.toArray true).wp P Q a w := by
  have := wp_region_last (P := P) (id := id) (Q := Q) L.dropLast (L.getLast hne) hm hB hL hC h
  rwa [List.dropLast_concat_getLast] at this
theorem wpQuiet_val {ops : Array Oper} {Q : Act → Prop} {o : Oper} {rest : List Oper} {a : Act} (hgd : o.guard = none) (v : Value) (hr : ∀ w, C w → (execOp a.eval o).run P w = .ok (.value v) w)
    (h : wpQuiet P ops C Q rest (a.put o.dst v)) : wpQuiet P ops C Q (o :: rest) a := by
  have hw : Region.wanted o (yielded ops a.tmps) = true := by simp [Region.wanted, hgd]
  rw [wpQuiet, if_pos hw]
  refine ⟨v, fun w hC => ?_, h⟩
  unfold Oper.quietAt
  rw [hr w hC]
  exact ⟨rfl, rfl⟩
theorem wpQuiet_load {ops : Array Oper} {Q : Act → Prop} {o : Oper} {rest : List Oper} {a : Act} (hgd : o.guard = none) (ty : TypeId) (x : Operand) (ho : o.op = .load ty x)
    (b of : Nat) (hx : a.eval x = .pointer (some ⟨b, of, none⟩)) (cs : List Value) (d : TypeDesc) (hc : ∀ w, C w → w.rangeAt b of cs)
    (hu : P.underlying ty = some d) (hd : d.isRow = true) (hi : (P.info? ty).map (·.size) = some cs.length)
    (h : wpQuiet P ops C Q rest (a.put o.dst (.agg cs.toArray))) : wpQuiet P ops C Q (o :: rest) a := by
  have hw : Region.wanted o (yielded ops a.tmps) = true := by simp [Region.wanted, hgd]
  rw [wpQuiet, if_pos hw]
  refine ⟨.agg cs.toArray, fun w hC => ?_, h⟩
  unfold Oper.quietAt execOp
  simp only [ho, hx, Instr.loadAt, Instr.sureAddr, Sem.run_bind, Sem.run_pure, Result.andThen_ok, run_loadVar_mid w b of ty cs d (hc w hC) hu hd hi]
  exact ⟨rfl, rfl⟩
theorem wpQuiet_call {ops : Array Oper} {Q : Act → Prop} {o : Oper} {rest : List Oper} {a : Act} (hgd : o.guard = none) (f : FuncId) (args : Array Operand) (ats : Array TypeId) (ho : o.op = .call { callee := .value (.func f), args := args, argTypes := ats })
    (hcf : ∀ xs w, (callFunc f xs).run P w = .ok (.enter f xs) w) (vals : Array Value) (hv : args.map a.eval = vals) (v : Value) (hc : ∀ w, C w → Calls P f vals w fun e w' => e = .returned v ∧ C w')
    (h : wpQuiet P ops C Q rest (a.put o.dst v)) : wpQuiet P ops C Q (o :: rest) a := by
  have hw : Region.wanted o (yielded ops a.tmps) = true := by simp [Region.wanted, hgd]
  rw [wpQuiet, if_pos hw]
  refine ⟨v, fun w hC => ?_, h⟩
  have hrun : (execOp a.eval o).run P w = .ok (.enter f vals) w := by
    obtain ⟨dst, op, type, pos, after, guard⟩ := o
    simp only at ho
    subst ho
    rw [execOp_call_go, hv]
    simp [hcf]
  unfold Oper.quietAt
  rw [hrun]
  exact ⟨rfl, hc w hC⟩
end
end Go.Proofs.YtmkjcgjbhibnpaaDoor
/- The walk of (*sha.Hash).Write: what is written goes behind the text that the Hash stands for. -/
namespace Go.Proofs.YtmkjcgjbhibnpaaDoor
open Go.RowKit
set_option maxRecDepth 100000
theorem Tryd.info5 : (Tryd.prog.info? 5).map (·.size) = some 1 := by kernel_rfl
theorem slice_arr (g L : Nat) (w : World) : (Instr.sliceAt 78 (.pointer (some ⟨g, 8, none⟩)) (some (.int .u64 ((L : Int).tmod 64))) none none).run Tryd.prog w = .ok (.slice (some ⟨g, 8 + L % 64, none⟩) (64 - L % 64) (64 - L % 64)) w := by
  have e : (L : Int).tmod 64 = ((L % 64 : Nat) : Int) := by rw [Int.tmod_eq_emod_of_nonneg (by omega)]; omega
  rw [e]
  have h1 : L % 64 < 64 := Nat.mod_lt _ (by omega)
  generalize L % 64 = r at *
  simp [go_sem, Instr.sliceAt, Instr.slice, Instr.sliceBounds]
  rw [if_pos (by omega), if_neg (by omega)]
def sliceLen : Value → Nat
  | .slice _ n _ => n
  | _ => 0
structure WrInv (g : Nat) (w : World) (m bs : List (BitVec 8)) (k : Nat) (v : Value) (wr : World) : Prop where
  le : k ≤ bs.length
  byt : Bytes wr g v (bs.drop k)
  hsh : HashIs 80 wr g (m ++ bs.take k)
  onl : Only g w wr
  kok : KOk wr
theorem mix_enter : ∀ xs w, (callFunc 51 xs).run Tryd.prog w = .ok (.enter 51 xs) w := fun _ _ => by kernel_rfl
/-- the worlds in which the call of mix may be met -/
structure WC (g : Nat) (w w3 : World) (s : St) (blk : List (BitVec 8)) (n : Nat) (w' : World) : Prop where
  blk : Blk w' g (hc s blk n) 80
  onl : Only g w w'
  kok : KOk w'
  onl2 : Only g w3 w'
theorem KOk.only {g : Nat} {w w' : World} (h : KOk w) (ho : Only g w w') (hg : 0 ≠ g) : KOk w' := fun j hj => ho.cell hg (h j hj)
set_option maxRecDepth 100000 in
set_option maxHeartbeats 1000000 in
theorem write_any (g : Nat) (m bs : List (BitVec 8)) (v : Value) (w : World) (hg : 0 ≠ g) (hK : KOk w) (hH : HashIs 80 w g m) (hB : Bytes w g v bs) (hl : m.length + bs.length < 4611686018427387904) :
    Calls Tryd.prog 43 #[.pointer (some ⟨g, 0, none⟩), v] w fun e w' => e = .returned (.tuple #[]) ∧ HashIs 80 w' g (m ++ bs) ∧ Only g w w' := by
  have hI : WrInv g w m bs 0 v w := ⟨Nat.zero_le _, by simpa using hB, by simpa using hH, Only.refl _ _, hK⟩
  clear hK hH hB
  go_enter Tryd.func43, Tryd.ntmps43
  go_wp2
  go_loopw [1] (fun v wr => ∃ k, WrInv g w m bs k v wr) (fun v _ => sliceLen v)
  case atStart => exact ⟨0, hI⟩
  case round =>
    clear hI
    obtain ⟨k, hI⟩ := hrel
    have hle := hI.le
    by_cases hlt : k < bs.length
    · obtain ⟨ad, cap, hv, hcap, hpos⟩ := hI.byt
      obtain ⟨b, off, rfl, hbg, hsrc⟩ := hpos (by simp; omega)
      subst hv
      obtain ⟨s, blk, hblk, hsay⟩ := hI.hsh
      have HL : Hid ((m ++ bs.take k).length < 4611686018427387904) := by show _ < _; simp; omega
      have HN : Hid ((bs.drop k).length = bs.length - k) := by show _ = _; simp
      have hn0 : 0 < (bs.drop k).length := by have := HN.out; omega
      have HM : Hid (m ++ bs = m ++ bs.take k ++ bs.drop k) := by show _ = _; simp
      have hL := HL.out
      obtain ⟨rest, HRest⟩ : ∃ x, Hid (x = bs.drop k) := ⟨_, rfl⟩
      obtain ⟨cur, HCur⟩ : ∃ x, Hid (x = m ++ bs.take k) := ⟨_, rfl⟩
      rw [← HRest.out] at hcap hsrc hn0
      rw [← HCur.out] at hblk hsay hL
      simp only [← HRest.out]
      obtain ⟨L, HLL⟩ : ∃ x, Hid (x = cur.length) := ⟨_, rfl⟩
      obtain ⟨n, HNN⟩ : ∃ x, Hid (x = rest.length) := ⟨_, rfl⟩
      rw [← HNN.out] at hcap hsrc hn0
      rw [← HLL.out] at hblk hL
      simp only [← HNN.out]
      have hs64 := hsay.len
      have cn : wr.cell? ⟨g, 72, none⟩ = some (.int .u64 (L : Int)) := by rw [hblk.cell, hc_len s blk L hs64]
      have hcapn : n < 4611686018427387904 := by have := HN.out; rw [← HRest.out, ← HNN.out] at this; omega
      obtain ⟨cs, HCS⟩ : ∃ x, Hid (x = cb (rest.take (min n (64 - L % 64)))) := ⟨_, rfl⟩
      have HCL : Hid (cs.length = min n (64 - L % 64)) := by show _ = _; rw [HCS.out, cb_len, List.length_take, ← HNN.out]; omega
      have HT : Hid (wr.there g (8 + L % 64) cs.length) := hblk.there _ _ (by rw [len_hc s blk L hs64, HCL.out]; omega)
      have HS : Hid (∀ j v, cs[j]? = some v → wr.cell? ((⟨b, off, none⟩ : Addr).add j) = some v) := by
        intro j v hj
        have hj2 : j < min n (64 - L % 64) := by rw [← HCL.out]; exact (List.getElem?_eq_some_iff.1 hj).1
        rw [Addr.add_mid, hsrc j (by omega)]
        rw [HCS.out, cb_get _ j (by rw [List.length_take, ← HNN.out]; omega)] at hj
        rw [← hj]
        simp [hj2]
      have H1 : Hid (∀ v ∈ cs, v.oneCell' = true) := by show ∀ _, _; rw [HCS.out]; exact cb_one _
      have HJ : Hid (Blk (wr.drew.setCells g (8 + L % 64) cs) g (hc s (blk.take (L % 64) ++ rest.take (min n (64 - L % 64)) ++ blk.drop (L % 64 + (rest.take (min n (64 - L % 64))).length)) L) 80) := by
        have h := setCells_eq g cs (8 + L % 64) wr.drew _ _ hblk.drew (by rw [len_hc s blk L hs64, HCL.out]; omega)
        rw [HCS.out] at h ⊢
        rw [hc_block s blk _ L _ hs64 (by rw [List.length_take, ← HNN.out]; omega)] at h
        exact h
      have HO : Hid (Only g w (wr.drew.setCells g (8 + L % 64) cs)) := Only.setCells _ _ _ hI.onl.drew
      have HP : Hid (KOk (wr.drew.setCells g (8 + L % 64) cs)) := fun j hj => by rw [World.cell?_setCells_out _ _ _ _ _ (fun h => absurd h hg)]; exact hI.kok j hj
      have HY : Hid (Bytes (wr.drew.setCells g (8 + L % 64) cs) g (.slice (some ⟨b, off, none⟩) n cap) rest) := ⟨_, cap, by rw [← HNN.out], by rw [← HNN.out]; exact hcap, fun _ => ⟨b, off, rfl, hbg, fun j hj => by rw [World.cell?_setCells_out _ _ _ _ _ (fun h => absurd h hbg)]; exact hsrc j (by rw [HNN.out]; exact hj)⟩⟩
      have HSay : Hid (Says s blk cur) := hsay
      clear hle hlt hs64 hsrc hblk hsay hI
      have hsl := fun wx => slice_arr g L wx
      go_wp2
      go_region_law (refine step_copy_cells rfl _ _ 22 22 rfl 5 Tryd.underlying22 Tryd.info5 g (8 + L % 64) (64 - L % 64) (64 - L % 64) ⟨b, off, none⟩ n cap rfl rfl cs HCL.out ?_ ?_ H1.out ?_; (intro j v hj; simpa using HS.out j v hj); (simpa using HT.out))
      clear HS HT H1 HCS cn hsl
      obtain ⟨blk2, HB2⟩ : ∃ x, Hid (x = blk.take (L % 64) ++ rest.take (min n (64 - L % 64)) ++ blk.drop (L % 64 + (rest.take (min n (64 - L % 64))).length)) := ⟨_, rfl⟩
      rw [← HB2.out] at HJ
      generalize World.setCells _ _ _ _ = w2 at *
      generalize cs.length = c at *
      as_aux_lemma =>
        have hc0 : 0 < c := by have := HCL.out; omega
        have hcn : c ≤ n := by have := HCL.out; omega
        have hc64 : L % 64 + c ≤ 64 := by have := HCL.out; omega
        have HW2 : Hid ((rest.take (min n (64 - L % 64))).length = c) := by show _ = _; rw [List.length_take, ← HNN.out]; have := HCL.out; omega
        have hb64 : Hid (blk2.length = 64) := by show _ = _; rw [HB2.out]; have := HSay.out.len; have h2 := HW2.out; simp [this] at h2 ⊢; omega
        have cn : w2.cell? ⟨g, 72, none⟩ = some (.int .u64 (L : Int)) := by rw [HJ.out.cell, hc_len s blk2 L hb64.out]
        have fn : w2.frozen? ⟨g, 72, none⟩ = false := HJ.out.frozen 72
        have HE : Hid (∀ w4 v4, HashIs 80 w4 g (cur ++ rest.take c) → Bytes w4 g v4 (rest.drop c) → Only g w w4 → KOk w4 → WrInv g w m bs (k + c) v4 w4) := by
          intro w4 v4 h1 h2 h3 h4
          have e1 : k + c ≤ bs.length := by have := HN.out; rw [← HRest.out, ← HNN.out] at this; omega
          refine ⟨e1, ?_, ?_, h3, h4⟩
          · rw [HRest.out, List.drop_drop] at h2; exact h2
          · rw [HRest.out, HCur.out, List.append_assoc] at h1
            have e2 : bs.take k ++ (bs.drop k).take c = bs.take (k + c) := by rw [List.take_add]
            rw [e2] at h1; exact h1
        have HF : Hid (rest.take (min n (64 - L % 64)) = rest.take c) := by show _ = _; rw [HCL.out]
        clear HRest HCur HN HL HM hpos hl
        by_cases hfull : L % 64 + c = 64
        · have ht : ((((L : Int) + (c : Int)).tmod 64) == 0) = true := by
            rw [Int.tmod_eq_emod_of_nonneg (by omega), beq_iff_eq]; omega
          have H3 : Hid (Blk (w2.setCell ⟨g, 72, none⟩ (.int .u64 ((L : Int) + (c : Int)))) g (hc s blk2 (L + c)) 80) := by
            have h1 := HJ.out.set 72 (.int .u64 (((L + c : Nat) : Int)))
            rw [hc_setn s blk2 L (L + c) hb64.out] at h1
            exact h1
          have HO3 : Hid (Only g w (w2.setCell ⟨g, 72, none⟩ (.int .u64 ((L : Int) + (c : Int))))) := HO.out.setCell _ _
          have HP3 : Hid (KOk (w2.setCell ⟨g, 72, none⟩ (.int .u64 ((L : Int) + (c : Int))))) := HP.out.only ((Only.refl _ _).setCell _ _) hg
          have HY3 : Hid (Bytes (w2.setCell ⟨g, 72, none⟩ (.int .u64 ((L : Int) + (c : Int)))) g (.slice (some ⟨b, off, none⟩) n cap) rest) := HY.out.only ((Only.refl _ _).setCell _ _)
          have HG : Hid (Says (compress s blk2) blk2 (cur ++ rest.take c)) := by
            have h2 := HSay.out.full (y := rest.take c) (by rw [← HLL.out, ← HF.out, HW2.out]; omega)
            rw [← HLL.out, ← HF.out, ← HB2.out, HF.out] at h2
            exact h2
          have HX : Hid ((cur ++ rest.take c).length = L + c) := by show _ = _; rw [List.length_append, ← HLL.out, ← HF.out, HW2.out]
          by_cases hcc : cap = c
          all_goals
            go_wp2
            clear cn fn HJ HO HP HY
            generalize World.setCell _ _ _ = w3 at *
            as_aux_lemma =>
              have HYO : Hid (∀ w5, Only g w3 w5 → Bytes w5 g (.slice (some ⟨b, off, none⟩) n cap) rest) := fun w5 h => HY3.out.only h
              have HZ : Hid ((Tryd.prog.info? 78).map (·.size) = some (cb blk2).length) := by rw [cb_len, hb64.out]; exact Tryd.info78
              refine wp_region_last_lit (C := WC g w w3 s blk2 (L + c)) (by simp) (by kernel_rfl) (by kernel_rfl) (by kernel_rfl) ⟨H3.out.drew, HO3.out.drew, HP3.out, (Only.refl _ _).drew⟩ ?_
              simp only [List.dropLast_cons_cons, List.dropLast_singleton, List.getLast_cons_cons, List.getLast_singleton, List.cons_append, List.nil_append, idle]
              refine wpQuiet_val rfl (.pointer (some ⟨g, 0, none⟩)) (fun _ _ => by simp [go_sem]) ?_
              simp only [Act.put, List.setIfInBounds_toArray, List.set_cons_zero, List.set_cons_succ]
              refine wpQuiet_val rfl (.pointer (some ⟨g, 0, none⟩)) (fun _ _ => by simp [go_sem]) ?_
              simp only [Act.put, List.setIfInBounds_toArray, List.set_cons_zero, List.set_cons_succ]
              refine wpQuiet_val rfl (.pointer (some ⟨g, 0, none⟩)) (fun _ _ => by simp [go_sem]) ?_
              simp only [Act.put, List.setIfInBounds_toArray, List.set_cons_zero, List.set_cons_succ]
              refine wpQuiet_val rfl (.pointer (some ⟨g, 0, none⟩)) (fun _ _ => by simp [go_sem]) ?_
              simp only [Act.put, List.setIfInBounds_toArray, List.set_cons_zero, List.set_cons_succ]
              refine wpQuiet_load rfl 62 _ rfl g 0 rfl (cw s.l) _ (fun _ hx => hc_range_words hx.blk) Tryd.underlying62 rfl Tryd.info62 ?_
              simp only [Act.put, List.setIfInBounds_toArray, List.set_cons_zero, List.set_cons_succ]
              refine wpQuiet_val rfl (.pointer (some ⟨g, 0, none⟩)) (fun _ _ => by simp [go_sem]) ?_
              simp only [Act.put, List.setIfInBounds_toArray, List.set_cons_zero, List.set_cons_succ]
              refine wpQuiet_val rfl (.pointer (some ⟨g, 0, none⟩)) (fun _ _ => by simp [go_sem]) ?_
              simp only [Act.put, List.setIfInBounds_toArray, List.set_cons_zero, List.set_cons_succ]
              refine wpQuiet_val rfl (.pointer (some ⟨g, 8, none⟩)) (fun _ _ => by simp [go_sem]) ?_
              simp only [Act.put, List.setIfInBounds_toArray, List.set_cons_zero, List.set_cons_succ]
              refine wpQuiet_load rfl 78 _ rfl g 8 rfl (cb blk2) _ (fun _ hx => hc_range_block hx.blk hb64.out) Tryd.underlying78 rfl HZ.out ?_
              simp only [Act.put, List.setIfInBounds_toArray, List.set_cons_zero, List.set_cons_succ]
              refine wpQuiet_call rfl 51 _ _ rfl mix_enter #[.agg (cw s.l).toArray, .agg (cb blk2).toArray] (by simp [go_sem]) (.agg (cw (compress s blk2).l).toArray) (fun wx hx => (mix_any s blk2 hb64.out wx hx.kok).mono fun e w' ⟨he, hb⟩ => ⟨he, hx.blk.below hb hx.blk.lt, hx.onl.trans (Only.of_below hb), hx.kok.below hb hx.kok.lt, hx.onl2.trans (Only.of_below hb)⟩) ?_
              simp only [Act.put, List.setIfInBounds_toArray, List.set_cons_zero, List.set_cons_succ]
              refine wpQuiet_val rfl (.pointer (some ⟨g, 0, none⟩)) (fun _ _ => by simp [go_sem]) ?_
              simp only [Act.put, List.setIfInBounds_toArray, List.set_cons_zero, List.set_cons_succ]
              refine wpQuiet_val rfl (.pointer (some ⟨g, 0, none⟩)) (fun _ _ => by simp [go_sem]) ?_
              simp only [Act.put, List.setIfInBounds_toArray, List.set_cons_zero, List.set_cons_succ]
              refine wpQuiet_nil ?_
              intro w5 h5
              refine wp_store_mid 62 _ _ rfl g 0 (cw (compress s blk2).l).toArray rfl rfl (hc_there h5.blk hb64.out) Tryd.info62 (all_oneCell_toArray (cw_one _)) ?_
              have HB5 : Hid (HashIs 80 (w5.setCells g 0 (cw (compress s blk2).l)) g (cur ++ rest.take c)) := ⟨_, blk2, by rw [HX.out]; exact hc_store h5.blk hb64.out _, HG.out⟩
              simp only [Act.put]
              go_wp2
              go_roundw
              case rel =>
                refine ⟨k + c, HE.out _ _ HB5.out ?_ (Only.setCells _ _ _ h5.onl) (h5.kok.only (Only.setCells _ _ _ (Only.refl _ _)) hg)⟩
                have HY5 := HYO.out w5 h5.onl2
                first | exact (HY5.drop_if hcn).only (Only.setCells _ _ _ (Only.refl _ _)) | exact (HY5.drop_eq hcn ‹_›).only (Only.setCells _ _ _ (Only.refl _ _)) | exact (HY5.drop_ne hcn).only (Only.setCells _ _ _ (Only.refl _ _))
              case measure => simp [sliceLen]; omega
        · have ht : ((((L : Int) + (c : Int)).tmod 64) == 0) = false := by
            rw [Int.tmod_eq_emod_of_nonneg (by omega), beq_eq_false_iff_ne]; omega
          have HG : Hid (HashIs 80 (w2.setCell ⟨g, 72, none⟩ (.int .u64 ((L : Int) + (c : Int)))) g (cur ++ rest.take c)) := by
            have h1 := HJ.out.set 72 (.int .u64 (((L + c : Nat) : Int)))
            rw [hc_setn s blk2 L (L + c) hb64.out] at h1
            have h2 := HSay.out.more (y := rest.take c) (by rw [← HLL.out, ← HF.out, HW2.out]; omega)
            rw [← HLL.out, ← HF.out, ← HB2.out, HF.out] at h2
            have e3 : (cur ++ rest.take c).length = L + c := by rw [List.length_append, ← HLL.out, ← HF.out, HW2.out]
            refine ⟨s, blk2, ?_, h2⟩
            rw [e3]; exact h1
          go_wp2
          all_goals
            go_roundw
            case rel =>
              refine ⟨k + c, HE.out _ _ HG.out ?_ (HO.out.setCell _ _) ?_⟩
              · first | exact (HY.out.drop_if hcn).only ((Only.refl _ _).setCell _ _) | exact (HY.out.drop_eq hcn ‹_›).only ((Only.refl _ _).setCell _ _) | exact (HY.out.drop_ne hcn).only ((Only.refl _ _).setCell _ _)
              · exact HP.out.only ((Only.refl _ _).setCell _ _) hg
            case measure => simp [sliceLen]; omega
    · have hk : k = bs.length := by omega
      have HF : Hid (HashIs 80 wr g (m ++ bs)) := by have := hI.hsh; rw [hk, List.take_length] at this; exact this
      obtain ⟨ad, cap, hv, hcap, hpos⟩ := hI.byt
      have hz : (bs.drop k).length = 0 := by simp; omega
      rw [hz] at hv
      subst hv
      have HO : Hid (Only g w wr) := hI.onl
      clear hI hpos
      go_wp2
      go_end0
      exact ⟨rfl, HF.out, HO.out⟩
end Go.Proofs.YtmkjcgjbhibnpaaDoor
/- The walks of sha.firstWords, sha.New and (*sha.Hash).Clone. -/
namespace Go.Proofs.YtmkjcgjbhibnpaaDoor
open Go.RowKit
set_option maxRecDepth 100000
def zb64 : List (BitVec 8) := List.replicate 64 0
theorem st0_cells : [Value.int .u32 1779033703, Value.int .u32 3144134277, Value.int .u32 1013904242, Value.int .u32 2773480762, Value.int .u32 1359893119, Value.int .u32 2600822924, Value.int .u32 528734635, Value.int .u32 1541459225] = cw st0.l := by kernel_rfl
theorem built_hash : Tryd.prog.built 80 [(0, .agg (cw st0.l).toArray)] = some (hc st0 zb64 0).toArray := by kernel_rfl
theorem Tryd.info80 : (Tryd.prog.info? 80).map (·.size) = some 73 := by kernel_rfl
theorem wpList_build1 {P : Program} {ops : Array Oper} {rest : List Oper} {o : Oper} {a : Act} {w : World} {Q : Exit → Act → World → Prop} (hg : o.guard = none) (t : TypeId) (x : Operand)
    (ho : o.op = .build t #[(0, x)]) (v : Value) (e : a.eval x = v) (cs : Array Value) (hb : P.built t [(0, v)] = some cs) (h : wpList P ops Q rest (a.put o.dst (.agg cs)) w) : wpList P ops Q (o :: rest) a w :=
  wpList_build hg t _ ho (by simp [e, hb]) (by simpa [e, hb] using h)
set_option maxHeartbeats 400000 in
theorem firstWords_any (w : World) : Calls Tryd.prog 50 #[] w fun e w' => e = .returned (.agg (cw st0.l).toArray) ∧ Below w.heap.size w w' := by
  go_enter Tryd.func50, Tryd.ntmps50
  go_wp2_with (first
    | (refine wpList_build8 rfl 62 _ _ _ _ _ _ _ _ rfl _ _ _ _ _ _ _ _ rfl rfl rfl rfl rfl rfl rfl rfl (built8 _ _ _ _ _ _ _ _) ?_)
    | (refine wpList_store8 rfl 62 _ _ rfl _ _ _ _ _ _ _ _ _ rfl rfl ((Blk.new w (cw z8) 62).there 0 8 (by simp [cw_len, len_z8])) Tryd.info62 ?_))
  have hB := (Blk.new w (cw z8) 62).whole [Value.int .u32 1779033703, Value.int .u32 3144134277, Value.int .u32 1013904242, Value.int .u32 2773480762, Value.int .u32 1359893119, Value.int .u32 2600822924, Value.int .u32 528734635, Value.int .u32 1541459225] (by rw [cw_len, len_z8]; rfl)
  refine bodyPost_ret (v := .agg #[Value.int .u32 1779033703, Value.int .u32 3144134277, Value.int .u32 1013904242, Value.int .u32 2773480762, Value.int .u32 1359893119, Value.int .u32 2600822924, Value.int .u32 528734635, Value.int .u32 1541459225]) (results_cell_row (by rfl) _ _ w.heap.size 62 _ (0, 0) _ rfl hB Tryd.underlying62 rfl Tryd.info62) rfl ⟨by rw [← st0_cells], Below.setCells _ (Nat.le_refl _) _ _ _ ((Below.refl _ _).alloc (Nat.le_refl _) _)⟩
def stz : St := ⟨0, 0, 0, 0, 0, 0, 0, 0⟩
theorem zero_hash (w : World) : (zeroValue 80).run Tryd.prog w = .ok (.agg (hc stz zb64 0).toArray) w := by kernel_rfl
theorem says0 : Says st0 zb64 [] := ⟨rfl, rfl, rfl⟩
set_option maxRecDepth 100000 in
set_option maxHeartbeats 400000 in
theorem new_any (w : World) : Calls Tryd.prog 42 #[] w fun e w' => ∃ g, e = .returned (.pointer (some ⟨g, 0, none⟩)) ∧ w.heap.size ≤ g ∧ HashIs 80 w' g [] ∧ Below w.heap.size w w' := by
  go_enter Tryd.func42, Tryd.ntmps42
  go_wp2_with (first
    | (go_at_call 50; refine (firstWords_any _).mono ?_; rintro e w1 ⟨rfl, hw1⟩)
    | (refine wpList_build1 rfl 80 _ rfl _ rfl _ built_hash ?_))
  go_ret
  exact ⟨w1.heap.size, rfl, hw1.size, ⟨st0, zb64, Blk.new w1 _ _, says0⟩, hw1.alloc hw1.size _⟩
end Go.Proofs.YtmkjcgjbhibnpaaDoor
/- The walk of sha.Pad: what stands behind so many bytes. -/
namespace Go.Proofs.YtmkjcgjbhibnpaaDoor
open Go.RowKit
set_option maxRecDepth 100000
def padN (n : Nat) : Nat := (119 - n % 64) % 64
def bitsOf (n : Nat) : Nat := 8 * n % 18446744073709551616
def padL (k B : Nat) : Nat → List (BitVec 8)
  | 0 => 128#8 :: List.replicate (k + 8) 0
  | i + 1 => (padL k B i).set (k + 8 - i) (BitVec.ofNat 8 (B / 2 ^ (8 * i)))
def pad (n : Nat) : List (BitVec 8) := padL (padN n) (bitsOf n) 8
theorem len_padL (k B i : Nat) : (padL k B i).length = k + 9 := by
  induction i with
  | zero => simp [padL]
  | succ i ih => simp [padL, ih]
theorem padN_eq (n : Nat) : (IntKind.u64.wrap (55 - (n : Int))).tmod 64 = (padN n : Int) := by
  rw [IntKind.wrap_u64, Int.tmod_eq_emod_of_nonneg (by omega), padN]; omega
theorem bitsOf_eq (n : Nat) : IntKind.u64.wrap (8 * (n : Int)) = (bitsOf n : Int) := by
  rw [IntKind.wrap_u64, bitsOf]; omega
theorem Tryd.infob : (Tryd.prog.info? 5).map (fun i => (i.zero, i.size, i.bytes)) = some (some (.int .u8 0), 1, 1) := by kernel_rfl
theorem make_bytes (k : Nat) (hk : k < 281474976710600) (w : World) : (Instr.makeSlice 22 (.int .u64 (1 + (k : Int) + 8)) (.int .u64 (1 + (k : Int) + 8))).run Tryd.prog w =
    .ok (.slice (some ⟨w.heap.size, 0, none⟩) (k + 9) (k + 9)) (w.alloc (.cells (cb (List.replicate (k + 9) 0)).toArray 5)) := by
  obtain ⟨i0, hi, hz0, hz1, hz2⟩ := info_parts Tryd.infob
  rw [run_make (P := Tryd.prog) w 22 5 i0 _ Tryd.underlying22 hi hz0 .u64 .u64 _ _ (by omega) (by omega) (by rw [hz2]; omega) (by omega)]
  have e : (1 + (k : Int) + 8).toNat = k + 9 := by omega
  rw [e, hz1, Nat.mul_one]
  congr 3
  simp [madeCells, cb, Value.cells, Nat.mod_one]
  apply Array.ext
  · simp
  · intro j h1 h2; simp
theorem byte_of' (B j : Nat) : (((BitVec.ofNat 8 (B / 2 ^ (8 * j))).toNat : Nat) : Int) = (B : Int) / 2 ^ (8 * j) % 256 := by simp
set_option maxHeartbeats 400000 in
theorem pad_any (n : Nat) (w : World) : Calls Tryd.prog 52 #[.int .u64 (n : Int)] w fun e w' => e = .returned (.slice (some ⟨w.heap.size, 0, none⟩) (padN n + 9) (padN n + 9)) ∧ Blk w' w.heap.size (cb (pad n)) 5 ∧ Below w.heap.size w w' := by
  have h1 := padN_eq n
  have h2 := bitsOf_eq n
  have HP : Hid (pad n = padL (padN n) (bitsOf n) 8) := rfl
  have hk : padN n < 64 := by unfold padN; omega
  generalize padN n = k at *
  generalize bitsOf n = B at *
  have hmk := fun wx => make_bytes k (by omega) wx
  go_enter Tryd.func52, Tryd.ntmps52
  have hc0 : (cb (List.replicate (k + 9) 0#8))[0]? = some (.int .u8 0) := by simp [cb]
  have HS : Hid (Blk (w.alloc (.cells ((cb (List.replicate (k + 9) 0)).set 0 (.int .u8 128)).toArray 5)) w.heap.size (cb (padL k B 0)) 5) := by
    have := Blk.new w ((cb (List.replicate (k + 9) 0)).set 0 (.int .u8 128)) 5
    rw [show (Value.int .u8 128) = .int .u8 ((128#8).toNat : Int) from rfl, cb_set] at this
    exact this
  go_wp2
  go_loopw [18] (fun i wr => ∃ j : Nat, j ≤ 8 ∧ i = .int .i64 j ∧ Blk wr w.heap.size (cb (padL k B j)) 5 ∧ Below w.heap.size w wr) (fun i _ => 8 - (intOf i).toNat)
  case atStart =>
    exact ⟨0, by omega, rfl, HS.out, (Below.refl _ _).alloc (Nat.le_refl _) _⟩
  case round =>
    clear HS
    obtain ⟨j, hj, rfl, hB, hbel⟩ := hrel
    by_cases hlt : j < 8
    · obtain ⟨o, cT⟩ : ∃ o, wr.cell? ⟨w.heap.size, k + 8 - j, none⟩ = some o := ⟨_, by rw [hB.cell, cb_get _ _ (by rw [len_padL]; omega)]⟩
      have fT : wr.frozen? ⟨w.heap.size, k + 8 - j, none⟩ = false := hB.frozen _
      have HB : Hid (Blk wr w.heap.size (cb (padL k B j)) 5) := hB
      clear hB
      go_wp2
      go_roundw
      case rel =>
        refine ⟨j + 1, by omega, by go_num, ?_, hbel.setCell (Nat.le_refl _) _⟩
        have h := HB.out.set (k + 8 - j) (.int .u8 (((BitVec.ofNat 8 (B / 2 ^ (8 * j))).toNat : Nat) : Int))
        rw [cb_set, byte_of'] at h
        exact h
      case measure => simp [intOf]; omega
    · have hj8 : j = 8 := by omega
      subst hj8
      have HB : Hid (Blk wr w.heap.size (cb (pad n)) 5) := by show Blk _ _ _ _; rw [HP.out]; exact hB
      clear hB
      go_wp2
      go_ret
      exact ⟨rfl, HB.out, hbel⟩
end Go.Proofs.YtmkjcgjbhibnpaaDoor
/- The walk of sha.wordBytes: eight words as thirty-two bytes. -/
namespace Go.Proofs.YtmkjcgjbhibnpaaDoor
open Go.RowKit
set_option maxRecDepth 100000
theorem Tryd.info27 : (Tryd.prog.info? 27).map (·.size) = some 32 := by kernel_rfl
/-- the bytes after i words, and j bytes of the next one -/
def outB (l : List (BitVec 32)) : Nat → List (BitVec 8)
  | 0 => zb32
  | k + 1 => (outB l k).set k ((l.getD (k / 4) 0 >>> (24 - 8 * (k % 4))).setWidth 8)
theorem len_outB (l : List (BitVec 32)) (k : Nat) : (outB l k).length = 32 := by
  induction k with
  | zero => rfl
  | succ k ih => simp [outB, ih]
structure OutInv (w : World) (l : List (BitVec 32)) (k : Nat) (wr : World) : Prop where
  wds : Blk wr w.heap.size (cw l) 62
  res : Blk wr (w.heap.size + 1) (cb zb32) 27
  out : Blk wr (w.heap.size + 1 + 1) (cb (outB l k)) 27
  bel : Below w.heap.size w wr
theorem OutInv.store {w wr : World} {l : List (BitVec 32)} {k : Nat} (h : OutInv w l k wr) (v : Int) (hv : v = (((l.getD (k / 4) 0 >>> (24 - 8 * (k % 4))).setWidth 8).toNat : Int)) :
    OutInv w l (k + 1) (wr.setCell ⟨w.heap.size + 1 + 1, k, none⟩ (.int .u8 v)) := by
  subst hv
  exact ⟨h.wds.other _ _ (by simp; omega), h.res.other _ _ (by simp), by have := h.out.set k (.int .u8 (((l.getD (k / 4) 0 >>> (24 - 8 * (k % 4))).setWidth 8).toNat : Int)); rw [cb_set] at this; exact this, h.bel.setCell (by simp; omega) _⟩
theorem shr_byte (x : BitVec 32) (s : Nat) : (x.toNat : Int) / 2 ^ s % 256 = (((x >>> s).setWidth 8).toNat : Int) := by
  simp [BitVec.toNat_ushiftRight, Nat.shiftRight_eq_div_pow]
set_option maxHeartbeats 400000 in
theorem wordBytes_any (l : List (BitVec 32)) (hl : l.length = 8) (w : World) :
    Calls Tryd.prog 53 #[.agg (cw l).toArray] w fun e w' => e = .returned (.agg (cb (outB l 32)).toArray) ∧ Below w.heap.size w w' := by
  have HN : Hid (l.length = 8) := hl
  clear hl
  go_enter Tryd.func53, Tryd.ntmps53
  go_wp2
  go_loopw [6] (fun i wr => ∃ k : Nat, k ≤ 8 ∧ i = .int .i64 k ∧ OutInv w l (4 * k) wr) (fun i _ => 8 - (intOf i).toNat)
  case atStart =>
    refine ⟨0, by omega, rfl, ?_, ?_, ?_, ?_⟩
    · exact ((Blk.new w (cw l) 62).alloc _).alloc _
    · exact (Blk.new_at (w := w.alloc (.cells (cw l).toArray 62)) (by simp) (cb zb32) 27).alloc (.cells (cb zb32).toArray 27)
    · exact Blk.new_at (w := (w.alloc (.cells (cw l).toArray 62)).alloc (.cells (cb zb32).toArray 27)) (by simp) (cb zb32) 27
    · exact (((Below.refl _ _).alloc (Nat.le_refl _) _).alloc (by simp) _).alloc (by simp; omega) _
  case round =>
    obtain ⟨i, hi, rfl, hI⟩ := hrel
    by_cases hlt : i < 8
    · go_wp2
      go_loopw [9] (fun v wr => ∃ j : Nat, j ≤ 4 ∧ v = .int .i64 j ∧ OutInv w l (4 * i + j) wr) (fun v _ => 4 - (intOf v).toNat)
      case atStart => exact ⟨0, by omega, rfl, hI⟩
      case round =>
        clear hI
        obtain ⟨j, hj, rfl, hI⟩ := hrel
        by_cases hlj : j < 4
        · obtain ⟨x, HX⟩ : ∃ x, Hid (x = l.getD i 0) := ⟨_, rfl⟩
          have cx : wr.cell? ⟨w.heap.size, i, none⟩ = some (.int .u32 (x.toNat : Int)) := by rw [hI.wds.cell, cw_get l i (by have := HN.out; omega), HX.out]
          obtain ⟨o, cT⟩ : ∃ o, wr.cell? ⟨w.heap.size + 1 + 1, 4 * i + j, none⟩ = some o := ⟨_, by rw [hI.out.cell, cb_get _ _ (by rw [len_outB]; omega)]⟩
          have fT : wr.frozen? ⟨w.heap.size + 1 + 1, 4 * i + j, none⟩ = false := hI.out.frozen _
          go_wp2
          go_roundw
          case rel =>
            refine ⟨j + 1, by omega, by go_num, ?_⟩
            refine hI.store _ ?_
            rw [show (4 * i + j) / 4 = i by omega, show (4 * i + j) % 4 = j by omega, ← HX.out, shr_byte]
          case measure => simp [intOf]; omega
        · have hj4 : j = 4 := by omega
          subst hj4
          go_wp2
          go_roundw
          case rel => exact ⟨i + 1, by omega, by go_num, hI⟩
          case measure => simp [intOf]; omega
    · have hi8 : i = 8 := by omega
      subst hi8
      obtain ⟨cs, HC⟩ : ∃ x, Hid (x = cb (outB l 32)) := ⟨_, rfl⟩
      have HO : Hid (Blk wr (w.heap.size + 1 + 1) cs 27) := by rw [HC.out]; exact hI.out
      have HL : Hid (cs.length = 32) := by show _ = _; rw [HC.out, cb_len, len_outB]
      have HZ : Hid ((Tryd.prog.info? 27).map (·.size) = some cs.length) := by show _ = _; rw [HL.out]; exact Tryd.info27
      have H1 : Hid (∀ v ∈ cs, v.oneCell' = true) := by show ∀ _, _; rw [HC.out]; exact cb_one _
      have HR : Hid (Blk wr (w.heap.size + 1) (cb zb32) 27) := hI.res
      have hbel := hI.bel
      clear hI
      go_wp2_with (first
        | (refine wpList_load_mid rfl 27 _ rfl (w.heap.size + 1 + 1) 0 rfl cs _ HO.out.range Tryd.underlying27 rfl HZ.out ?_)
        | (refine wpList_store_mid rfl 27 _ _ rfl (w.heap.size + 1) 0 cs.toArray rfl rfl (HR.out.there 0 _ (by rw [List.size_toArray, HL.out, cb_len, len_zb32]; omega)) (by simpa using HZ.out) (all_oneCell_toArray H1.out) ?_))
      have hB := HR.out.whole cs (by rw [HL.out, cb_len, len_zb32])
      refine bodyPost_ret (v := .agg cs.toArray) (results_cell_row (by rfl) _ _ (w.heap.size + 1) 27 _ (0, 0) _ rfl hB Tryd.underlying27 rfl (by simpa using HZ.out)) rfl ⟨by rw [HC.out], Below.setCells _ (by omega) _ _ _ hbel⟩
end Go.Proofs.YtmkjcgjbhibnpaaDoor
/- The walks of (*sha.Hash).Digest and sha.Sum: the digest of what was written. -/
namespace Go.Proofs.YtmkjcgjbhibnpaaDoor
open Go.RowKit
set_option maxRecDepth 100000
/-- the digest of a text -/
def dig (m : List (BitVec 8)) : List (BitVec 8) := outB (blocks ((m ++ pad m.length).length / 64) st0 (m ++ pad m.length)).l 32
theorem len_pad (n : Nat) : (pad n).length = padN n + 9 := len_padL _ _ _
theorem bytes_of {w : World} {g b : Nat} {bs : List (BitVec 8)} {t : TypeId} {n : Nat} (h : Blk w b (cb bs) t) (hn : bs.length = n) (hne : b ≠ g) : Bytes w g (.slice (some ⟨b, 0, none⟩) n n) bs :=
  ⟨_, n, by rw [hn], by omega, fun _ => ⟨b, 0, rfl, hne, fun j hj => by rw [h.cell, Nat.zero_add, cb_get bs j hj]⟩⟩
/-- behind the copy: the result's block, the copy's block, the old one -/
structure DgInv (w : World) (g : Nat) (m : List (BitVec 8)) (L : Nat) (w2 : World) : Prop where
  cell : w2.cell? ⟨g, 72, none⟩ = some (.int .u64 (L : Int))
  kok : KOk w2
  res : Blk w2 w.heap.size (cb zb32) 27
  cpy : HashIs 80 w2 (w.heap.size + 1) m
  bel : Below w.heap.size w w2
theorem DgInv.start {w : World} {g : Nat} {m : List (BitVec 8)} {cs : List Value} {L : Nat} {s : St} {blk : List (BitVec 8)} (hb : Blk w g cs 80) (hK : KOk w) (hC : cs = hc s blk L) (hL : m.length = L) (hS : Says s blk m) :
    DgInv w g m L (((w.alloc (.cells (cb zb32).toArray 27)).alloc (.cells (hc stz zb64 0).toArray 80)).setCells (w.heap.size + 1) 0 cs) := by
  have hb0 : Below w.heap.size w (((w.alloc (.cells (cb zb32).toArray 27)).alloc (.cells (hc stz zb64 0).toArray 80)).setCells (w.heap.size + 1) 0 cs) :=
    Below.setCells _ (by omega) _ _ _ (((Below.refl _ _).alloc (Nat.le_refl _) _).alloc (by simp) _)
  refine ⟨?_, hK.below hb0 hK.lt, ?_, ?_, hb0⟩
  · rw [(hb.below hb0 hb.lt).cell, hC, hc_len s blk L hS.len]
  · exact Blk.others _ _ _ _ ((Blk.new w (cb zb32) _).alloc _) (by omega)
  · refine ⟨s, blk, ?_, hS⟩
    rw [hL, ← hC]
    exact (Blk.new_at (w := w.alloc (.cells (cb zb32).toArray 27)) (by simp) (hc stz zb64 0) _).whole cs (by rw [hC, len_hc s blk L hS.len]; rfl)
set_option maxRecDepth 100000 in
set_option maxHeartbeats 400000 in
theorem digest_any (g : Nat) (m : List (BitVec 8)) (w : World) (hK : KOk w) (hH : HashIs 80 w g m) (hm : m.length < 2305843009213693952) :
    Calls Tryd.prog 44 #[.pointer (some ⟨g, 0, none⟩)] w fun e w' => e = .returned (.agg (cb (dig m)).toArray) ∧ Below w.heap.size w w' := by
  obtain ⟨s, blk, hb, hs⟩ := hH
  obtain ⟨cs, HC⟩ : ∃ x, Hid (x = hc s blk m.length) := ⟨_, rfl⟩
  have HL : Hid (cs.length = 73) := by show _ = _; rw [HC.out]; exact len_hc s blk m.length hs.len
  have cn : w.cell? ⟨g, 72, none⟩ = some (.int .u64 (m.length : Int)) := by rw [hb.cell, hc_len s blk _ hs.len]
  have hlt := hb.lt
  rw [← HC.out] at hb
  have HZ : Hid ((Tryd.prog.info? 80).map (·.size) = some cs.length) := by show _ = _; rw [HL.out]; exact Tryd.info80
  have H1 : Hid (∀ v ∈ cs, v.oneCell' = true) := by
    show ∀ _, _
    rw [HC.out]; intro v hv
    simp only [hc, List.mem_append, List.mem_singleton] at hv
    rcases hv with hv | hv | rfl
    · exact cw_one _ v hv
    · exact cb_one _ v hv
    · rfl
  have HS : Hid (Says s blk m) := hs
  have HK : Hid (KOk w) := hK
  clear hs hK
  generalize hml : m.length = L at *
  have HML : Hid (m.length = L) := hml
  clear hml
  have hal := zero_hash
  have hb2 : w.rangeAt g 0 cs := hb.range
  go_enter Tryd.func44, Tryd.ntmps44
  go_wp2_with (first
    | (refine wpList_load_mid rfl 80 _ rfl g 0 rfl cs _ (World.rangeAt_alloc hb2 _) Tryd.underlying80 rfl HZ.out ?_)
    | (refine wpList_store_mid rfl 80 _ _ rfl _ 0 cs.toArray rfl rfl ?_ (by simpa using HZ.out) (all_oneCell_toArray H1.out) ?_; exact Blk.there (Blk.new_at (by simp) (hc stz zb64 0) _) _ _ (by rw [List.size_toArray, HL.out, len_hc _ _ _ rfl]; omega); refine Hid.out ?_))
  generalize h0 : Obj.cells _ 27 = o32
  have ho : o32 = Obj.cells (cb zb32).toArray 27 := h0.symm
  clear h0
  subst ho
  have hI := DgInv.start (g := g) hb HK.out HC.out HML.out HS.out
  clear hb hb2 HK HS cn H1 HZ HC hal
  generalize World.setCells _ _ _ _ = w2 at *
  unfold Hid
  as_aux_lemma =>
    have cn := hI.cell
    have HI : Hid (DgInv w g m L w2) := hI
    have hp9 : padN L < 64 := by unfold padN; omega
    clear hI
    have HD : Hid (∀ s4 blk4, Says s4 blk4 (m ++ pad L) → outB s4.l 32 = dig m) := by
      intro s4 blk4 h4
      rw [dig, HML.out, ← h4.wds]
    go_wp2_with fail
    refine (pad_any L _).mono ?_
    rintro e w3 ⟨rfl, hp3, hb3⟩
    go_wp2_with fail
    have e1 : 0 ≠ w.heap.size + 1 := by have := HI.out.kok.lt; have := HI.out.bel.size; have := HI.out.cpy.lt; omega
    have e2 : Bytes w3 (w.heap.size + 1) (.slice (some ⟨w2.heap.size, 0, none⟩) (padN L + 9) (padN L + 9)) (pad L) := bytes_of hp3 (len_pad L) (Nat.ne_of_gt HI.out.cpy.lt)
    have e3 : m.length + (pad L).length < 4611686018427387904 := by rw [len_pad, HML.out]; omega
    refine (write_any (w.heap.size + 1) m (pad L) _ _ e1 (HI.out.kok.below hb3 HI.out.kok.lt) (HI.out.cpy.below hb3 HI.out.cpy.lt) e2 e3).mono ?_
    rintro e w4 ⟨rfl, hh4, ho4⟩
    obtain ⟨s4, blk4, hb4, hs4⟩ := hh4
    have HE := HD.out s4 blk4 hs4
    have HR : Hid (Blk w4 w.heap.size (cb zb32) 27) := (HI.out.res.below hb3 (Nat.lt_of_lt_of_le (Nat.lt_succ_self _) (Nat.le_of_lt HI.out.cpy.lt))).only ho4 (by omega)
    have HBel : Hid (Below w.heap.size w w4) := HI.out.bel.trans ((hb3.mono HI.out.bel.size).trans (ho4.below (by omega) (by have := hb3.size; have := HI.out.bel.size; omega)))
    have HX : Hid (outB s4.l 32 = dig m) := HE
    clear e1 e2 e3 HI hp3 hb3 ho4 HD hs4 HE
    go_wp2_with (refine wpList_load_mid rfl 62 _ rfl (w.heap.size + 1) 0 rfl (cw s4.l) _ (hc_range_words hb4) Tryd.underlying62 rfl Tryd.info62 ?_)
    refine (wordBytes_any s4.l rfl _).mono ?_
    rintro e w5 ⟨rfl, hb5⟩
    have HL2 : Hid ((cb (outB s4.l 32)).length = 32) := by show _ = _; rw [cb_len, len_outB]
    have HZ2 : Hid ((Tryd.prog.info? 27).map (·.size) = some (cb (outB s4.l 32)).length) := by show _ = _; rw [HL2.out]; exact Tryd.info27
    have HR5 : Hid (Blk w5 w.heap.size (cb zb32) 27) := HR.out.below hb5 HR.out.lt
    obtain ⟨ds, HDS⟩ : ∃ x, Hid (x = cb (dig m)) := ⟨_, rfl⟩
    rw [HX.out, ← HDS.out] at HL2 HZ2 ⊢
    have H1 : Hid (∀ v ∈ ds, v.oneCell' = true) := by show ∀ _, _; rw [HDS.out]; exact cb_one _
    clear HX
    go_wp2_with (refine wpList_store_mid rfl 27 _ _ rfl w.heap.size 0 ds.toArray rfl rfl (HR5.out.there 0 _ (by rw [List.size_toArray, HL2.out, cb_len, len_zb32]; omega)) (by simpa using HZ2.out) (all_oneCell_toArray H1.out) ?_)
    have hB := HR5.out.whole ds (by rw [HL2.out, cb_len, len_zb32])
    refine bodyPost_ret (v := .agg ds.toArray) (results_cell_row (by rfl) _ _ w.heap.size 27 _ (0, 0) _ rfl hB Tryd.underlying27 rfl (by simpa using HZ2.out)) rfl ⟨by rw [HDS.out], Below.setCells _ (Nat.le_refl _) _ _ _ (HBel.out.trans (hb5.mono HBel.out.size))⟩
end Go.Proofs.YtmkjcgjbhibnpaaDoor
/- The walks of sha.Sum and of the statements' own example: the digest of a text. -/
namespace Go.Proofs.YtmkjcgjbhibnpaaDoor
open Go.RowKit
set_option maxRecDepth 100000
/-- the slice v reads as the bytes bs -/
def Reads (w : World) (v : Value) (bs : List (BitVec 8)) : Prop :=
  ∃ ad cap, v = .slice ad bs.length cap ∧ bs.length ≤ cap ∧ (ad = none → cap = 0) ∧ (0 < bs.length → ∃ b off, ad = some ⟨b, off, none⟩ ∧ ∀ j, j < bs.length → w.cell? ⟨b, off + j, none⟩ = some (.int .u8 ((bs.getD j 0).toNat : Int)))
theorem Reads.bytes {w : World} {v : Value} {bs : List (BitVec 8)} (h : Reads w v bs) {g : Nat} (hg : w.heap.size ≤ g) : Bytes w g v bs := by
  obtain ⟨ad, cap, hv, hc, _, hx⟩ := h
  refine ⟨ad, cap, hv, hc, fun hp => ?_⟩
  obtain ⟨b, off, h1, h2⟩ := hx hp
  refine ⟨b, off, h1, ?_, h2⟩
  have := block_lt_of_cell (h2 0 hp)
  simp at this
  omega
theorem Reads.below {w w' : World} {v : Value} {bs : List (BitVec 8)} (h : Reads w v bs) (hb : Below w.heap.size w w') : Reads w' v bs := by
  obtain ⟨ad, cap, hv, hc, hn, hx⟩ := h
  refine ⟨ad, cap, hv, hc, hn, fun hp => ?_⟩
  obtain ⟨b, off, h1, h2⟩ := hx hp
  exact ⟨b, off, h1, fun j hj => by rw [hb.cell (p := ⟨b, off + j, none⟩) (block_lt_of_cell (h2 j hj))]; exact h2 j hj⟩
set_option maxRecDepth 100000 in
set_option maxHeartbeats 400000 in
theorem sum_any (v : Value) (bs : List (BitVec 8)) (w : World) (hK : KOk w) (hR : Reads w v bs) (hl : bs.length < 2305843009213693952) :
    Calls Tryd.prog 48 #[v] w fun e w' => e = .returned (.agg (cb (dig bs)).toArray) ∧ Below w.heap.size w w' := by
  have HK : Hid (KOk w) := hK
  have HR : Hid (Reads w v bs) := hR
  clear hK hR
  go_enter Tryd.func48, Tryd.ntmps48
  go_wp2_with fail
  generalize h0 : Obj.cells _ 27 = o32
  have ho : o32 = Obj.cells (cb zb32).toArray 27 := h0.symm
  clear h0
  subst ho
  have ha : Below w.heap.size w (w.alloc (.cells (cb zb32).toArray 27)) := (Below.refl _ _).alloc (Nat.le_refl _) _
  refine (new_any _).mono ?_
  rintro e w1 ⟨g, rfl, hg, hh, hb1⟩
  simp at hg hb1
  have HB1 : Hid (Below w.heap.size w w1) := ha.trans (hb1.mono (by omega))
  have HR1 : Hid (Blk w1 w.heap.size (cb zb32) 27) := (Blk.new w (cb zb32) 27).below hb1 (by omega)
  have HG : Hid (w.heap.size + 1 ≤ g) := hg
  clear hg hb1 ha
  go_wp2_with fail
  have hk1 := HK.out.below HB1.out HK.out.lt
  have e1 : 0 ≠ g := by have := HK.out.lt; have := HG.out; omega
  have e2 : Bytes w1 g v bs := by
    have := HG.out
    exact (HR.out.bytes (g := g) (by omega)).below HB1.out
  refine (write_any g [] bs v _ e1 hk1 hh e2 (by simp; omega)).mono ?_
  rintro e w2 ⟨rfl, hh2, ho2⟩
  have HB2 : Hid (Below w.heap.size w w2) := HB1.out.trans (ho2.below (by have := HG.out; omega) HB1.out.size)
  have HR2 : Hid (Blk w2 w.heap.size (cb zb32) 27) := HR1.out.only ho2 (by have := HG.out; omega)
  have hk2 := HK.out.below HB2.out HK.out.lt
  rw [List.nil_append] at hh2
  clear e1 e2 hk1 hh ho2 HR1 HB1
  go_wp2_with fail
  refine (digest_any g bs _ hk2 hh2 hl).mono ?_
  rintro e w3 ⟨rfl, hb3⟩
  obtain ⟨ds, HDS⟩ : ∃ x, Hid (x = cb (dig bs)) := ⟨_, rfl⟩
  have HL2 : Hid (ds.length = 32) := by show _ = _; rw [HDS.out, cb_len, dig, len_outB]
  have HZ2 : Hid ((Tryd.prog.info? 27).map (·.size) = some ds.length) := by show _ = _; rw [HL2.out]; exact Tryd.info27
  have H1 : Hid (∀ v ∈ ds, v.oneCell' = true) := by show ∀ _, _; rw [HDS.out]; exact cb_one _
  have HR3 : Hid (Blk w3 w.heap.size (cb zb32) 27) := HR2.out.below hb3 HR2.out.lt
  rw [← HDS.out]
  clear hk2 hh2
  go_wp2_with (refine wpList_store_mid rfl 27 _ _ rfl w.heap.size 0 ds.toArray rfl rfl (HR3.out.there 0 _ (by rw [List.size_toArray, HL2.out, cb_len, len_zb32]; omega)) (by simpa using HZ2.out) (all_oneCell_toArray H1.out) ?_)
  have hB := HR3.out.whole ds (by rw [HL2.out, cb_len, len_zb32])
  refine bodyPost_ret (v := .agg ds.toArray) (results_cell_row (by rfl) _ _ w.heap.size 27 _ (0, 0) _ rfl hB Tryd.underlying27 rfl (by simpa using HZ2.out)) rfl ⟨by rw [HDS.out], Below.setCells _ (Nat.le_refl _) _ _ _ (HB2.out.trans (hb3.mono HB2.out.size))⟩
end Go.Proofs.YtmkjcgjbhibnpaaDoor
/- Two digests held against each other. -/
namespace Go.Proofs.YtmkjcgjbhibnpaaDoor
open Go.RowKit
set_option maxRecDepth 100000
theorem eq_part (x : List (BitVec 8)) (hx : x.length = 32) (i : Nat) (hi : i < 32) (w : World) : (part 5 (cb x).toArray i).run Tryd.prog w = .ok (.int .u8 ((x.getD i 0).toNat : Int)) w := by
  have ha : (isAgg 5).run Tryd.prog w = .ok false w := by kernel_rfl
  have hc := cb_get x i (by omega)
  simp only [part, Sem.run_bind, ha, Result.andThen_ok]
  simp [hc]
theorem eq_loop (d : Nat) (x y : List (BitVec 8)) (hx : x.length = 32) (hy : y.length = 32) : ∀ (l : List Nat) (w : World), (∀ i ∈ l, i < 32) →
    ((forIn l ((none, ()) : Option Bool × Unit) fun i _ => do
            let a ← part 5 (cb x).toArray i
            let b ← part 5 (cb y).toArray i
            let c ← Op.equalIn (d + 1) 5 a b
            if (!c) = true then pure (ForInStep.done (some false, ())) else pure (ForInStep.yield (none, ()))) : Sem (Option Bool × Unit)).run Tryd.prog w =
      .ok (if l.all (fun i => x.getD i 0 == y.getD i 0) then (none, ()) else (some false, ())) w
  | [], w, _ => by simp
  | i :: l, w, h => by
    have hi := h i (by simp)
    have ih := eq_loop d x y hx hy l w (fun j hj => h j (by simp [hj]))
    rw [List.forIn_cons]
    simp only [Sem.run_bind, eq_part x hx i hi, eq_part y hy i hi, Result.andThen_ok, run_equalIn_int w d 5 .u8 .u8 _ _ Tryd.underlying5]
    by_cases he : x.getD i 0 = y.getD i 0
    · have h1 : (((x.getD i 0).toNat : Int) == ((y.getD i 0).toNat : Int)) = true := by rw [he]; simp
      have h2 : (x.getD i 0 == y.getD i 0) = true := by rw [he]; simp
      simp only [h1, Bool.not_true, Bool.false_eq_true, if_false, Sem.run_pure, Result.andThen_ok, List.all_cons, h2, Bool.true_and]
      exact ih
    · have h1 : (((x.getD i 0).toNat : Int) == ((y.getD i 0).toNat : Int)) = false := by
        rw [beq_eq_false_iff_ne]; intro hh; exact he (BitVec.eq_of_toNat_eq (by omega))
      have h2 : (x.getD i 0 == y.getD i 0) = false := by rw [beq_eq_false_iff_ne]; exact he
      simp only [h1, Bool.not_false, if_true, Sem.run_pure, Result.andThen_ok, List.all_cons, h2, Bool.false_and, Bool.false_eq_true, if_false]
theorem eq_digs (d : Nat) (x y : List (BitVec 8)) (hx : x.length = 32) (hy : y.length = 32) (w : World) : (Op.equalIn (d + 1 + 1) 27 (.agg (cb x).toArray) (.agg (cb y).toArray)).run Tryd.prog w = .ok (decide (x = y)) w := by
  have hs : ∀ w, (sizeOf 5).run Tryd.prog w = .ok 1 w := fun w => by kernel_rfl
  rw [Op.equalIn]
  simp only [Sem.run_bind, run_underlying Tryd.underlying27, Result.andThen_ok, hs, Nat.mul_one]
  rw [Std.Legacy.Range.forIn_eq_forIn_range']
  rw [eq_loop d x y hx hy _ w (fun i hi => by simp [Std.Legacy.Range.size, List.mem_range'_1] at hi; omega)]
  simp only [Result.andThen_ok]
  by_cases h : x = y
  · subst h; simp
  · have h2 : ((List.range' ([:32] : Std.Legacy.Range).start ([:32] : Std.Legacy.Range).size ([:32] : Std.Legacy.Range).step).all fun i => x.getD i 0 == y.getD i 0) = false := by
      rw [Bool.eq_false_iff]
      intro ha
      apply h
      apply List.ext_getElem (by omega)
      intro i h1 h2
      have := List.all_eq_true.1 ha i (by simp [Std.Legacy.Range.size, List.mem_range'_1]; omega)
      simpa [h1, h2] using this
    rw [h2]; simp [h]
theorem eq_dig (x y : List (BitVec 8)) (hx : x.length = 32) (hy : y.length = 32) (w : World) : (Op.equalIn 10000 27 (.agg (cb x).toArray) (.agg (cb y).toArray)).run Tryd.prog w = .ok (decide (x = y)) w := eq_digs 9998 x y hx hy w
end Go.Proofs.YtmkjcgjbhibnpaaDoor
/- append on slices of bytes that the call itself made, in the words of these proofs. -/
namespace Go.Proofs.YtmkjcgjbhibnpaaDoor
open Go.RowKit
set_option maxRecDepth 100000
/-- the slice v, the call's own from block base on, holds the bytes l -/
def OwnB (w : World) (base : Nat) (v : Value) (l : List (BitVec 8)) : Prop := w.ownsRow base 5 1 v l.length (cb l)
theorem OwnB.nil (w : World) (base : Nat) : OwnB w base (.slice none 0 0) [] := World.ownsRow_nil _ _ _ _
theorem OwnB.reads {w : World} {base : Nat} {v : Value} {l : List (BitVec 8)} (h : OwnB w base v l) : Reads w v l := by
  obtain ⟨h1, h2⟩ := h
  rcases h2 with ⟨rfl, h0⟩ | ⟨g, cap, cur, rfl, hg, hh, hc, hm, hs, ht⟩
  · exact ⟨none, 0, by rw [h0], by omega, fun _ => rfl, fun hp => by omega⟩
  · refine ⟨_, cap, rfl, hc, (fun h => by cases h), fun _ => ⟨g, 0, rfl, fun j hj => ?_⟩⟩
    rw [cell_of_row w g (0 + j) cur _ (0, 0) hh, Nat.zero_add]
    rw [Nat.mul_one] at ht
    have := cb_get l j hj
    rw [← ht, List.getElem?_take_of_lt hj] at this
    simpa using this
theorem OwnB.below {w w' : World} {base B : Nat} {v : Value} {l : List (BitVec 8)} (h : OwnB w base v l) (hb : Below B w w') (hB : w.heap.size ≤ B) : OwnB w' base v l := by
  obtain ⟨h1, h2⟩ := h
  refine ⟨h1, ?_⟩
  rcases h2 with h2 | ⟨g, cap, cur, hv, hg, hh, r⟩
  · exact Or.inl h2
  · have hlt : g < w.heap.size := by
      rcases Nat.lt_or_ge g w.heap.size with h' | h'
      · exact h'
      · rw [Array.getElem?_eq_none h'] at hh; cases hh
    exact Or.inr ⟨g, cap, cur, hv, hg, by rw [hb.block g (by omega)]; exact hh, r⟩
theorem OwnB.own {w : World} {base : Nat} {v : Value} {l : List (BitVec 8)} (h : OwnB w base v l) : ∀ k, v.ownBlock = some k → base ≤ k := by
  obtain ⟨h1, h2⟩ := h
  rcases h2 with ⟨rfl, h0⟩ | ⟨g, cap, cur, rfl, hg, _⟩
  · intro k hk; simp [Value.ownBlock] at hk
  · intro k hk; simp [Value.ownBlock] at hk; omega
theorem wpList_appendB {w : World} {ops : Array Oper} {rest : List Oper} {o : Oper} {a : Act} {Q : Exit → Act → World → Prop} (hgd : o.guard = none) (s x : Operand)
    (ho : o.op = .call { callee := .builtin .append, args := #[s, x], argTypes := #[22, 22] }) (base : Nat)
    (v : Value) (l : List (BitVec 8)) (hs : a.eval s = v) (hown : OwnB w base v l) (vx : Value) (news : List (BitVec 8)) (hx : a.eval x = vx) (hr : Reads w vx news)
    (hlen : l.length + news.length ≤ 140737488355328) (hbase : base ≤ w.heap.size)
    (h : ∀ v' w', OwnB w' base v' (l ++ news) → Below base w w' → (news ≠ [] → v' ≠ .slice none 0 0) → wpList Tryd.prog ops Q rest (a.put o.dst v') w') : wpList Tryd.prog ops Q (o :: rest) a w := by
  obtain ⟨i0, hi, hz0, hz1, hz2⟩ := info_parts Tryd.infob
  obtain ⟨ad, cap, rfl, hcap, hnn, hpos⟩ := hr
  cases ad with
  | some ad =>
    refine wpList_append_own (P := Tryd.prog) w hgd s x 22 ho base 5 i0 (.int .u8 0) 1 1 Tryd.underlying22 hi hz0 hz1 hz2 rfl (by decide) v l.length (cb l) hs hown ad news.length cap (cb news) hx (by rw [cb_len]; omega) ?_ (cb_one _) (by unfold maxLen; omega) (by omega) hbase ?_
    · intro j u hj
      have hjl : j < news.length := by have := (List.getElem?_eq_some_iff.1 hj).1; rwa [cb_len] at this
      obtain ⟨b, off, h1, h2⟩ := hpos (by omega)
      cases h1
      rw [Addr.add_mid, h2 j hjl, ← hj, cb_get news j hjl]
    · intro v' w' h1 h2 h3
      refine h v' w' ?_ ((Below.refl _ _).grown h2 hbase (fun k hk => hown.own k hk)) (fun hne hv => ?_)
      · have e : cb l ++ cb news = cb (l ++ news) := by simp [cb]
        rw [e] at h1
        unfold OwnB; rw [List.length_append]; exact h1
      · have := (h3.1 hv).2
        exact hne (List.eq_nil_of_length_eq_zero this)
  | none =>
    have hn0 : news = [] := by
      cases news with
      | nil => rfl
      | cons b r => obtain ⟨b, off, h1, _⟩ := hpos (by simp); cases h1
    subst hn0
    have hc0 := hnn rfl
    subst hc0
    refine wpList_append_own_none (P := Tryd.prog) hgd s x 22 ho base 5 i0 1 Tryd.underlying22 hi v l.length (cb l) hs hown hx ?_
    exact h v w (by rw [List.append_nil]; exact hown) (Below.refl _ _) (fun hne => absurd rfl hne)
end Go.Proofs.YtmkjcgjbhibnpaaDoor
/- The walks of blazonref01.Pad, Same and Join. -/
namespace Go.Proofs.YtmkjcgjbhibnpaaDoor
open Go.RowKit
set_option maxRecDepth 100000
def tl8 (B i : Nat) : List (BitVec 8) := (List.range i).map fun j => BitVec.ofNat 8 (B / 2 ^ (56 - 8 * j))
theorem pad_eq (n : Nat) : pad n = 128#8 :: List.replicate (padN n) 0 ++ tl8 (bitsOf n) 8 := by
  unfold pad
  generalize padN n = k
  generalize bitsOf n = B
  have e : (128#8 :: List.replicate (k + 8) (0 : BitVec 8)) = (128#8 :: List.replicate k 0) ++ List.replicate 8 0 := by
    rw [List.cons_append, List.replicate_append_replicate]
  have hs : ∀ (A L : List (BitVec 8)) (j : Nat) (v : BitVec 8), A.length = k + 1 → j < 8 → (A ++ L).set (k + 8 - j) v = A ++ L.set (7 - j) v := by
    intro A L j v hA hj
    rw [List.set_append_right _ _ (by omega), hA, show k + 8 - j - (k + 1) = 7 - j by omega]
  have hA : (128#8 :: List.replicate k (0 : BitVec 8)).length = k + 1 := by simp
  generalize (128#8 :: List.replicate k (0 : BitVec 8)) = A at *
  simp only [padL, e]
  rw [hs A _ 0 _ hA (by omega), hs A _ 1 _ hA (by omega), hs A _ 2 _ hA (by omega), hs A _ 3 _ hA (by omega), hs A _ 4 _ hA (by omega), hs A _ 5 _ hA (by omega), hs A _ 6 _ hA (by omega), hs A _ 7 _ hA (by omega)]
  congr 1
theorem reads_val (w : World) (x : Int) (b : BitVec 8) (hx : x = (b.toNat : Int)) : Reads (w.alloc (.cells #[.int .u8 x] 5)) (.slice (some ⟨w.heap.size, 0, none⟩) 1 1) [b] := by
  subst hx
  exact ⟨_, 1, rfl, Nat.le_refl _, (fun h => by cases h), fun _ => ⟨w.heap.size, 0, rfl, fun j hj => by match j, hj with | 0, _ => simp⟩⟩
structure RpInv (w : World) (l : List (BitVec 8)) (v : Value) (wr : World) : Prop where
  own : OwnB wr w.heap.size v l
  bel : Below w.heap.size w wr
set_option maxHeartbeats 400000 in
theorem rpad_any (n : Nat) (w : World) : Calls Tryd.prog 37 #[.int .u64 (n : Int)] w fun e w' => ∃ v, e = .returned v ∧ Reads w' v (pad n) ∧ Below w.heap.size w w' := by
  have HP : Hid (pad n = 128#8 :: List.replicate (padN n) 0 ++ tl8 (bitsOf n) 8) := pad_eq n
  have hk : padN n < 64 := by unfold padN; omega
  have hkk : padN n = (119 - n % 64) % 64 := rfl
  have h2 := bitsOf_eq n
  have h3 : IntKind.u64.wrap ((n : Int) * 8) = (bitsOf n : Int) := by rw [Int.mul_comm]; exact h2
  generalize padN n = k at *
  generalize bitsOf n = B at *
  have HK : Hid (k = (119 - n % 64) % 64) := hkk
  clear hkk h2
  go_enter Tryd.func37, Tryd.ntmps37
  go_wp2_with (at_builtin; refine wpList_appendB rfl (.tmp 6) (.tmp 7) rfl w.heap.size _ [] rfl (OwnB.nil _ _) _ [128] rfl ?_ (by simp) (by simp) ?_; exact ⟨_, 1, rfl, Nat.le_refl _, (fun h => by cases h), fun _ => ⟨w.heap.size, 0, rfl, fun j hj => by match j, hj with | 0, _ => simp⟩⟩; intro v1 w1 hown1 hb1 _)
  have hI : RpInv w [128] v1 w1 := ⟨hown1, ((Below.refl _ _).alloc (Nat.le_refl _) _).trans hb1⟩
  clear hown1 hb1
  go_loopw [3] (fun v wr => ∃ j : Nat, j ≤ k ∧ RpInv w (128#8 :: List.replicate j 0) v wr) (fun v _ => k + 1 - sliceLen v)
  case atStart => exact ⟨0, by omega, hI⟩
  case round =>
    clear hI
    obtain ⟨j, hj, hI⟩ := hrel
    obtain ⟨ad, cap, hv, hcap, hnn, hpos⟩ := hI.own.reads
    have hlen : (128#8 :: List.replicate j (0 : BitVec 8)).length = j + 1 := by simp
    rw [hlen] at hv hcap
    subst hv
    have HI : Hid (RpInv w (128#8 :: List.replicate j 0) (.slice ad (j + 1) cap) wr) := hI
    clear hI hpos hnn hlen hcap
    by_cases hlt : j < k
    · have ht : ((IntKind.u64.wrap ((n : Int) + ((j : Int) + 1))).tmod 64 != 56) = true := by
        rw [IntKind.wrap_u64, Int.tmod_eq_emod_of_nonneg (by omega), bne_iff_ne]; have := HK.out; omega
      go_wp2_with (at_builtin; refine wpList_appendB rfl (.tmp 16) (.tmp 17) rfl w.heap.size _ (128#8 :: List.replicate j 0) rfl (HI.out.own.below ((Below.refl _ _).alloc (Nat.le_refl _) _) (Nat.le_refl _)) _ [0] rfl (reads_val wr 0 0 rfl) (by simp; omega) (by have := HI.out.bel.size; simp; omega) ?_; intro v2 w2 hown2 hb2 _)
      have hJ : RpInv w (128#8 :: List.replicate (j + 1) 0) v2 w2 := ⟨by rw [List.cons_append, ← List.replicate_succ'] at hown2; exact hown2, HI.out.bel.trans (((Below.refl _ _).alloc HI.out.bel.size _).trans hb2)⟩
      clear hown2 hb2 HI
      obtain ⟨ad2, cap2, hv2, _, _, _⟩ := hJ.own.reads
      simp at hv2
      subst hv2
      go_wp2
      go_roundw
      case rel => exact ⟨j + 1, by omega, hJ⟩
      case measure => simp [sliceLen]; omega
    · have hjk : j = k := by omega
      subst hjk
      have ht : ((IntKind.u64.wrap ((n : Int) + ((j : Int) + 1))).tmod 64 != 56) = false := by
        rw [IntKind.wrap_u64, Int.tmod_eq_emod_of_nonneg (by omega), bne_eq_false_iff_eq]; have := HK.out; omega
      clear hlt hj
      go_wp2
      go_loopw [3, 5] (fun v i wr => ∃ q : Nat, q ≤ 8 ∧ i = .int .i64 q ∧ RpInv w (128#8 :: List.replicate j 0 ++ tl8 B q) v wr) (fun _ i _ => 8 - (intOf i).toNat)
      case atStart => exact ⟨0, by omega, rfl, by simpa [tl8] using HI.out⟩
      case round =>
        clear HI
        obtain ⟨q, hq, rfl, hI⟩ := hrel
        have HJ : Hid (j < 64) := hk
        have HI : Hid (RpInv w (128#8 :: List.replicate j 0 ++ tl8 B q) u3 wr) := hI
        clear hI
        by_cases hlt : q < 8
        · go_wp2_with (at_builtin; refine wpList_appendB rfl (.tmp 25) (.tmp 33) rfl w.heap.size _ (128#8 :: List.replicate j 0 ++ tl8 B q) rfl (HI.out.own.below ((Below.refl _ _).alloc (Nat.le_refl _) _) (Nat.le_refl _)) _ [BitVec.ofNat 8 (B / 2 ^ (56 - 8 * q))] rfl (reads_val wr _ _ ?_) (by have := HJ.out; simp [tl8]; omega) (by have := HI.out.bel.size; simp; omega) ?_; simp; intro v2 w2 hown2 hb2 _)
          have hJ : RpInv w (128#8 :: List.replicate j 0 ++ tl8 B (q + 1)) v2 w2 := ⟨by rw [List.append_assoc] at hown2; unfold tl8 at hown2 ⊢; rw [List.range_succ, List.map_append]; exact hown2, HI.out.bel.trans (((Below.refl _ _).alloc HI.out.bel.size _).trans hb2)⟩
          clear hown2 hb2 HI
          go_wp2
          go_roundw
          case rel => exact ⟨q + 1, by omega, by go_num, hJ⟩
          case measure => simp [intOf]; omega
        · have hq8 : q = 8 := by omega
          subst hq8
          have HR : Hid (Reads wr u3 (pad n)) := by show Reads _ _ _; rw [HP.out]; exact HI.out.own.reads
          have hbel := HI.out.bel
          clear HI
          go_wp2
          go_ret
          exact ⟨_, rfl, HR.out, hbel⟩
end Go.Proofs.YtmkjcgjbhibnpaaDoor
/- The walk of blazonref01.Same: are two texts the same? -/
namespace Go.Proofs.YtmkjcgjbhibnpaaDoor
open Go.RowKit
set_option maxRecDepth 100000
def strB (l : List (BitVec 8)) : ByteArray := strOfNums (l.map fun b => (b.toNat : Int))
theorem conv_reads {w : World} {v : Value} {l : List (BitVec 8)} (h : Reads w v l) : (convert 22 9 v).run Tryd.prog w = .ok (.string (strB l)) w := by
  obtain ⟨ad, cap, rfl, hcap, hnn, hpos⟩ := h
  have key : ∀ a : Addr, ad = some a → (loadCells a l.length).run Tryd.prog w = .ok ((l.map fun b => (b.toNat : Int)).map (Value.int .u8)).toArray w := by
    intro a ha
    have hh := run_loadCells_list (P := Tryd.prog) w a ((l.map fun b => (b.toNat : Int)).map (Value.int .u8)) (fun j u hj => by
      have hjl : j < l.length := by have := (List.getElem?_eq_some_iff.1 hj).1; simpa using this
      obtain ⟨b, off, h1, h2⟩ := hpos (by omega)
      rw [ha] at h1
      cases h1
      rw [Addr.add_mid, h2 j hjl, ← hj]
      simp [hjl])
    simpa using hh
  rw [run_convert_bytes_string w 22 9 5 _ _ _ Tryd.underlying22 Tryd.underlying5 Tryd.underlying9]
  cases ad with
  | some a =>
    rw [run_bytesToString w a l.length cap _ (key a rfl), foldl_push_bytes]
    simp [strB, strOfNums]
  | none =>
    have h0 : l = [] := by
      cases l with
      | nil => rfl
      | cons b r => obtain ⟨b, off, h1, _⟩ := hpos (by simp); cases h1
    subst h0
    simp [Conv.bytesToString, strB, strOfNums]
    rfl
theorem strB_inj (a b : List (BitVec 8)) : ((strB a).toList == (strB b).toList) = decide (a = b) := by
  rw [ByteArray.toList_eq, ByteArray.toList_eq]
  unfold strB
  rw [strOfNums_data, strOfNums_data, List.map_map, List.map_map]
  by_cases h : a = b
  · subst h; simp
  · have hinj : ∀ x y : BitVec 8, UInt8.ofNat ((x.toNat : Int)).toNat = UInt8.ofNat ((y.toNat : Int)).toNat → x = y := by
      intro x y hxy
      have h2 := congrArg UInt8.toNat hxy
      have hx := x.isLt
      have hy := y.isLt
      simp at h2
      exact BitVec.eq_of_toNat_eq (by omega)
    have hne : ∀ a b : List (BitVec 8), a.map ((fun n : Int => UInt8.ofNat n.toNat) ∘ fun b => (b.toNat : Int)) = b.map ((fun n : Int => UInt8.ofNat n.toNat) ∘ fun b => (b.toNat : Int)) → a = b := by
      intro a
      induction a with
      | nil => intro b hb; cases b with
        | nil => rfl
        | cons y b => simp at hb
      | cons x a ih => intro b hb; cases b with
        | nil => simp at hb
        | cons y b =>
          rw [List.map_cons, List.map_cons, List.cons.injEq] at hb
          rw [hinj x y hb.1, ih b hb.2]
    rw [decide_eq_false h, beq_eq_false_iff_ne]
    exact fun he => h (hne a b he)
end Go.Proofs.YtmkjcgjbhibnpaaDoor
/- Keyed digests, as the chapter has them, on lists of bytes. No program is named here. -/
namespace Go.Proofs.YtmkjcgjbhibnpaaDoor
open Go.RowKit
set_option maxRecDepth 100000
theorem len_dig' (bs : List (BitVec 8)) : (dig bs).length = 32 := by unfold dig; exact len_outB _ _
/-- the key's block: the key, or its digest if it has more than 64 bytes, with noughts behind -/
def kcut (key : List (BitVec 8)) : List (BitVec 8) := if 64 < key.length then dig key else key
def kpad (k : List (BitVec 8)) : List (BitVec 8) := k ++ List.replicate (64 - k.length) 0
def kblock (key : List (BitVec 8)) : List (BitVec 8) := kpad (kcut key)
def turnB (t : BitVec 8) (l : List (BitVec 8)) : List (BitVec 8) := l.map fun b => b ^^^ t
def hmac (key m : List (BitVec 8)) : List (BitVec 8) := dig (turnB 92 (kblock key) ++ dig (turnB 54 (kblock key) ++ m))
theorem len_kcut (key : List (BitVec 8)) : (kcut key).length ≤ 64 := by
  unfold kcut
  split
  · rw [len_dig']; omega
  · omega
theorem len_kpad (k : List (BitVec 8)) (h : k.length ≤ 64) : (kpad k).length = 64 := by simp [kpad]; omega
theorem len_kblock (key : List (BitVec 8)) : (kblock key).length = 64 := len_kpad _ (len_kcut key)
theorem len_turnB (t : BitVec 8) (l : List (BitVec 8)) : (turnB t l).length = l.length := by simp [turnB]
theorem len_hmac (key m : List (BitVec 8)) : (hmac key m).length = 32 := len_dig' _
theorem kblock_long {key : List (BitVec 8)} (h : 64 < key.length) : kblock key = kpad (dig key) := by simp [kblock, kcut, h]
theorem kblock_short {key : List (BitVec 8)} (h : ¬ 64 < key.length) : kblock key = kpad key := by simp [kblock, kcut, h]
theorem splice_kpad (k : List (BitVec 8)) : splice (cb zb64) 0 (cb k) = cb (kpad k) := by
  simp only [splice, kpad, cb, zb64, List.take_zero, List.nil_append, List.map_append, List.map_replicate, List.length_map, Nat.zero_add, List.drop_replicate]
/-- the first i bytes turned, the others as they are -/
def turnI (t : BitVec 8) (l : List (BitVec 8)) (i : Nat) : List (BitVec 8) := turnB t (l.take i) ++ l.drop i
theorem turnI_zero (t : BitVec 8) (l : List (BitVec 8)) : turnI t l 0 = l := by simp [turnI, turnB]
theorem turnI_all (t : BitVec 8) (l : List (BitVec 8)) (i : Nat) (h : l.length ≤ i) : turnI t l i = turnB t l := by simp [turnI, turnB, List.take_of_length_le h, List.drop_of_length_le h]
theorem len_turnI (t : BitVec 8) (l : List (BitVec 8)) (i : Nat) : (turnI t l i).length = l.length := by simp [turnI, turnB]; omega
theorem turnI_get (t : BitVec 8) (l : List (BitVec 8)) (i : Nat) (h : i < l.length) : (turnI t l i).getD i 0 = l.getD i 0 := by
  rw [turnI, List.getD_eq_getElem?_getD, List.getElem?_append_right (by simp [turnB]; omega)]
  simp [turnB, Nat.min_eq_left (Nat.le_of_lt h)]
theorem turnI_set (t : BitVec 8) (l : List (BitVec 8)) (i : Nat) (h : i < l.length) : (turnI t l i).set i (l.getD i 0 ^^^ t) = turnI t l (i + 1) := by
  have e : (turnB t (l.take i)).length = i := by simp [turnB]; omega
  rw [turnI, List.set_append_right _ _ (by omega), e, Nat.sub_self, List.drop_eq_getElem_cons h, List.set_cons_zero, turnI, List.take_add_one, List.getElem?_eq_getElem h, show l.getD i 0 = l[i] by simp [h]]
  simp only [turnB, Option.toList_some, List.map_append, List.map_cons, List.map_nil, List.append_assoc, List.cons_append, List.nil_append]
theorem xor_byte (x t : BitVec 8) : bits .xor .u8 (x.toNat : Int) (t.toNat : Int) = ((x ^^^ t).toNat : Int) := by
  show IntKind.u8.wrap ((BitVec.ofInt 8 (x.toNat : Int) ^^^ BitVec.ofInt 8 (t.toNat : Int)).toNat : Int) = _
  have e : ∀ y : BitVec 8, BitVec.ofInt 8 (y.toNat : Int) = y := fun y => by apply BitVec.eq_of_toNat_eq; simp
  rw [e, e]
  have := (x ^^^ t).isLt
  rw [IntKind.wrap_u8]; omega
end Go.Proofs.YtmkjcgjbhibnpaaDoor
/- The walk of blazonref01.words: the same 64 words that sha.spread makes. -/
namespace Go.Proofs.YtmkjcgjbhibnpaaDoor
open Go.RowKit
set_option maxRecDepth 100000
def rw1 (b : List (BitVec 8)) : Nat → List (BitVec 32)
  | 0 => z64
  | i + 1 => (rw1 b i).set (i / 4) ((rw1 b i).getD (i / 4) 0 * 256 + (b.getD i 0).setWidth 32)
theorem len_rw1 (b : List (BitVec 8)) (k : Nat) : (rw1 b k).length = 64 := by
  induction k with
  | zero => rfl
  | succ k ih => simp [rw1, ih]
theorem word_sum (b0 b1 b2 b3 : BitVec 8) : ((((0 : BitVec 32) * (256 : BitVec 32) + b0.setWidth 32) * (256 : BitVec 32) + b1.setWidth 32) * (256 : BitVec 32) + b2.setWidth 32) * (256 : BitVec 32) + b3.setWidth 32 =
    b0.setWidth 32 <<< 24 ||| b1.setWidth 32 <<< 16 ||| b2.setWidth 32 <<< 8 ||| b3.setWidth 32 := by
  apply BitVec.eq_of_toNat_eq
  have h0 := b0.isLt
  have h1 := b1.isLt
  have h2 := b2.isLt
  have h3 := b3.isLt
  have o1 := Nat.two_pow_add_eq_or_of_lt (i := 24) (b := b1.toNat * 65536) (by omega) b0.toNat
  have o2 := Nat.two_pow_add_eq_or_of_lt (i := 16) (b := b2.toNat * 256) (by omega) (b0.toNat * 256 + b1.toNat)
  have o3 := Nat.two_pow_add_eq_or_of_lt (i := 8) (b := b3.toNat) (by omega) (b0.toNat * 65536 + b1.toNat * 256 + b2.toNat)
  have e0 : (b0.setWidth 32 <<< 24).toNat = 2 ^ 24 * b0.toNat := by simp [BitVec.toNat_shiftLeft, Nat.shiftLeft_eq]; omega
  have e1 : (b1.setWidth 32 <<< 16).toNat = b1.toNat * 65536 := by simp [BitVec.toNat_shiftLeft, Nat.shiftLeft_eq]; omega
  have e2 : (b2.setWidth 32 <<< 8).toNat = b2.toNat * 256 := by simp [BitVec.toNat_shiftLeft, Nat.shiftLeft_eq]; omega
  have e3 : (b3.setWidth 32).toNat = b3.toNat := by simp; omega
  rw [BitVec.toNat_or, BitVec.toNat_or, BitVec.toNat_or, e0, e1, e2, e3, ← o1,
    show 2 ^ 24 * b0.toNat + b1.toNat * 65536 = 2 ^ 16 * (b0.toNat * 256 + b1.toNat) by omega, ← o2,
    show 2 ^ 16 * (b0.toNat * 256 + b1.toNat) + b2.toNat * 256 = 2 ^ 8 * (b0.toNat * 65536 + b1.toNat * 256 + b2.toNat) by omega, ← o3]
  simp [BitVec.toNat_add, BitVec.toNat_mul]
  omega
theorem sched1_rest (b : List (BitVec 8)) (t j : Nat) (h : t ≤ j) : (sched1 b t).getD j 0 = 0 := by
  induction t with
  | zero => rw [sched1, List.getD_eq_getElem?_getD, List.getElem?_replicate]; split <;> rfl
  | succ t ih =>
    rw [sched1, List.getD_eq_getElem?_getD, List.getElem?_set_ne (by omega), ← List.getD_eq_getElem?_getD]
    exact ih (by omega)
theorem getD_set_self (l : List (BitVec 32)) (i : Nat) (v : BitVec 32) (h : i < l.length) : (l.set i v).getD i 0 = v := by simp [h]
theorem rw1_eq (b : List (BitVec 8)) (t : Nat) (ht : t ≤ 16) : rw1 b (4 * t) = sched1 b t := by
  induction t with
  | zero => rfl
  | succ t ih =>
    have h0 := ih (by omega)
    have hl : t < (sched1 b t).length := by rw [len_sched1]; omega
    have hz := sched1_rest b t t (Nat.le_refl _)
    have s1 : rw1 b (4 * t + 1) = (sched1 b t).set t (0 * 256 + (b.getD (4 * t) 0).setWidth 32) := by
      rw [rw1, h0, show 4 * t / 4 = t by omega, hz]
    have s2 : rw1 b (4 * t + 2) = (sched1 b t).set t ((0 * 256 + (b.getD (4 * t) 0).setWidth 32) * 256 + (b.getD (4 * t + 1) 0).setWidth 32) := by
      rw [rw1, s1, show (4 * t + 1) / 4 = t by omega, getD_set_self _ _ _ hl, List.set_set]
    have s3 : rw1 b (4 * t + 3) = (sched1 b t).set t (((0 * 256 + (b.getD (4 * t) 0).setWidth 32) * 256 + (b.getD (4 * t + 1) 0).setWidth 32) * 256 + (b.getD (4 * t + 2) 0).setWidth 32) := by
      rw [rw1, s2, show (4 * t + 2) / 4 = t by omega, getD_set_self _ _ _ hl, List.set_set]
    rw [show 4 * (t + 1) = 4 * t + 3 + 1 by omega, rw1, s3, show (4 * t + 3) / 4 = t by omega, getD_set_self _ _ _ hl, List.set_set, word_sum]
    rfl
theorem byte_sum (y : BitVec 32) (x : BitVec 8) : (y.toNat : Int) * 256 % 4294967296 + (x.toNat : Int) = ((y * 256 + x.setWidth 32).toNat : Int) := by
  have := x.isLt
  simp [BitVec.toNat_add, BitVec.toNat_mul]
  omega
structure RwInv (w : World) (l : List (BitVec 32)) (wr : World) : Prop where
  res : Blk wr w.heap.size (cw z64) 74
  wds : Blk wr (w.heap.size + 1) (cw l) 74
  bel : Below w.heap.size w wr
theorem RwInv.store {w wr : World} {l : List (BitVec 32)} (h : RwInv w l wr) (k : Nat) (v : BitVec 32) :
    RwInv w (l.set k v) ((wr.setCell ⟨w.heap.size + 1, k, none⟩ (.int .u32 (v.toNat : Int))).drew) :=
  ⟨(h.res.other _ _ (by simp)).drew, by have := (h.wds.set k (.int .u32 (v.toNat : Int))).drew; rw [cw_set] at this; exact this, (h.bel.setCell (by simp) _).drew⟩
theorem RwInv.drewN {w wr : World} {l : List (BitVec 32)} (h : RwInv w l wr) (n : Nat) : RwInv w l (wr.drewN n) := ⟨h.res, h.wds, ⟨h.bel.os, h.bel.tape, h.bel.output, h.bel.size, h.bel.block⟩⟩
theorem RwInv.at {w wr : World} {l : List (BitVec 32)} (h : RwInv w l wr) (j : Nat) (hj : j < l.length) : wr.cell? ⟨w.heap.size + 1, j, none⟩ = some (.int .u32 ((l.getD j 0).toNat : Int)) := by
  rw [h.wds.cell, cw_get l j hj]
set_option maxRecDepth 100000 in
set_option maxHeartbeats 1000000 in
theorem rwords_any (b : List (BitVec 8)) (v : Value) (w : World) (hb : b.length = 64) (hR : Reads w v b) :
    Calls Tryd.prog 45 #[v] w fun e w' => e = .returned (.agg (cw (sched2 b 48)).toArray) ∧ Below w.heap.size w w' := by
  obtain ⟨ad, cap, rfl, hcap, _, hpos⟩ := hR
  obtain ⟨bb, off, rfl, hsrc⟩ := hpos (by omega)
  rw [hb] at hcap hsrc ⊢
  have HS : Hid (∀ wr, Below w.heap.size w wr → ∀ j, j < 64 → wr.cell? ⟨bb, off + j, none⟩ = some (.int .u8 ((b.getD j 0).toNat : Int))) := by
    intro wr hbl j hj
    rw [hbl.cell (p := ⟨bb, off + j, none⟩) (block_lt_of_cell (hsrc j hj))]; exact hsrc j hj
  clear hpos hsrc
  go_enter Tryd.func45, Tryd.ntmps45
  go_wp2
  go_loopw [4] (fun i wr => ∃ k : Nat, k ≤ 64 ∧ i = .int .i64 k ∧ RwInv w (rw1 b k) wr) (fun i _ => 64 - (intOf i).toNat)
  case atStart =>
    refine ⟨0, by omega, rfl, ?_, ?_, ?_⟩
    · exact (Blk.new w (cw z64) 74).alloc _
    · exact Blk.new_at (w := w.alloc (.cells (cw z64).toArray 74)) (by simp) (cw z64) 74
    · exact ((Below.refl _ _).alloc (Nat.le_refl _) _).alloc (by simp) _
  case round =>
    obtain ⟨k, hk, rfl, hI⟩ := hrel
    by_cases hlt : k < 64
    · obtain ⟨x, HX⟩ : ∃ x, Hid (x = b.getD k 0) := ⟨_, rfl⟩
      obtain ⟨y, HY⟩ : ∃ y, Hid (y = (rw1 b k).getD (k / 4) 0) := ⟨_, rfl⟩
      have cx : wr.cell? ⟨bb, off + k, none⟩ = some (.int .u8 (x.toNat : Int)) := by rw [HX.out]; exact HS.out wr hI.bel k hlt
      have cy : wr.cell? ⟨w.heap.size + 1, k / 4, none⟩ = some (.int .u32 (y.toNat : Int)) := by rw [HY.out]; exact hI.at _ (by rw [len_rw1]; omega)
      have fy : wr.frozen? ⟨w.heap.size + 1, k / 4, none⟩ = false := hI.wds.frozen _
      have gx : (x.toNat : Int) < 256 := by have := x.isLt; omega
      go_wp2
      go_region
      go_wp2
      go_roundw
      case rel =>
        refine ⟨k + 1, by omega, by go_num, ?_⟩
        have := hI.store (k / 4) (y * 256 + x.setWidth 32)
        rw [← byte_sum] at this
        rw [rw1, ← HX.out, ← HY.out]
        exact this
      case measure => simp [intOf]; omega
    · have hk64 : k = 64 := by omega
      subst hk64
      rw [show (64 : Nat) = 4 * 16 from rfl, rw1_eq b 16 (Nat.le_refl _)] at hI
      go_wp2
      go_loopw [5] (fun i wr => ∃ k : Nat, k ≤ 48 ∧ i = .int .i64 ((k : Int) + 16) ∧ RwInv w (sched2 b k) wr) (fun i _ => 64 - (intOf i).toNat)
      case atStart => exact ⟨0, by omega, rfl, hI⟩
      case round =>
        clear hI hlt hk HS
        obtain ⟨k, hk, rfl, hI⟩ := hrel
        by_cases hlt : k < 48
        · obtain ⟨x0, H0⟩ : ∃ x, Hid (x = (sched2 b k).getD k 0) := ⟨_, rfl⟩
          obtain ⟨x1, H1⟩ : ∃ x, Hid (x = (sched2 b k).getD (k + 1) 0) := ⟨_, rfl⟩
          obtain ⟨x9, H9⟩ : ∃ x, Hid (x = (sched2 b k).getD (k + 9) 0) := ⟨_, rfl⟩
          obtain ⟨x14, H14⟩ : ∃ x, Hid (x = (sched2 b k).getD (k + 14) 0) := ⟨_, rfl⟩
          have HC : Hid (∀ wx, RwInv w (sched2 b k) wx → wx.cell? ⟨w.heap.size + 1, k, none⟩ = some (.int .u32 (x0.toNat : Int)) ∧ wx.cell? ⟨w.heap.size + 1, k + 1, none⟩ = some (.int .u32 (x1.toNat : Int)) ∧
              wx.cell? ⟨w.heap.size + 1, k + 9, none⟩ = some (.int .u32 (x9.toNat : Int)) ∧ wx.cell? ⟨w.heap.size + 1, k + 14, none⟩ = some (.int .u32 (x14.toNat : Int)) ∧
              (∃ o, wx.cell? ⟨w.heap.size + 1, k + 16, none⟩ = some o) ∧ wx.frozen? ⟨w.heap.size + 1, k + 16, none⟩ = false) := by
            intro wx hx
            have hl := len_sched2 b k
            rw [H0.out, H1.out, H9.out, H14.out]
            exact ⟨hx.at _ (by omega), hx.at _ (by omega), hx.at _ (by omega), hx.at _ (by omega), ⟨_, hx.at _ (by omega)⟩, hx.wds.frozen _⟩
          obtain ⟨c0, c1, c9, c14, ⟨o, cT⟩, fT⟩ := HC.out wr hI
          go_wp2
          go_quiet ((go_at_call 47; exact Calls.quiet_of_same (turn_any _ _ _ (by omega) (by omega))))
          have hI2 := hI.drewN nq
          clear hI c0 c1 c9 c14 cT fT
          generalize wr.drewN nq = wq at *
          obtain ⟨c0, c1, c9, c14, ⟨o, cT⟩, fT⟩ := HC.out wq hI2
          go_wp2
          go_quiet ((go_at_call 47; exact Calls.quiet_of_same (turn_any _ _ _ (by omega) (by omega))))
          have hI := hI2.drewN nq
          clear hI2 c0 c1 c9 c14 cT fT
          generalize wq.drewN nq = wp at *
          obtain ⟨c0, c1, c9, c14, ⟨o, cT⟩, fT⟩ := HC.out wp hI
          go_wp2
          go_region
          go_wp2
          go_roundw
          case rel =>
            refine ⟨k + 1, by omega, by go_num, ?_⟩
            have := hI.store (k + 16) (x0 + sig0 x1 + x9 + sig1 x14)
            rw [← u32_add4, ← sig0_eq, ← sig1_eq] at this
            rw [sched2, ← H0.out, ← H1.out, ← H9.out, ← H14.out]
            exact this
          case measure => simp [intOf]; omega
        · have hk48 : k = 48 := by omega
          subst hk48
          obtain ⟨cs, HCS⟩ : ∃ x, Hid (x = cw (sched2 b 48)) := ⟨_, rfl⟩
          have HL : Hid (cs.length = 64) := by show _ = _; rw [HCS.out, cw_len, len_sched2]
          have HZ : Hid ((Tryd.prog.info? 74).map (·.size) = some cs.length) := by show _ = _; rw [HL.out]; exact Tryd.info74
          have H1 : Hid (∀ v ∈ cs, v.oneCell' = true) := by show ∀ _, _; rw [HCS.out]; exact cw_one _
          have HW : Hid (Blk wr (w.heap.size + 1) cs 74) := by show Blk _ _ _ _; rw [HCS.out]; exact hI.wds
          have HR : Hid (Blk wr w.heap.size (cw z64) 74) := hI.res
          have hbel := hI.bel
          clear hI
          go_wp2_with (first
            | (refine wpList_load_mid rfl 74 _ rfl (w.heap.size + 1) 0 rfl cs _ HW.out.range Tryd.underlying74 rfl HZ.out ?_)
            | (refine wpList_store_mid rfl 74 _ _ rfl w.heap.size 0 cs.toArray rfl rfl (HR.out.there 0 _ (by rw [List.size_toArray, HL.out, cw_len, len_z64]; omega)) (by simpa using HZ.out) (all_oneCell_toArray H1.out) ?_))
          have hB := HR.out.whole cs (by rw [HL.out, cw_len, len_z64])
          refine bodyPost_ret (v := .agg cs.toArray) (results_cell_row (by rfl) _ _ w.heap.size 74 _ (0, 0) _ rfl hB Tryd.underlying74 rfl (by simpa using HZ.out)) rfl ⟨by rw [HCS.out], Below.setCells _ (Nat.le_refl _) _ _ _ hbel⟩
end Go.Proofs.YtmkjcgjbhibnpaaDoor
/- The walks of blazonref01.first, round and block: the same eight words that sha.mix makes. -/
namespace Go.Proofs.YtmkjcgjbhibnpaaDoor
open Go.RowKit
set_option maxRecDepth 100000
set_option maxHeartbeats 400000 in
theorem rfirst_any (w : World) : Calls Tryd.prog 38 #[] w fun e w' => e = .returned (.agg (cw st0.l).toArray) ∧ Below w.heap.size w w' := by
  go_enter Tryd.func38, Tryd.ntmps38
  go_wp2_with (first
    | (refine wpList_build8 rfl 62 _ _ _ _ _ _ _ _ rfl _ _ _ _ _ _ _ _ rfl rfl rfl rfl rfl rfl rfl rfl (built8 _ _ _ _ _ _ _ _) ?_)
    | (refine wpList_store8 rfl 62 _ _ rfl _ _ _ _ _ _ _ _ _ rfl rfl ((Blk.new w (cw z8) 62).there 0 8 (by simp [cw_len, len_z8])) Tryd.info62 ?_))
  have hB := (Blk.new w (cw z8) 62).whole [Value.int .u32 1779033703, Value.int .u32 3144134277, Value.int .u32 1013904242, Value.int .u32 2773480762, Value.int .u32 1359893119, Value.int .u32 2600822924, Value.int .u32 528734635, Value.int .u32 1541459225] (by rw [cw_len, len_z8]; rfl)
  refine bodyPost_ret (v := .agg #[Value.int .u32 1779033703, Value.int .u32 3144134277, Value.int .u32 1013904242, Value.int .u32 2773480762, Value.int .u32 1359893119, Value.int .u32 2600822924, Value.int .u32 528734635, Value.int .u32 1541459225]) (results_cell_row (by rfl) _ _ w.heap.size 62 _ (0, 0) _ rfl hB Tryd.underlying62 rfl Tryd.info62) rfl ⟨by rw [← st0_cells], Below.setCells _ (Nat.le_refl _) _ _ _ ((Below.refl _ _).alloc (Nat.le_refl _) _)⟩
def kcs : List Value := cw kw
theorem len_kcs : kcs.length = 64 := rfl
theorem one_kcs : ∀ v ∈ kcs, v.oneCell' = true := cw_one _
theorem kcs_get (j : Nat) (h : j < 64) : kcs[j]? = some (.int .u32 ((kw.getD j 0).toNat : Int)) := cw_get kw j h
set_option maxRecDepth 100000 in
set_option maxHeartbeats 400000 in
theorem rround_any (w : World) : Calls Tryd.prog 46 #[] w fun e w' => e = .returned (.agg kcs.toArray) ∧ Below w.heap.size w w' := by
  have HZ : Hid ((Tryd.prog.info? 74).map (·.size) = some kcs.length) := Tryd.info74
  go_enter Tryd.func46, Tryd.ntmps46
  go_wp2_with (first
    | (refine wpList_buildc rfl 74 _ rfl kcs.toArray (fun _ => by kernel_rfl) ?_)
    | (refine wpList_store_mid rfl 74 _ _ rfl w.heap.size 0 kcs.toArray rfl rfl ((Blk.new w (cw z64) 74).there 0 _ (by rw [List.size_toArray, len_kcs, cw_len, len_z64]; omega)) (by simpa using HZ.out) (all_oneCell_toArray one_kcs) ?_))
  have hB := (Blk.new w (cw z64) 74).whole kcs (by rw [len_kcs, cw_len, len_z64])
  refine bodyPost_ret (v := .agg kcs.toArray) (results_cell_row (by rfl) _ _ w.heap.size 74 _ (0, 0) _ rfl hB Tryd.underlying74 rfl (by simpa using HZ.out)) rfl ⟨rfl, Below.setCells _ (Nat.le_refl _) _ _ _ ((Below.refl _ _).alloc (Nat.le_refl _) _)⟩
/-- behind the words: the eight words' box, the result, the block's words -/
structure Rb1 (w : World) (s : St) (ws : List (BitVec 32)) (g5 : Nat) (wr : World) : Prop where
  box : Blk wr w.heap.size (cw s.l) 62
  res : Blk wr (w.heap.size + 1) (cw z8) 62
  sch : Blk wr g5 (cw ws) 74
  bel : Below w.heap.size w wr
  lt5 : w.heap.size + 1 < g5
theorem Rb1.start {w w1 : World} {s : St} {ws : List (BitVec 32)} (hl : ws.length = 64)
    (h : Below (w.heap.size + 1 + 1) ((w.alloc (.cells (cw s.l).toArray 62)).alloc (.cells (cw z8).toArray 62)) w1) :
    Rb1 w s ws w1.heap.size ((w1.alloc (.cells (cw z64).toArray 74)).setCells w1.heap.size 0 (cw ws)) := by
  have h1 := h.size
  simp at h1
  have b0 : Below w.heap.size w ((w.alloc (.cells (cw s.l).toArray 62)).alloc (.cells (cw z8).toArray 62)) := ((Below.refl _ _).alloc (Nat.le_refl _) _).alloc (by simp) _
  have b1 : Below w.heap.size w w1 := b0.trans (h.mono (by omega))
  refine ⟨?_, ?_, ?_, Below.setCells _ (by omega) _ _ _ (b1.alloc (by omega) _), by omega⟩
  · exact Blk.others _ _ _ _ ((Blk.below ((Blk.new w (cw s.l) _).alloc _) h (by omega)).alloc _) (by omega)
  · exact Blk.others _ _ _ _ ((Blk.below (Blk.new_at (by simp) (cw z8) _) h (by omega)).alloc _) (by omega)
  · exact (Blk.new w1 _ _).whole _ (by simp [cw_len, hl, len_z64])
theorem Rb1.below {w w1 w2 : World} {s : St} {ws : List (BitVec 32)} {g5 : Nat} (h : Rb1 w s ws g5 w1) (hb : Below w1.heap.size w1 w2) : Rb1 w s ws g5 w2 :=
  ⟨h.box.below hb h.box.lt, h.res.below hb h.res.lt, h.sch.below hb h.sch.lt, h.bel.trans (hb.mono h.bel.size), h.lt5⟩
/-- and the rounds' words -/
structure Rb2 (w : World) (s : St) (ws : List (BitVec 32)) (g5 g6 : Nat) (wr : World) : Prop where
  one : Rb1 w s ws g5 wr
  kks : Blk wr g6 kcs 74
  lt6 : g5 < g6
theorem Rb2.start {w w1 w2 : World} {s : St} {ws : List (BitVec 32)} {g5 : Nat} (h : Rb1 w s ws g5 w1) (hb : Below w1.heap.size w1 w2) :
    Rb2 w s ws g5 w2.heap.size ((w2.alloc (.cells (cw z64).toArray 74)).setCells w2.heap.size 0 kcs) := by
  have h2 := h.below hb
  have hlt := h2.sch.lt
  refine ⟨⟨?_, ?_, ?_, Below.setCells _ h2.bel.size _ _ _ (h2.bel.alloc h2.bel.size _), h2.lt5⟩, (Blk.new w2 _ _).whole _ (by rw [cw_len, len_z64, len_kcs]), hlt⟩
  · exact Blk.others _ _ _ _ (h2.box.alloc _) (by have := h2.box.lt; omega)
  · exact Blk.others _ _ _ _ (h2.res.alloc _) (by have := h2.res.lt; omega)
  · exact Blk.others _ _ _ _ (h2.sch.alloc _) (by omega)
/-- and the state -/
structure Rb3 (w : World) (s : St) (ws : List (BitVec 32)) (g5 g6 g7 : Nat) (q : St) (wr : World) : Prop where
  two : Rb2 w s ws g5 g6 wr
  stt : Blk wr g7 (cw q.l) 62
  lt7 : g6 < g7
theorem Rb3.start {w w1 : World} {s : St} {ws : List (BitVec 32)} {g5 g6 : Nat} (h : Rb2 w s ws g5 g6 w1) :
    Rb3 w s ws g5 g6 w1.heap.size s ((w1.alloc (.cells (cw z8).toArray 62)).setCells w1.heap.size 0 (cw s.l)) := by
  have hlt := h.kks.lt
  refine ⟨⟨⟨?_, ?_, ?_, Below.setCells _ h.one.bel.size _ _ _ (h.one.bel.alloc h.one.bel.size _), h.one.lt5⟩, ?_, h.lt6⟩, (Blk.new w1 _ _).whole _ rfl, hlt⟩
  · exact Blk.others _ _ _ _ (h.one.box.alloc _) (by have := h.one.box.lt; omega)
  · exact Blk.others _ _ _ _ (h.one.res.alloc _) (by have := h.one.res.lt; omega)
  · exact Blk.others _ _ _ _ (h.one.sch.alloc _) (by have := h.one.sch.lt; omega)
  · exact Blk.others _ _ _ _ (h.kks.alloc _) (by omega)
theorem Rb3.drewN {w wr : World} {s q : St} {ws : List (BitVec 32)} {g5 g6 g7 : Nat} (h : Rb3 w s ws g5 g6 g7 q wr) (n : Nat) : Rb3 w s ws g5 g6 g7 q (wr.drewN n) :=
  ⟨⟨⟨h.two.one.box, h.two.one.res, h.two.one.sch, ⟨h.two.one.bel.os, h.two.one.bel.tape, h.two.one.bel.output, h.two.one.bel.size, h.two.one.bel.block⟩, h.two.one.lt5⟩, h.two.kks, h.two.lt6⟩, h.stt, h.lt7⟩
theorem Rb3.store {w wr : World} {s q : St} {ws : List (BitVec 32)} {g5 g6 g7 : Nat} (h : Rb3 w s ws g5 g6 g7 q wr) (q' : St) : Rb3 w s ws g5 g6 g7 q' (wr.setCells g7 0 (cw q'.l)) := by
  have h5 := h.two.one.lt5
  have h6 := h.two.lt6
  have h7 := h.lt7
  have hb := h.two.one.bel
  refine ⟨⟨⟨?_, ?_, ?_, Below.setCells _ (by omega) _ _ _ hb, h5⟩, ?_, h6⟩, h.stt.whole _ rfl, h7⟩
  · exact Blk.others _ _ _ _ h.two.one.box (by omega)
  · exact Blk.others _ _ _ _ h.two.one.res (by omega)
  · exact Blk.others _ _ _ _ h.two.one.sch (by omega)
  · exact Blk.others _ _ _ _ h.two.kks (by omega)
theorem Rb3.words {w wr : World} {s q : St} {ws : List (BitVec 32)} {g5 g6 g7 : Nat} (h : Rb3 w s ws g5 g6 g7 q wr) :
    wr.cell? ⟨g7, 0, none⟩ = some (.int .u32 (q.a.toNat : Int)) ∧ wr.cell? ⟨g7, 1, none⟩ = some (.int .u32 (q.b.toNat : Int)) ∧
    wr.cell? ⟨g7, 2, none⟩ = some (.int .u32 (q.c.toNat : Int)) ∧ wr.cell? ⟨g7, 3, none⟩ = some (.int .u32 (q.d.toNat : Int)) ∧
    wr.cell? ⟨g7, 4, none⟩ = some (.int .u32 (q.e.toNat : Int)) ∧ wr.cell? ⟨g7, 5, none⟩ = some (.int .u32 (q.f.toNat : Int)) ∧
    wr.cell? ⟨g7, 6, none⟩ = some (.int .u32 (q.g.toNat : Int)) ∧ wr.cell? ⟨g7, 7, none⟩ = some (.int .u32 (q.h.toNat : Int)) := by
  simp only [h.stt.cell]
  exact ⟨rfl, rfl, rfl, rfl, rfl, rfl, rfl, rfl⟩
theorem rnd_cells (q : St) (y x : BitVec 32) :
    [Value.int .u32 (((q.h.toNat : Int) + ((big1 q.e).toNat : Int) + ((cho q.e q.f q.g).toNat : Int) + (y.toNat : Int) + (x.toNat : Int) + ((big0 q.a).toNat : Int) + ((maj q.a q.b q.c).toNat : Int)) % 4294967296),
      Value.int .u32 (q.a.toNat : Int), Value.int .u32 (q.b.toNat : Int), Value.int .u32 (q.c.toNat : Int),
      Value.int .u32 (((q.d.toNat : Int) + ((q.h.toNat : Int) + ((big1 q.e).toNat : Int) + ((cho q.e q.f q.g).toNat : Int) + (y.toNat : Int) + (x.toNat : Int))) % 4294967296),
      Value.int .u32 (q.e.toNat : Int), Value.int .u32 (q.f.toNat : Int), Value.int .u32 (q.g.toNat : Int)] = cw (rnd q y x).l := by
  have e1 : ((q.h.toNat : Int) + ((big1 q.e).toNat : Int) + ((cho q.e q.f q.g).toNat : Int) + (y.toNat : Int) + (x.toNat : Int) + ((big0 q.a).toNat : Int) + ((maj q.a q.b q.c).toNat : Int)) % 4294967296 =
      ((q.h + big1 q.e + cho q.e q.f q.g + y + x + (big0 q.a + maj q.a q.b q.c)).toNat : Int) := by
    rw [← sum_a]; omega
  have e2 : ((q.d.toNat : Int) + ((q.h.toNat : Int) + ((big1 q.e).toNat : Int) + ((cho q.e q.f q.g).toNat : Int) + (y.toNat : Int) + (x.toNat : Int))) % 4294967296 =
      ((q.d + (q.h + big1 q.e + cho q.e q.f q.g + y + x)).toNat : Int) := by
    rw [← sum_e]; omega
  rw [e1, e2]; rfl
def plusL (s q : St) : Nat → List (BitVec 32)
  | 0 => s.l
  | k + 1 => (plusL s q k).set k ((plusL s q k).getD k 0 + q.l.getD k 0)
theorem len_plusL (s q : St) (k : Nat) : (plusL s q k).length = 8 := by
  induction k with
  | zero => rfl
  | succ k ih => simp [plusL, ih]
theorem plusL_eq (s q : St) : plusL s q 8 = (s.plus q).l := rfl
structure Rb4 (w : World) (s q : St) (g7 k : Nat) (wr : World) : Prop where
  box : Blk wr w.heap.size (cw (plusL s q k)) 62
  res : Blk wr (w.heap.size + 1) (cw z8) 62
  stt : Blk wr g7 (cw q.l) 62
  bel : Below w.heap.size w wr
  lt7 : w.heap.size + 1 < g7
theorem Rb4.start {w wr : World} {s q : St} {ws : List (BitVec 32)} {g5 g6 g7 : Nat} (h : Rb3 w s ws g5 g6 g7 q wr) : Rb4 w s q g7 0 wr :=
  ⟨h.two.one.box, h.two.one.res, h.stt, h.two.one.bel, by have := h.two.one.lt5; have := h.two.lt6; have := h.lt7; omega⟩
theorem Rb4.store {w wr : World} {s q : St} {g7 k' : Nat} (h : Rb4 w s q g7 k' wr) (k : Nat) (v : BitVec 32) (hv : v = (plusL s q k').getD k 0 + q.l.getD k 0) (hk : k = k' := by rfl) :
    Rb4 w s q g7 (k' + 1) ((wr.setCell ⟨w.heap.size, k, none⟩ (.int .u32 (v.toNat : Int))).drew) := by
  subst hk
  subst hv
  have h7 := h.lt7
  refine ⟨?_, (h.res.other _ _ (by simp)).drew, (h.stt.other _ _ (by simp; omega)).drew, (h.bel.setCell (by simp) _).drew, h7⟩
  have := (h.box.set k (.int .u32 (((plusL s q k).getD k 0 + q.l.getD k 0).toNat : Int))).drew
  rw [cw_set] at this
  exact this
set_option maxRecDepth 100000 in
set_option maxHeartbeats 1000000 in
theorem rblock_any (s : St) (b : List (BitVec 8)) (v : Value) (w : World) (hb : b.length = 64) (hR : Reads w v b) :
    Calls Tryd.prog 39 #[.agg (cw s.l).toArray, v] w fun e w' => e = .returned (.agg (cw (compress s b).l).toArray) ∧ Below w.heap.size w w' := by
  obtain ⟨r, HR⟩ : ∃ r, Hid (compress s b = r) := ⟨_, rfl⟩
  rw [HR.out]
  have HRd : Hid (Reads w v b) := hR
  have HN : Hid (b.length = 64) := hb
  clear hR hb
  go_enter Tryd.func39, Tryd.ntmps39
  go_wp2_with fail
  generalize h0 : Obj.cells #[.int .u32 0, _, _, _, _, _, _, _] 62 = o8
  have ho : o8 = Obj.cells (cw z8).toArray 62 := h0.symm
  clear h0
  subst ho
  refine (rwords_any b v _ HN.out (HRd.out.below (((Below.refl _ _).alloc (Nat.le_refl _) _).alloc (by simp) _))).mono ?_
  rintro e w1 ⟨rfl, hb1⟩
  have h2 := hb1.mono (B' := w.heap.size + 1 + 1) (by simp)
  clear hb1 HRd HN
  have HL : Hid ((sched2 b 48).length = 64) := len_sched2 b 48
  generalize hws : sched2 b 48 = ws at *
  have HW : Hid (sched2 b 48 = ws) := hws
  clear hws
  have HZ : Hid ((Tryd.prog.info? 74).map (·.size) = some (cw ws).length) := by rw [cw_len, HL.out]; exact Tryd.info74
  go_wp2_with (refine wpList_store_mid rfl 74 _ _ rfl _ 0 (cw ws).toArray rfl rfl ?_ (by simpa using HZ.out) (all_oneCell_toArray (cw_one _)) ?_; exact Blk.there (Blk.new_at rfl (cw z64) _) _ _ (by simp [cw_len, HL.out, len_z64]); refine Hid.out ?_)
  generalize h0 : Obj.cells _ 74 = o64
  have ho : o64 = Obj.cells (cw z64).toArray 74 := h0.symm
  clear h0
  subst ho
  have hI := Rb1.start (ws := ws) HL.out h2
  clear h2 HZ
  generalize World.setCells _ _ _ _ = w2 at *
  generalize w1.heap.size = g5 at *
  unfold Hid
  as_aux_lemma =>
    go_wp2_with fail
    refine (rround_any _).mono ?_
    rintro e w3 ⟨rfl, hb3⟩
    have HK : Hid ((Tryd.prog.info? 74).map (·.size) = some kcs.length) := Tryd.info74
    go_wp2_with (refine wpList_store_mid rfl 74 _ _ rfl _ 0 kcs.toArray rfl rfl ?_ (by simpa using HK.out) (all_oneCell_toArray one_kcs) ?_; exact Blk.there (Blk.new_at rfl (cw z64) _) _ _ (by rw [List.size_toArray, len_kcs, cw_len, len_z64]; omega); refine Hid.out ?_)
    generalize h0 : Obj.cells _ 74 = o64
    have ho : o64 = Obj.cells (cw z64).toArray 74 := h0.symm
    clear h0
    subst ho
    have hJ := Rb2.start hI hb3
    clear hI hb3 HK
    generalize World.setCells _ _ _ _ = w4 at *
    generalize w3.heap.size = g6 at *
    unfold Hid
    as_aux_lemma =>
      go_wp2_with (first
        | (refine wpList_load_mid rfl 62 _ rfl w.heap.size 0 rfl (cw s.l) _ hJ.one.box.range Tryd.underlying62 rfl Tryd.info62 ?_)
        | (refine wpList_store_mid rfl 62 _ _ rfl _ 0 (cw s.l).toArray rfl rfl ?_ Tryd.info62 (all_oneCell_toArray (cw_one _)) ?_; exact Blk.there (Blk.new_at rfl (cw z8) _) _ _ (Nat.le_refl 8); refine Hid.out ?_))
      generalize h0 : Obj.cells #[.int .u32 0, _, _, _, _, _, _, _] 62 = o8
      have ho : o8 = Obj.cells (cw z8).toArray 62 := h0.symm
      clear h0
      subst ho
      have hI := Rb3.start hJ
      clear hJ
      generalize World.setCells _ _ _ _ = w5 at *
      generalize w4.heap.size = g7 at *
      unfold Hid
      as_aux_lemma =>
        go_wp2
        go_loopw [8] (fun i wr => ∃ k : Nat, k ≤ 64 ∧ i = .int .i64 k ∧ Rb3 w s ws g5 g6 g7 (rounds ws s k) wr) (fun i _ => 64 - (intOf i).toNat)
        case atStart => exact ⟨0, by omega, rfl, hI⟩
        case round =>
          clear hI
          obtain ⟨k, hk, rfl, hI⟩ := hrel
          by_cases hlt : k < 64
          · obtain ⟨x, y, HXY, HS⟩ : ∃ x y : BitVec 32, Hid (∀ wx q, Rb3 w s ws g5 g6 g7 q wx → wx.cell? ⟨g5, k, none⟩ = some (.int .u32 (x.toNat : Int)) ∧ wx.cell? ⟨g6, k, none⟩ = some (.int .u32 (y.toNat : Int))) ∧ Hid (rounds ws s (k + 1) = rnd (rounds ws s k) y x) :=
              ⟨ws.getD k 0, kw.getD k 0, (fun wx q hx => ⟨by rw [hx.two.one.sch.cell, cw_get ws k (by have := HL.out; omega)], by rw [hx.two.kks.cell, kcs_get k hlt]⟩), rounds_succ' ws s k⟩
            clear HL HW HR
            generalize rounds ws s k = q at *
            obtain ⟨c0, c1, c2, c3, c4, c5, c6, c7⟩ := hI.words
            go_wp2
            go_quiet ((go_at_call 47; exact Calls.quiet_of_same (turn_any _ _ _ (by omega) (by omega))))
            have hJ := hI.drewN nq
            clear hI c0 c1 c2 c3 c4 c5 c6 c7
            generalize wr.drewN nq = wq at *
            obtain ⟨c0, c1, c2, c3, c4, c5, c6, c7⟩ := hJ.words
            obtain ⟨cx, cy⟩ := HXY.out wq q hJ
            go_wp2
            go_quiet (fail)
            have hI := hJ.drewN nq
            clear hJ c0 c1 c2 c3 c4 c5 c6 c7 cx cy
            generalize wq.drewN nq = wp at *
            obtain ⟨c0, c1, c2, c3, c4, c5, c6, c7⟩ := hI.words
            go_wp2
            go_quiet ((go_at_call 47; exact Calls.quiet_of_same (turn_any _ _ _ (by omega) (by omega))))
            have hJ := hI.drewN nq
            clear hI c0 c1 c2 c3 c4 c5 c6 c7
            generalize wp.drewN nq = wq at *
            obtain ⟨c0, c1, c2, c3, c4, c5, c6, c7⟩ := hJ.words
            go_wp2_with (refine wpList_build8 rfl 62 _ _ _ _ _ _ _ _ rfl _ _ _ _ _ _ _ _ rfl rfl rfl rfl rfl rfl rfl rfl (built8 _ _ _ _ _ _ _ _) ?_; refine Hid.out ?_)
            unfold Hid
            simp only [big1_eq, cho_ref, big0_eq, maj_eq]
            refine wpList_store8 rfl 62 (.tmp 7) (.tmp 109) rfl g7 _ _ _ _ _ _ _ _ rfl rfl (hJ.stt.there 0 8 (Nat.le_refl 8)) Tryd.info62 ?_
            have hK := hJ.store (rnd q y x)
            rw [← rnd_cells] at hK
            clear hJ c0 c1 c2 c3 c4 c5 c6 c7
            generalize World.setCells _ _ _ _ = wz at *
            simp only [Act.put]
            go_wp2
            go_roundw
            case rel => exact ⟨k + 1, by omega, by go_num, by rw [HS.out]; exact hK⟩
            case measure => simp [intOf]; omega
          · have hk64 : k = 64 := by omega
            subst hk64
            have HC : Hid (r = s.plus (rounds ws s 64)) := by have := HR.out; rw [compress_eq, HW.out] at this; exact this.symm
            clear HW HR
            generalize rounds ws s 64 = q at *
            as_aux_lemma =>
              go_wp2
              go_loopw [14] (fun i wr => ∃ k : Nat, k ≤ 8 ∧ i = .int .i64 k ∧ Rb4 w s q g7 k wr) (fun i _ => 8 - (intOf i).toNat)
              case atStart => exact ⟨0, by omega, rfl, Rb4.start hI⟩
              case round =>
                clear hI hlt hk
                obtain ⟨k, hk, rfl, hI⟩ := hrel
                by_cases hlt : k < 8
                · obtain ⟨x, HX⟩ : ∃ x, Hid (x = (plusL s q k).getD k 0) := ⟨_, rfl⟩
                  obtain ⟨y, HY⟩ : ∃ y, Hid (y = q.l.getD k 0) := ⟨_, rfl⟩
                  have cx : wr.cell? ⟨w.heap.size, k, none⟩ = some (.int .u32 (x.toNat : Int)) := by rw [hI.box.cell, cw_get _ k (by rw [len_plusL]; omega), HX.out]
                  have cy : wr.cell? ⟨g7, k, none⟩ = some (.int .u32 (y.toNat : Int)) := by rw [hI.stt.cell, cw_get q.l k hlt, HY.out]
                  have fx : wr.frozen? ⟨w.heap.size, k, none⟩ = false := hI.box.frozen _
                  go_wp2
                  go_region
                  go_wp2
                  go_roundw
                  case rel =>
                    refine ⟨k + 1, by omega, by go_num, ?_⟩
                    have := hI.store k (x + y) (by rw [HX.out, HY.out])
                    rw [← u32_add] at this
                    exact this
                  case measure => simp [intOf]; omega
                · have hk8 : k = 8 := by omega
                  subst hk8
                  have HB : Hid (Blk wr w.heap.size (cw r.l) 62) := by show Blk _ _ _ _; rw [HC.out, ← plusL_eq]; exact hI.box
                  have HRs : Hid (Blk wr (w.heap.size + 1) (cw z8) 62) := hI.res
                  have hbel := hI.bel
                  clear hI HC
                  go_wp2_with (first
                    | (refine wpList_load_mid rfl 62 _ rfl w.heap.size 0 rfl (cw r.l) _ HB.out.range Tryd.underlying62 rfl Tryd.info62 ?_)
                    | (refine wpList_store_mid rfl 62 _ _ rfl (w.heap.size + 1) 0 (cw r.l).toArray rfl rfl (HRs.out.there 0 8 (Nat.le_refl 8)) Tryd.info62 (all_oneCell_toArray (cw_one _)) ?_))
                  have hB := HRs.out.whole (cw r.l) rfl
                  refine bodyPost_ret (v := .agg (cw r.l).toArray) (results_cell_row (by rfl) _ _ (w.heap.size + 1) 62 _ (0, 0) _ rfl hB Tryd.underlying62 rfl Tryd.info62) rfl ⟨rfl, Below.setCells _ (by omega) _ _ _ hbel⟩
end Go.Proofs.YtmkjcgjbhibnpaaDoor
/- The walk of blazonref01.Sum: the same digest. -/
namespace Go.Proofs.YtmkjcgjbhibnpaaDoor
open Go.RowKit
set_option maxRecDepth 100000
structure RsInv (w : World) (g4 : Nat) (m : List (BitVec 8)) (va : Value) (q : St) (wr : World) : Prop where
  res : Blk wr w.heap.size (cb zb32) 27
  hh : Blk wr g4 (cw q.l) 62
  rd : Bytes wr g4 va m
  bel : Below w.heap.size w wr
  lt : w.heap.size < g4
structure OsInv (w : World) (g4 g6 : Nat) (q : St) (k : Nat) (wr : World) : Prop where
  res : Blk wr w.heap.size (cb zb32) 27
  hh : Blk wr g4 (cw q.l) 62
  out : Blk wr g6 (cb (outB q.l k)) 27
  bel : Below w.heap.size w wr
  lt4 : w.heap.size < g4
  lt6 : g4 < g6
theorem OsInv.store {w wr : World} {g4 g6 : Nat} {q : St} {k : Nat} (h : OsInv w g4 g6 q k wr) (v : Int) (hv : v = (((q.l.getD (k / 4) 0 >>> (24 - 8 * (k % 4))).setWidth 8).toNat : Int)) :
    OsInv w g4 g6 q (k + 1) (wr.setCell ⟨g6, k, none⟩ (.int .u8 v)) := by
  subst hv
  have h4 := h.lt4
  have h6 := h.lt6
  exact ⟨h.res.other _ _ (by simp; omega), h.hh.other _ _ (by simp; omega), by have := h.out.set k (.int .u8 (((q.l.getD (k / 4) 0 >>> (24 - 8 * (k % 4))).setWidth 8).toNat : Int)); rw [cb_set] at this; exact this, h.bel.setCell (by simp; omega) _, h4, h6⟩
theorem wpStill_val {P : Program} {ops : Array Oper} {w : World} {Q : Act → Prop} {o : Oper} {rest : List Oper} {a : Act} (hgd : o.guard = none) (v : Value) (hr : (execOp a.eval o).run P w = .ok (.value v) w)
    (h : wpStill P ops w Q rest (a.put o.dst v)) : wpStill P ops w Q (o :: rest) a := by
  have hw : Region.wanted o (yielded ops a.tmps) = true := by simp [Region.wanted, hgd]
  rw [wpStill, if_pos hw]
  unfold Oper.still
  rw [hr]
  exact ⟨rfl, h⟩
theorem slice_mid (ga off N cap k : Nat) (h1 : 64 * k + 64 ≤ N) (h2 : N ≤ cap) (w : World) :
    (Instr.sliceAt 22 (.slice (some ⟨ga, off, none⟩) N cap) (some (.int .i64 (64 * (k : Int)))) (some (.int .i64 (64 * (k : Int) + 64))) none).run Tryd.prog w = .ok (.slice (some ⟨ga, off + 64 * k, none⟩) 64 (cap - 64 * k)) w := by
  have e1 : (64 * (k : Int) + 64).toNat = 64 * k + 64 := by omega
  have e2 : (64 * (k : Int)).toNat = 64 * k := by omega
  have hs : (sizeOf 5).run Tryd.prog w = .ok 1 w := by kernel_rfl
  rw [run_sliceAt_slice w 22 _ _ _ _ (by kernel_rfl), run_slice_lh w 22 _ _ _ (by kernel_rfl) .i64 .i64 _ _ (by omega) (by omega) (by omega)]
  rw [show Tryd.prog.elem 22 = 5 from by kernel_rfl, hs]
  simp only [Result.andThen_ok, sliced, e1, e2, Nat.mul_one]
  rw [if_neg (by omega)]
  simp [Addr.add_mid]
theorem reads_mid {w : World} {g ga off N cap k : Nat} {m : List (BitVec 8)} (h : Bytes w g (.slice (some ⟨ga, off, none⟩) N cap) m) (hN : N = m.length) (hk : 64 * k + 64 ≤ N) :
    Reads w (.slice (some ⟨ga, off + 64 * k, none⟩) 64 (cap - 64 * k)) ((m.drop (64 * k)).take 64) := by
  obtain ⟨ad, cap', hv, hcap, hx⟩ := h
  simp only [Value.slice.injEq] at hv
  obtain ⟨rfl, _, rfl⟩ := hv
  have hl : ((m.drop (64 * k)).take 64).length = 64 := by simp; omega
  refine ⟨some ⟨ga, off + 64 * k, none⟩, cap - 64 * k, by rw [hl], by rw [hl]; omega, (fun h => by cases h), fun _ => ⟨ga, off + 64 * k, rfl, fun j hj => ?_⟩⟩
  rw [hl] at hj
  obtain ⟨b', off', e1, e2, e3⟩ := hx (by omega)
  simp only [Option.some.injEq, Addr.mk.injEq, and_true] at e1
  obtain ⟨rfl, rfl⟩ := e1
  have := e3 (64 * k + j) (by omega)
  rw [show off + 64 * k + j = off + (64 * k + j) by omega, this]
  congr 3
  simp [List.getElem?_take_of_lt hj]
set_option maxRecDepth 100000 in
set_option maxHeartbeats 2000000 in
theorem rsum_big (v : Value) (bs : List (BitVec 8)) (w : World) (hR : Reads w v bs) (hl : bs.length < 140737488355000) :
    Calls Tryd.prog 29 #[v] w fun e w' => e = .returned (.agg (cb (dig bs)).toArray) ∧ Below w.heap.size w w' := by
  have HR : Hid (Reads w v bs) := hR
  obtain ⟨ad, cap, hv, _, _, _⟩ := hR
  obtain ⟨n, HNN⟩ : ∃ n, Hid (n = bs.length) := ⟨_, rfl⟩
  rw [← HNN.out] at hv hl
  subst hv
  go_enter Tryd.func29, Tryd.ntmps29
  go_wp2_with (at_builtin; refine wpList_appendB rfl (.tmp 8) (.tmp 9) rfl (w.heap.size + 1) _ [] rfl (OwnB.nil _ _) _ bs rfl (HR.out.below ((Below.refl _ _).alloc (Nat.le_refl _) _)) (by rw [← HNN.out]; simp; omega) (by simp) ?_; intro v1 w1 hown1 hb1 _; refine Hid.out ?_)
  generalize h0 : Obj.cells _ 27 = o32 at *
  have ho : o32 = Obj.cells (cb zb32).toArray 27 := h0.symm
  clear h0
  subst ho
  have HB1 : Hid (Below w.heap.size w w1) := ((Below.refl _ _).alloc (Nat.le_refl _) _).trans (hb1.mono (by omega))
  have HR1 : Hid (Blk w1 w.heap.size (cb zb32) 27) := (Blk.new w (cb zb32) 27).below hb1 (by omega)
  have HO1 : Hid (OwnB w1 (w.heap.size + 1) v1 bs) := by show OwnB _ _ _ _; simpa using hown1
  have hs1 : w.heap.size + 1 ≤ w1.heap.size := by have := hb1.size; simp at this; omega
  clear hown1 hb1 HR
  unfold Hid
  go_wp2_with fail
  refine (rpad_any n _).mono ?_
  rintro e w2 ⟨v2, rfl, hr2, hb2⟩
  have hp9 : (pad n).length < 80 := by rw [len_pad]; unfold padN; omega
  go_wp2_with (at_builtin; refine wpList_appendB rfl (.tmp 11) (.tmp 15) rfl (w.heap.size + 1) _ bs rfl (HO1.out.below hb2 (Nat.le_refl _)) _ (pad n) rfl hr2 (by rw [← HNN.out]; omega) (by have := hb2.size; omega) ?_; intro v3 w3 hown3 hb3 _; refine Hid.out ?_)
  have HB3 : Hid (Below w.heap.size w w3) := HB1.out.trans ((hb2.mono HB1.out.size).trans (hb3.mono (by omega)))
  have HR3 : Hid (Blk w3 w.heap.size (cb zb32) 27) := (HR1.out.below hb2 HR1.out.lt).below hb3 (by omega)
  have HO3 : Hid (OwnB w3 (w.heap.size + 1) v3 (bs ++ pad n)) := hown3
  have hs3 : w.heap.size + 1 ≤ w3.heap.size := by have := hb2.size; have := hb3.size; omega
  clear hown3 hb3 hb2 hr2 HO1 HR1 HB1 hs1
  unfold Hid
  go_wp2_with fail
  refine (rfirst_any _).mono ?_
  rintro e w4 ⟨rfl, hb4⟩
  go_wp2_with (refine wpList_store_mid rfl 62 _ _ rfl _ 0 (cw st0.l).toArray rfl rfl ?_ Tryd.info62 (all_oneCell_toArray (cw_one _)) ?_; exact Blk.there (Blk.new_at rfl (cw z8) _) _ _ (Nat.le_refl 8); refine Hid.out ?_)
  generalize h0 : Obj.cells #[.int .u32 0, _, _, _, _, _, _, _] 62 = o8
  have ho : o8 = Obj.cells (cw z8).toArray 62 := h0.symm
  clear h0
  subst ho
  have hI : RsInv w w4.heap.size (bs ++ pad n) v3 st0 ((w4.alloc (.cells (cw z8).toArray 62)).setCells w4.heap.size 0 (cw st0.l)) := by
    have hs4 := hb4.size
    have b5 : Below w4.heap.size w4 ((w4.alloc (.cells (cw z8).toArray 62)).setCells w4.heap.size 0 (cw st0.l)) := Below.setCells _ (Nat.le_refl _) _ _ _ ((Below.refl _ _).alloc (Nat.le_refl _) _)
    have hR4 := HR3.out.below hb4 HR3.out.lt
    refine ⟨hR4.below b5 hR4.lt, (Blk.new w4 _ _).whole _ rfl, ?_, HB3.out.trans ((hb4.mono HB3.out.size).trans (b5.mono (by omega))), by omega⟩
    exact ((HO3.out.reads.below hb4).bytes (Nat.le_refl _)).below b5
  clear HB3 HR3 HO3 hs3 hb4
  generalize World.setCells _ _ _ _ = w5 at *
  generalize w4.heap.size = g4 at *
  unfold Hid
  as_aux_lemma =>
    have HD : Hid (∀ q, q = blocks ((bs ++ pad n).length / 64) st0 (bs ++ pad n) → outB q.l 32 = dig bs) := by
      intro q hq
      rw [dig, ← HNN.out, ← hq]
    have HM : Hid ((bs ++ pad n).length % 64 = 0) := by
      show _ = _
      rw [List.length_append, len_pad, ← HNN.out]; unfold padN; omega
    have HLm : Hid ((bs ++ pad n).length < 140737488360000 ∧ 0 < (bs ++ pad n).length) := by
      show _ ∧ _
      rw [List.length_append, ← HNN.out, len_pad] at *; omega
    generalize bs ++ pad n = m at *
    obtain ⟨N, HNm⟩ : ∃ N, Hid (N = m.length) := ⟨_, rfl⟩
    obtain ⟨ad3, cap3, hv3, hcap3, hpos3⟩ := hI.rd
    obtain ⟨ga, offa, rfl, _, _⟩ := hpos3 HLm.out.2
    rw [← HNm.out] at hv3 hcap3
    subst hv3
    have hN := HLm.out
    rw [← HNm.out] at hN
    have hN0 : N % 64 = 0 := by rw [HNm.out]; exact HM.out
    clear hpos3 HLm HM hp9 hl
    go_wp2
    go_loopw [5] (fun i wr => ∃ k : Nat, 64 * k ≤ N ∧ i = .int .i64 (64 * (k : Int)) ∧ RsInv w g4 m (.slice (some ⟨ga, offa, none⟩) N cap3) (blocks k st0 m) wr) (fun i _ => N - (intOf i).toNat)
    case atStart => exact ⟨0, by omega, rfl, hI⟩
    case round =>
      clear hI
      obtain ⟨k, hk, rfl, hI⟩ := hrel
      by_cases hlt : 64 * k + 64 ≤ N
      · have HBl : Hid (blocks (k + 1) st0 m = compress (blocks k st0 m) ((m.drop (64 * k)).take 64)) := blocks_last k st0 m
        generalize blocks k st0 m = q at *
        have HRd : Hid (∀ wx, Bytes wx g4 (.slice (some ⟨ga, offa, none⟩) N cap3) m → Reads wx (.slice (some ⟨ga, offa + 64 * k, none⟩) 64 (cap3 - 64 * k)) ((m.drop (64 * k)).take 64)) := fun wx hx => reads_mid hx HNm.out hlt
        have H64 : Hid (((m.drop (64 * k)).take 64).length = 64) := by show _ = _; have := HNm.out; simp; omega
        have hsl := slice_mid ga offa N cap3 k (by omega) (by omega)
        have hwr : IntKind.i64.wrap (64 * (k : Int) + 64) = 64 * (k : Int) + 64 := by rw [IntKind.wrap_i64]; omega
        generalize (m.drop (64 * k)).take 64 = bk at *
        go_wp2
        refine wp_region_still_tail 6 (by kernel_rfl) (by kernel_rfl) ?_
        simp only [List.take_succ_cons, List.take_zero, List.drop_succ_cons, List.drop_zero]
        refine wpStill_load rfl 62 _ rfl g4 0 rfl (cw q.l) _ hI.hh.drew.range Tryd.underlying62 rfl Tryd.info62 ?_
        simp only [Act.put, List.setIfInBounds_toArray, List.set_cons_zero, List.set_cons_succ]
        refine wpStill_val rfl (.slice (some ⟨ga, offa, none⟩) N cap3) (by simp [go_sem]) ?_
        simp only [Act.put, List.setIfInBounds_toArray, List.set_cons_zero, List.set_cons_succ]
        refine wpStill_val rfl (.int .i64 (64 * (k : Int))) (by simp [go_sem]) ?_
        simp only [Act.put, List.setIfInBounds_toArray, List.set_cons_zero, List.set_cons_succ]
        refine wpStill_val rfl (.int .i64 (64 * (k : Int))) (by simp [go_sem]) ?_
        simp only [Act.put, List.setIfInBounds_toArray, List.set_cons_zero, List.set_cons_succ]
        refine wpStill_val rfl (.int .i64 (64 * (k : Int) + 64)) (by simp [go_sem, hwr]) ?_
        simp only [Act.put, List.setIfInBounds_toArray, List.set_cons_zero, List.set_cons_succ]
        refine wpStill_val rfl (.slice (some ⟨ga, offa + 64 * k, none⟩) 64 (cap3 - 64 * k)) (by simp [execOp, Act.eval, hsl]) ?_
        simp only [Act.put, List.setIfInBounds_toArray, List.set_cons_zero, List.set_cons_succ]
        refine wpStill_nil ?_
        clear hsl hwr
        go_wp2_with fail
        refine (rblock_any q bk _ _ H64.out (HRd.out _ (by exact hI.rd))).mono ?_
        rintro e w6 ⟨rfl, hb6⟩
        have hb6' : Below wr.heap.size wr w6 := ⟨hb6.os, hb6.tape, hb6.output, hb6.size, hb6.block⟩
        have hh6 := hI.hh.below hb6' hI.hh.lt
        have hK : RsInv w g4 m (.slice (some ⟨ga, offa, none⟩) N cap3) (compress q bk) (w6.setCells g4 0 (cw (compress q bk).l)) := by
          have hlt4 := hI.lt
          exact ⟨Blk.others _ _ _ _ (hI.res.below hb6' hI.res.lt) (by omega), hh6.whole _ ((len_l _).trans (len_l _).symm), (hI.rd.below hb6').only (Only.setCells _ _ _ (Only.refl _ _)), Below.setCells _ (by omega) _ _ _ (hI.bel.trans (hb6'.mono hI.bel.size)), hlt4⟩
        generalize compress q bk = q' at *
        go_wp2_with (refine wpList_store_mid rfl 62 _ _ rfl g4 0 (cw q'.l).toArray rfl rfl (hh6.there 0 8 (Nat.le_refl 8)) Tryd.info62 (all_oneCell_toArray (cw_one _)) ?_; refine Hid.out ?_)
        clear hI hh6 hb6 hb6'
        generalize World.setCells _ _ _ _ = w7 at *
        unfold Hid
        go_wp2
        go_roundw
        case rel => exact ⟨k + 1, by omega, by go_num, by rw [HBl.out]; exact hK⟩
        case measure => simp [intOf]; omega
      · have hkN : N = 64 * k := by omega
        have HQ : Hid (outB (blocks k st0 m).l 32 = dig bs) := HD.out _ (by rw [← HNm.out, hkN]; congr 1; omega)
        clear HD HNm HNN
        subst hkN
        generalize blocks k st0 m = q at *
        have hJ : OsInv w g4 wr.heap.size q 0 (wr.alloc (.cells (cb zb32).toArray 27)) :=
          ⟨hI.res.alloc _, hI.hh.alloc _, Blk.new wr (cb zb32) _, hI.bel.alloc hI.bel.size _, hI.lt, hI.hh.lt⟩
        have hwr : IntKind.i64.wrap (64 * (k : Int) + 64) = 64 * (k : Int) + 64 := by rw [IntKind.wrap_i64]; omega
        have hN1 : ¬ (64 * (k : Int) + 64 ≤ ((64 * k : Nat) : Int)) := by omega
        have hN2 : ¬ (64 * (k : Int) + 64 ≤ 64 * (k : Int)) := by omega
        clear hI hN0 hlt hk hN hcap3
        as_aux_lemma =>
          go_wp2
          generalize h0 : Obj.cells _ 27 = o32
          have ho : o32 = Obj.cells (cb zb32).toArray 27 := h0.symm
          clear h0
          subst ho
          clear hN1 hN2 hwr
          generalize World.alloc wr _ = w8 at *
          generalize wr.heap.size = g6 at *
          go_loopw [7] (fun i wx => ∃ j : Nat, j ≤ 32 ∧ i = .int .i64 j ∧ OsInv w g4 g6 q j wx) (fun i _ => 32 - (intOf i).toNat)
          case atStart => exact ⟨0, by omega, rfl, hJ⟩
          case round =>
            clear hJ
            obtain ⟨j, hj, rfl, hI⟩ := hrel
            by_cases hlj : j < 32
            · obtain ⟨x, HX⟩ : ∃ x, Hid (x = q.l.getD (j / 4) 0) := ⟨_, rfl⟩
              have cx : wr.cell? ⟨g4, j / 4, none⟩ = some (.int .u32 (x.toNat : Int)) := by rw [hI.hh.cell, cw_get q.l _ (show j / 4 < 8 by omega), HX.out]
              obtain ⟨o, cT⟩ : ∃ o, wr.cell? ⟨g6, j, none⟩ = some o := ⟨_, by rw [hI.out.cell, cb_get _ _ (by rw [len_outB]; omega)]⟩
              have fT : wr.frozen? ⟨g6, j, none⟩ = false := hI.out.frozen _
              obtain ⟨d, s, hd, hs, hjd⟩ : ∃ d s, d < 8 ∧ s < 4 ∧ j = 4 * d + s := ⟨j / 4, j % 4, by omega, by omega, by omega⟩
              have hj4 : j / 4 = d := by omega
              have e1 : (j : Int).tdiv 4 = (d : Int) := by rw [Int.tdiv_eq_ediv_of_nonneg (by omega)]; omega
              have e2 : (j : Int).tmod 4 = (s : Int) := by rw [Int.tmod_eq_emod_of_nonneg (by omega)]; omega
              have e3 : IntKind.i64.wrap (d : Int) = (d : Int) := by rw [IntKind.wrap_i64]; omega
              have e4 : IntKind.i64.wrap (8 * (s : Int)) = 8 * (s : Int) := by rw [IntKind.wrap_i64]; omega
              have e5 : IntKind.i64.wrap (24 - 8 * (s : Int)) = 24 - 8 * (s : Int) := by rw [IntKind.wrap_i64]; omega
              have e6 : IntKind.u64.wrap (24 - 8 * (s : Int)) = 24 - 8 * (s : Int) := by rw [IntKind.wrap_u64]; omega
              have e7 : (24 - 8 * (s : Int)).toNat = 24 - 8 * s := by omega
              rw [hj4] at cx
              have HJ : Hid (j = 4 * d + s ∧ s < 4 ∧ d < 8) := ⟨hjd, hs, hd⟩
              have HI : Hid (OsInv w g4 g6 q j wr) := hI
              have HX' : Hid (x = q.l.getD d 0) := by rw [← hj4]; exact HX
              clear hI hjd hj4
              clear HX HQ
              go_wp2_with fail
              refine ⟨⟨j + 1, by omega, by go_num, ?_⟩, by simp [intOf]; omega⟩
              refine HI.out.store _ ?_
              have hh := HJ.out
              rw [show j / 4 = d by omega, show j % 4 = s by omega, ← HX'.out, shr_byte]
            · have hj8 : j = 32 := by omega
              subst hj8
              obtain ⟨cs, HC⟩ : ∃ x, Hid (x = cb (outB q.l 32)) := ⟨_, rfl⟩
              have HO : Hid (Blk wr g6 cs 27) := by rw [HC.out]; exact hI.out
              have HL : Hid (cs.length = 32) := by show _ = _; rw [HC.out, cb_len, len_outB]
              have HZ : Hid ((Tryd.prog.info? 27).map (·.size) = some cs.length) := by show _ = _; rw [HL.out]; exact Tryd.info27
              have H1 : Hid (∀ v ∈ cs, v.oneCell' = true) := by show ∀ _, _; rw [HC.out]; exact cb_one _
              have HR : Hid (Blk wr w.heap.size (cb zb32) 27) := hI.res
              have hbel := hI.bel
              clear hI
              go_wp2_with (first
                | (refine wpList_load_mid rfl 27 _ rfl g6 0 rfl cs _ HO.out.range Tryd.underlying27 rfl HZ.out ?_)
                | (refine wpList_store_mid rfl 27 _ _ rfl w.heap.size 0 cs.toArray rfl rfl (HR.out.there 0 _ (by rw [List.size_toArray, HL.out, cb_len, len_zb32]; omega)) (by simpa using HZ.out) (all_oneCell_toArray H1.out) ?_))
              have hB := HR.out.whole cs (by rw [HL.out, cb_len, len_zb32])
              refine bodyPost_ret (v := .agg cs.toArray) (results_cell_row (by rfl) _ _ w.heap.size 27 _ (0, 0) _ rfl hB Tryd.underlying27 rfl (by simpa using HZ.out)) rfl ⟨by rw [HC.out, HQ.out], Below.setCells _ (Nat.le_refl _) _ _ _ hbel⟩
theorem rsum_any (v : Value) (bs : List (BitVec 8)) (w : World) (hR : Reads w v bs) (hl : bs.length < 140737488350000) :
    Calls Tryd.prog 29 #[v] w fun e w' => e = .returned (.agg (cb (dig bs)).toArray) ∧ Below w.heap.size w w' := rsum_big v bs w hR (by omega)
end Go.Proofs.YtmkjcgjbhibnpaaDoor
/- make of a slice of bytes, of any length that a memory bears; and what a block of bytes reads as. -/
namespace Go.Proofs.YtmkjcgjbhibnpaaDoor
open Go.RowKit
set_option maxRecDepth 100000
theorem make_n (kd : IntKind) (k : Nat) (hk : k < 281474976710600) (w : World) : (Instr.makeSlice 22 (.int kd (k : Int)) (.int kd (k : Int))).run Tryd.prog w =
    .ok (.slice (some ⟨w.heap.size, 0, none⟩) k k) (w.alloc (.cells (cb (List.replicate k 0)).toArray 5)) := by
  obtain ⟨i0, hi, hz0, hz1, hz2⟩ := info_parts Tryd.infob
  rw [run_make (P := Tryd.prog) w 22 5 i0 _ Tryd.underlying22 hi hz0 kd kd _ _ (by omega) (by omega) (by rw [hz2]; omega) (by omega)]
  rw [Int.toNat_natCast, hz1, Nat.mul_one]
  congr 3
  simp [madeCells, cb, Value.cells, Nat.mod_one]
  apply Array.ext
  · simp
  · intro j h1 h2; simp
theorem Blk.reads {w : World} {g : Nat} {bs : List (BitVec 8)} {t : TypeId} (h : Blk w g (cb bs) t) {n c : Nat} (hn : n = bs.length) (hc : bs.length ≤ c) : Reads w (.slice (some ⟨g, 0, none⟩) n c) bs := by
  subst hn
  exact ⟨_, _, rfl, hc, (fun h => by cases h), fun _ => ⟨g, 0, rfl, fun j hj => by rw [h.cell, Nat.zero_add, cb_get _ j hj]⟩⟩
end Go.Proofs.YtmkjcgjbhibnpaaDoor
/- The walk of blazonref01.Join: texts, one behind the other. -/
namespace Go.Proofs.YtmkjcgjbhibnpaaDoor
open Go.RowKit
set_option maxRecDepth 100000
/-- the slice v of slices reads as the texts ls -/
def ReadsL (w : World) (v : Value) (ls : List (List (BitVec 8))) : Prop :=
  ∃ ad cap, v = .slice ad ls.length cap ∧ ls.length ≤ cap ∧ (ad = none → cap = 0) ∧ (0 < ls.length → ∃ b off, ad = some ⟨b, off, none⟩ ∧ ∀ j, j < ls.length → ∃ vj, w.cell? ⟨b, off + j, none⟩ = some vj ∧ Reads w vj (ls.getD j []))
theorem ReadsL.below {w w' : World} {v : Value} {ls : List (List (BitVec 8))} (h : ReadsL w v ls) (hb : Below w.heap.size w w') : ReadsL w' v ls := by
  obtain ⟨ad, cap, hv, hc, hn, hx⟩ := h
  refine ⟨ad, cap, hv, hc, hn, fun hp => ?_⟩
  obtain ⟨b, off, h1, h2⟩ := hx hp
  refine ⟨b, off, h1, fun j hj => ?_⟩
  obtain ⟨vj, h3, h4⟩ := h2 j hj
  exact ⟨vj, by rw [hb.cell (p := ⟨b, off + j, none⟩) (block_lt_of_cell h3)]; exact h3, h4.below hb⟩
theorem flat_take (ls : List (List (BitVec 8))) (k : Nat) (h : k < ls.length) : (ls.take (k + 1)).flatten = (ls.take k).flatten ++ ls.getD k [] := by
  rw [List.take_add_one, List.getElem?_eq_getElem h, List.flatten_append]
  simp [h]
theorem flat_le (ls : List (List (BitVec 8))) (k : Nat) : (ls.take k).flatten.length ≤ ls.flatten.length := by
  have := congrArg (fun l => (List.flatten l).length) (List.take_append_drop k ls)
  simp only [List.flatten_append, List.length_append] at this
  omega
set_option maxHeartbeats 400000 in
theorem rjoin_any (v : Value) (ls : List (List (BitVec 8))) (w : World) (hR : ReadsL w v ls) (hl : ls.flatten.length ≤ 140737488355328) (hn : ls.length < 4611686018427387904) :
    Calls Tryd.prog 30 #[v] w fun e w' => ∃ v', e = .returned v' ∧ Reads w' v' ls.flatten ∧ Below w.heap.size w w' := by
  have HR : Hid (ReadsL w v ls) := hR
  obtain ⟨ad, cap, hv, hcap, _, _⟩ := hR
  obtain ⟨n, HNN⟩ : ∃ n, Hid (n = ls.length) := ⟨_, rfl⟩
  rw [← HNN.out] at hv hcap hn
  subst hv
  go_enter Tryd.func30, Tryd.ntmps30
  go_wp2
  go_loopw [3, 4] (fun u i wr => ∃ k : Nat, k ≤ n ∧ i = .int .i64 k ∧ RpInv w (ls.take k).flatten u wr) (fun _ i _ => n - (intOf i).toNat)
  case atStart => exact ⟨0, by omega, rfl, OwnB.nil _ _, Below.refl _ _⟩
  case round =>
    obtain ⟨k, hk, rfl, hI⟩ := hrel
    have HI : Hid (RpInv w (ls.take k).flatten u3 wr) := hI
    by_cases hlt : k < n
    · obtain ⟨ad', cap', hv', _, _, hx⟩ := HR.out.below hI.bel
      rw [← HNN.out] at hv' hx
      simp only [Value.slice.injEq, true_and] at hv'
      obtain ⟨rfl, rfl⟩ := hv'
      obtain ⟨b, off, rfl, hx2⟩ := hx (by omega)
      obtain ⟨vj, cj, hj⟩ := hx2 k hlt
      have HJ : Hid (Reads wr vj (ls.getD k [])) := hj
      have HF : Hid ((ls.take (k + 1)).flatten = (ls.take k).flatten ++ ls.getD k []) := flat_take ls k (by rw [← HNN.out]; exact hlt)
      have HL : Hid ((ls.take k).flatten.length + (ls.getD k []).length ≤ 140737488355328) := by
        have h1 := flat_le ls (k + 1)
        rw [HF.out, List.length_append] at h1
        exact Nat.le_trans h1 hl
      clear hx hx2 hj hI
      go_wp2_with (at_builtin; refine wpList_appendB rfl (.tmp 11) (.tmp 15) rfl w.heap.size _ (ls.take k).flatten rfl HI.out.own _ (ls.getD k []) rfl HJ.out HL.out HI.out.bel.size ?_; intro v2 w2 hown2 hb2 _)
      have hJ : RpInv w (ls.take (k + 1)).flatten v2 w2 := ⟨by rw [HF.out]; exact hown2, HI.out.bel.trans hb2⟩
      clear hown2 hb2 HI
      go_roundw
      case rel => exact ⟨k + 1, by omega, by go_num, hJ⟩
      case measure => simp [intOf]; omega
    · have hkn : k = n := by omega
      subst hkn
      have HV : Hid (Reads wr u3 ls.flatten) := by
        have := hI.own.reads
        rw [HNN.out, List.take_of_length_le (Nat.le_refl _)] at this
        exact this
      have hbel := hI.bel
      clear hI HI HR
      go_wp2
      go_ret
      exact ⟨_, rfl, HV.out, hbel⟩
end Go.Proofs.YtmkjcgjbhibnpaaDoor
/- A few texts in a row, made by the call itself; a Hash beside another one that is written to. -/
namespace Go.Proofs.YtmkjcgjbhibnpaaDoor
open Go.RowKit
set_option maxRecDepth 100000
theorem HashIs.only {t : TypeId} {w w' : World} {g g' : Nat} {m : List (BitVec 8)} (h : HashIs t w g m) (ho : Only g' w w') (hne : g ≠ g') : HashIs t w' g m := by
  obtain ⟨s, blk, h1, h2⟩ := h
  exact ⟨s, blk, h1.only ho hne, h2⟩
theorem readsL_one {w : World} {va : Value} {la : List (BitVec 8)} (ha : Reads w va la) :
    ReadsL (w.alloc (.cells #[va] 22)) (.slice (some ⟨w.heap.size, 0, none⟩) 1 1) [la] := by
  have hb : Below w.heap.size w (w.alloc (.cells #[va] 22)) := (Below.refl _ _).alloc (Nat.le_refl _) _
  refine ⟨_, _, rfl, Nat.le_refl _, (fun h => by cases h), fun _ => ⟨w.heap.size, 0, rfl, fun j hj => ?_⟩⟩
  match j, hj with
  | 0, _ => exact ⟨va, by rw [World.cell?_alloc_mark]; rfl, ha.below hb⟩
theorem readsL_two {w : World} {va vb : Value} {la lb : List (BitVec 8)} (ha : Reads w va la) (hb : Reads w vb lb) :
    ReadsL (w.alloc (.cells #[va, vb] 22)) (.slice (some ⟨w.heap.size, 0, none⟩) 2 2) [la, lb] := by
  have hbl : Below w.heap.size w (w.alloc (.cells #[va, vb] 22)) := (Below.refl _ _).alloc (Nat.le_refl _) _
  refine ⟨_, _, rfl, Nat.le_refl _, (fun h => by cases h), fun _ => ⟨w.heap.size, 0, rfl, fun j hj => ?_⟩⟩
  match j, hj with
  | 0, _ => exact ⟨va, by rw [World.cell?_alloc_mark]; rfl, ha.below hbl⟩
  | 1, _ => exact ⟨vb, by rw [World.cell?_alloc_mark]; rfl, hb.below hbl⟩
theorem readsL_four {w : World} {va vb vc vd : Value} {la lb lc ld : List (BitVec 8)} (ha : Reads w va la) (hb : Reads w vb lb) (hc : Reads w vc lc) (hd : Reads w vd ld) :
    ReadsL (w.alloc (.cells #[va, vb, vc, vd] 22)) (.slice (some ⟨w.heap.size, 0, none⟩) 4 4) [la, lb, lc, ld] := by
  have hbl : Below w.heap.size w (w.alloc (.cells #[va, vb, vc, vd] 22)) := (Below.refl _ _).alloc (Nat.le_refl _) _
  refine ⟨_, _, rfl, Nat.le_refl _, (fun h => by cases h), fun _ => ⟨w.heap.size, 0, rfl, fun j hj => ?_⟩⟩
  match j, hj with
  | 0, _ => exact ⟨va, by rw [World.cell?_alloc_mark]; rfl, ha.below hbl⟩
  | 1, _ => exact ⟨vb, by rw [World.cell?_alloc_mark]; rfl, hb.below hbl⟩
  | 2, _ => exact ⟨vc, by rw [World.cell?_alloc_mark]; rfl, hc.below hbl⟩
  | 3, _ => exact ⟨vd, by rw [World.cell?_alloc_mark]; rfl, hd.below hbl⟩
theorem below_alloc (w : World) (o : Obj) : Below w.heap.size w (w.alloc o) := (Below.refl _ _).alloc (Nat.le_refl _) _
end Go.Proofs.YtmkjcgjbhibnpaaDoor
/- The walk of blazonref02.Key: the key's block, each byte turned. -/
namespace Go.Proofs.YtmkjcgjbhibnpaaDoor
open Go.RowKit
set_option maxRecDepth 100000
/-- the first i bytes of L, noughts behind -/
def fillZ (L : List (BitVec 8)) (i : Nat) : List (BitVec 8) := L.take i ++ List.replicate (L.length - i) 0
theorem len_fillZ (L : List (BitVec 8)) (i : Nat) : (fillZ L i).length = L.length := by simp [fillZ]; omega
theorem fillZ_set (L : List (BitVec 8)) (i : Nat) (h : i < L.length) : (fillZ L i).set i (L.getD i 0) = fillZ L (i + 1) := by
  have e : (L.take i).length = i := by simp; omega
  rw [fillZ, List.set_append_right _ _ (by omega), e, Nat.sub_self, show L.length - i = (L.length - (i + 1)) + 1 by omega, List.replicate_succ, List.set_cons_zero, fillZ, List.take_add_one, List.getElem?_eq_getElem h, show L.getD i 0 = L[i] by simp [h]]
  simp only [Option.toList_some, List.append_assoc, List.cons_append, List.nil_append]
theorem fillZ_all (L : List (BitVec 8)) (i : Nat) (h : L.length ≤ i) : fillZ L i = L := by simp [fillZ, List.take_of_length_le h, Nat.sub_eq_zero_of_le h]
theorem turn_in (t : BitVec 8) (k : List (BitVec 8)) (i : Nat) (h : i < k.length) : (turnB t (kpad k)).getD i 0 = k.getD i 0 ^^^ t := by
  rw [turnB, List.getD_eq_getElem?_getD, List.getElem?_map, kpad, List.getElem?_append_left h]
  simp [h]
theorem turn_out (t : BitVec 8) (k : List (BitVec 8)) (i : Nat) (h : ¬ i < k.length) (h2 : i < 64) : (turnB t (kpad k)).getD i 0 = t := by
  rw [turnB, List.getD_eq_getElem?_getD, List.getElem?_map, kpad, List.getElem?_append_right (by omega), List.getElem?_replicate]
  rw [if_pos (by omega)]
  simp
set_option maxRecDepth 100000 in
set_option maxHeartbeats 1000000 in
theorem rkey_any (v : Value) (key : List (BitVec 8)) (t : BitVec 8) (w : World) (hR : Reads w v key) (hl : key.length < 140737488350000) :
    Calls Tryd.prog 31 #[v, .int .u8 (t.toNat : Int)] w fun e w' => ∃ v', e = .returned v' ∧ Reads w' v' (turnB t (kblock key)) ∧ Below w.heap.size w w' := by
  have HR : Hid (Reads w v key) := hR
  obtain ⟨ad, cap, hv, hcap, _, _⟩ := hR
  have hmk : ∀ wx, (Instr.makeSlice 22 (.int .i64 64) (.int .i64 64)).run Tryd.prog wx = .ok (.slice (some ⟨wx.heap.size, 0, none⟩) 64 64) (wx.alloc (.cells (cb zb64).toArray 5)) := fun wx => make_n .i64 64 (by omega) wx
  by_cases h64 : 64 < key.length
  · have HKB : Hid (kblock key = kpad (dig key)) := kblock_long h64
    obtain ⟨n, HNN⟩ : ∃ n, Hid (n = key.length) := ⟨_, rfl⟩
    rw [← HNN.out] at hv h64 hl
    subst hv
    go_enter Tryd.func31, Tryd.ntmps31
    go_wp2_with fail
    refine (rsum_any _ key _ HR.out (by rw [← HNN.out]; exact hl)).mono ?_
    rintro e w1 ⟨rfl, hb1⟩
    obtain ⟨ds, HDS⟩ : ∃ x, Hid (x = cb (dig key)) := ⟨_, rfl⟩
    have HL : Hid (ds.length = 32) := by show _ = _; rw [HDS.out, cb_len, len_dig']
    have HZ : Hid ((Tryd.prog.info? 27).map (·.size) = some ds.length) := by show _ = _; rw [HL.out]; exact Tryd.info27
    have H1 : Hid (∀ v ∈ ds, v.oneCell' = true) := by show ∀ _, _; rw [HDS.out]; exact cb_one _
    rw [← HDS.out]
    go_wp2_with (refine wpList_store_mid rfl 27 _ _ rfl _ 0 ds.toArray rfl rfl ?_ (by simpa using HZ.out) (all_oneCell_toArray H1.out) ?_; exact Blk.there (Blk.new_at rfl (cb zb32) _) _ _ (by rw [List.size_toArray, HL.out, cb_len, len_zb32]; omega); refine Hid.out ?_)
    generalize h0 : Obj.cells _ 27 = o32
    have ho : o32 = Obj.cells (cb zb32).toArray 27 := h0.symm
    clear h0
    subst ho
    have hD : Blk ((w1.alloc (.cells (cb zb32).toArray 27)).setCells w1.heap.size 0 ds) w1.heap.size (cb (dig key)) 27 := by
      rw [← HDS.out]
      exact (Blk.new w1 (cb zb32) 27).whole ds (by rw [HL.out, cb_len, len_zb32])
    have hB2 : Below w.heap.size w ((w1.alloc (.cells (cb zb32).toArray 27)).setCells w1.heap.size 0 ds) := Below.setCells _ hb1.size _ _ _ (hb1.alloc hb1.size _)
    generalize World.setCells _ _ _ _ = wk at *
    generalize w1.heap.size = g1 at *
    have HRK : Hid (Reads wk (.slice (some ⟨g1, 0, none⟩) 32 32) (dig key)) := hD.reads (len_dig' _).symm (by rw [len_dig']; omega)
    have HKL : Hid ((dig key).length = 32) := len_dig' _
    clear hb1 hD HDS HL HZ H1 HNN HR hl h64 hcap
    generalize dig key = kk at *
    unfold Hid
    go_wp2
    try (generalize h0 : Obj.cells _ 5 = o64 at *; have ho : o64 = Obj.cells (cb zb64).toArray 5 := h0.symm; clear h0; subst ho)
    obtain ⟨L, HLL⟩ : ∃ x, Hid (x = turnB t (kpad kk)) := ⟨_, rfl⟩
    have HLn : Hid (L.length = 64) := by show _ = _; rw [HLL.out, len_turnB, len_kpad _ (by have := HKL.out; omega)]
    go_loopw [7] (fun i wr => ∃ j : Nat, j ≤ 64 ∧ i = .int .i64 j ∧ Blk wr wk.heap.size (cb (fillZ L j)) 5 ∧ Below wk.heap.size wk wr) (fun i _ => 64 - (intOf i).toNat)
    case atStart =>
      refine ⟨0, by omega, rfl, ?_, below_alloc _ _⟩
      have h := Blk.new wk (cb zb64) 5
      have e : fillZ L 0 = zb64 := by simp [fillZ, HLn.out, zb64]
      rw [e]; exact h
    case round =>
      obtain ⟨j, hj, rfl, hB, hbel⟩ := hrel
      by_cases hlt : j < 64
      · obtain ⟨o, cT⟩ : ∃ o, wr.cell? ⟨wk.heap.size, j, none⟩ = some o := ⟨_, by rw [hB.cell, cb_get _ _ (by rw [len_fillZ, HLn.out]; omega)]⟩
        have fT : wr.frozen? ⟨wk.heap.size, j, none⟩ = false := hB.frozen _
        have HB : Hid (Blk wr wk.heap.size (cb (fillZ L j)) 5) := hB
        clear hB
        by_cases hjk : j < 32
        · have hjk' : decide ((j : Int) < 32) = true := by simp; omega
          obtain ⟨x, HX⟩ : ∃ x, Hid (x = kk.getD j 0) := ⟨_, rfl⟩
          obtain ⟨ad', cap', hv', _, _, hx⟩ := HRK.out.below hbel
          simp only [Value.slice.injEq] at hv'
          obtain ⟨hv1, hv2, hv3⟩ := hv'
          obtain ⟨b, off, hb, hc⟩ := hx (by have := HKL.out; omega)
          have cx := hc j (by have := HKL.out; omega)
          rw [← HX.out] at cx
          have hne : b ≠ wk.heap.size := by
            obtain ⟨ad2, cap2, hv2', _, _, hx2⟩ := HRK.out
            simp only [Value.slice.injEq] at hv2'
            obtain ⟨b2, off2, hb2, hc2⟩ := hx2 (by have := HKL.out; omega)
            have h1 := block_lt_of_cell (hc2 j (by have := HKL.out; omega))
            have h2 : (⟨b, off, none⟩ : Addr) = ⟨b2, off2, none⟩ := by
              have := hv1.trans hb
              rw [hv2'.1, hb2] at this
              exact (Option.some.inj this).symm
            simp only [Addr.mk.injEq, and_true] at h2
            have h3 : b2 < wk.heap.size := h1
            omega
          subst hb
          clear hx hc
          cases hv1
          simp only [Nat.zero_add] at cx
          have hset : ((cb (fillZ L j)).set j (.int .u8 (t.toNat : Int))).set j (.int .u8 ((x ^^^ t).toNat : Int)) = cb (fillZ L (j + 1)) := by
            rw [cb_set, cb_set, List.set_set, HX.out, ← turn_in t kk j (by have := HKL.out; omega), ← HLL.out, fillZ_set L j (by have := HLn.out; omega)]
          have HSET : Hid (Blk ((wr.setCell ⟨wk.heap.size, j, none⟩ (.int .u8 (t.toNat : Int))).setCell ⟨wk.heap.size, j, none⟩ (.int .u8 ((x.toNat ^^^ t.toNat : Nat) : Int))) wk.heap.size (cb (fillZ L (j + 1))) 5) := by
            have h := (HB.out.set j (.int .u8 (t.toNat : Int))).set j (.int .u8 ((x ^^^ t).toNat : Int))
            rw [hset, BitVec.toNat_xor] at h
            exact h
          have hxr := xor_byte x t
          clear hv2 hv3 hset
          go_wp2
          exact ⟨⟨j + 1, by omega, by go_num, HSET.out, (hbel.setCell (Nat.le_refl _) _).setCell (Nat.le_refl _) _⟩, by simp [intOf]; omega⟩
        · have hjk' : decide ((j : Int) < 32) = false := by simp; omega
          have e : L.getD j 0 = t := by rw [HLL.out]; exact turn_out t kk j (by have := HKL.out; omega) hlt
          have HSET : Hid (Blk (wr.setCell ⟨wk.heap.size, j, none⟩ (.int .u8 (t.toNat : Int))) wk.heap.size (cb (fillZ L (j + 1))) 5) := by
            have h := HB.out.set j (.int .u8 (t.toNat : Int))
            rw [cb_set] at h
            rw [← fillZ_set L j (by have := HLn.out; omega), e]
            exact h
          clear e
          go_wp2
          exact ⟨⟨j + 1, by omega, by go_num, HSET.out, hbel.setCell (Nat.le_refl _) _⟩, by simp [intOf]; omega⟩
      · have hj64 : j = 64 := by omega
        subst hj64
        rw [fillZ_all L 64 (by have := HLn.out; omega)] at hB
        have HV : Hid (Reads wr (.slice (some ⟨wk.heap.size, 0, none⟩) 64 64) (turnB t (kblock key))) := by
          show Reads _ _ _
          rw [HKB.out, ← HLL.out]
          exact hB.reads HLn.out.symm (by have := HLn.out; omega)
        have hbe : Below w.heap.size w wr := hB2.trans (hbel.mono hB2.size)
        clear hB hbel hlt hj
        go_wp2
        go_ret
        exact ⟨_, rfl, HV.out, hbe⟩
  · have HKB : Hid (kblock key = kpad key) := kblock_short h64
    obtain ⟨n, HNN⟩ : ∃ n, Hid (n = key.length) := ⟨_, rfl⟩
    rw [← HNN.out] at hv h64
    subst hv
    have hB2 : Below w.heap.size w w := Below.refl _ _
    have HRK : Hid (Reads w (.slice ad n cap) key) := HR
    have HKL : Hid (key.length = n) := HNN.out.symm
    have hn64 : n ≤ 64 := by omega
    clear HR hl hcap HNN h64
    go_enter Tryd.func31, Tryd.ntmps31
    go_wp2
    try (generalize h0 : Obj.cells _ 5 = o64 at *; have ho : o64 = Obj.cells (cb zb64).toArray 5 := h0.symm; clear h0; subst ho)
    obtain ⟨L, HLL⟩ : ∃ x, Hid (x = turnB t (kpad key)) := ⟨_, rfl⟩
    have HLn : Hid (L.length = 64) := by show _ = _; rw [HLL.out, len_turnB, len_kpad _ (by have := HKL.out; omega)]
    go_loopw [7] (fun i wr => ∃ j : Nat, j ≤ 64 ∧ i = .int .i64 j ∧ Blk wr w.heap.size (cb (fillZ L j)) 5 ∧ Below w.heap.size w wr) (fun i _ => 64 - (intOf i).toNat)
    case atStart =>
      refine ⟨0, by omega, rfl, ?_, below_alloc _ _⟩
      have h := Blk.new w (cb zb64) 5
      have e : fillZ L 0 = zb64 := by simp [fillZ, HLn.out, zb64]
      rw [e]; exact h
    case round =>
      obtain ⟨j, hj, rfl, hB, hbel⟩ := hrel
      by_cases hlt : j < 64
      · obtain ⟨o, cT⟩ : ∃ o, wr.cell? ⟨w.heap.size, j, none⟩ = some o := ⟨_, by rw [hB.cell, cb_get _ _ (by rw [len_fillZ, HLn.out]; omega)]⟩
        have fT : wr.frozen? ⟨w.heap.size, j, none⟩ = false := hB.frozen _
        have HB : Hid (Blk wr w.heap.size (cb (fillZ L j)) 5) := hB
        clear hB
        by_cases hjk : j < n
        · have hjk' : decide ((j : Int) < (n : Int)) = true := by simp; omega
          obtain ⟨x, HX⟩ : ∃ x, Hid (x = key.getD j 0) := ⟨_, rfl⟩
          obtain ⟨ad', cap', hv', _, _, hx⟩ := HRK.out.below hbel
          simp only [Value.slice.injEq] at hv'
          obtain ⟨hv1, hv2, hv3⟩ := hv'
          obtain ⟨b, off, hb, hc⟩ := hx (by have := HKL.out; omega)
          have cx := hc j (by have := HKL.out; omega)
          rw [← HX.out] at cx
          have hne : b ≠ w.heap.size := by
            obtain ⟨ad2, cap2, hv2', _, _, hx2⟩ := HRK.out
            simp only [Value.slice.injEq] at hv2'
            obtain ⟨b2, off2, hb2, hc2⟩ := hx2 (by have := HKL.out; omega)
            have h1 := block_lt_of_cell (hc2 j (by have := HKL.out; omega))
            have h2 : (⟨b, off, none⟩ : Addr) = ⟨b2, off2, none⟩ := by
              have := hv1.trans hb
              rw [hv2'.1, hb2] at this
              exact (Option.some.inj this).symm
            simp only [Addr.mk.injEq, and_true] at h2
            have h3 : b2 < w.heap.size := h1
            omega
          subst hb
          clear hx hc
          subst hv1
          have hset : ((cb (fillZ L j)).set j (.int .u8 (t.toNat : Int))).set j (.int .u8 ((x ^^^ t).toNat : Int)) = cb (fillZ L (j + 1)) := by
            rw [cb_set, cb_set, List.set_set, HX.out, ← turn_in t key j (by have := HKL.out; omega), ← HLL.out, fillZ_set L j (by have := HLn.out; omega)]
          have HSET : Hid (Blk ((wr.setCell ⟨w.heap.size, j, none⟩ (.int .u8 (t.toNat : Int))).setCell ⟨w.heap.size, j, none⟩ (.int .u8 ((x.toNat ^^^ t.toNat : Nat) : Int))) w.heap.size (cb (fillZ L (j + 1))) 5) := by
            have h := (HB.out.set j (.int .u8 (t.toNat : Int))).set j (.int .u8 ((x ^^^ t).toNat : Int))
            rw [hset, BitVec.toNat_xor] at h
            exact h
          have hxr := xor_byte x t
          clear hv2 hv3 hset
          go_wp2
          exact ⟨⟨j + 1, by omega, by go_num, HSET.out, (hbel.setCell (Nat.le_refl _) _).setCell (Nat.le_refl _) _⟩, by simp [intOf]; omega⟩
        · have hjk' : decide ((j : Int) < (n : Int)) = false := by simp; omega
          have e : L.getD j 0 = t := by rw [HLL.out]; exact turn_out t key j (by have := HKL.out; omega) hlt
          have HSET : Hid (Blk (wr.setCell ⟨w.heap.size, j, none⟩ (.int .u8 (t.toNat : Int))) w.heap.size (cb (fillZ L (j + 1))) 5) := by
            have h := HB.out.set j (.int .u8 (t.toNat : Int))
            rw [cb_set] at h
            rw [← fillZ_set L j (by have := HLn.out; omega), e]
            exact h
          clear e
          go_wp2
          exact ⟨⟨j + 1, by omega, by go_num, HSET.out, hbel.setCell (Nat.le_refl _) _⟩, by simp [intOf]; omega⟩
      · have hj64 : j = 64 := by omega
        subst hj64
        rw [fillZ_all L 64 (by have := HLn.out; omega)] at hB
        have HV : Hid (Reads wr (.slice (some ⟨w.heap.size, 0, none⟩) 64 64) (turnB t (kblock key))) := by
          show Reads _ _ _
          rw [HKB.out, ← HLL.out]
          exact hB.reads HLn.out.symm (by have := HLn.out; omega)
        have hbe : Below w.heap.size w wr := hB2.trans (hbel.mono hB2.size)
        clear hB hbel hlt hj
        go_wp2
        go_ret
        exact ⟨_, rfl, HV.out, hbe⟩
end Go.Proofs.YtmkjcgjbhibnpaaDoor
/- Regions that draw their order, a step at a time, where one operation alone may come up. -/
namespace Go.Proofs.YtmkjcgjbhibnpaaDoor
open Go.RowKit
set_option maxRecDepth 100000
theorem wpAny_enter {P : Program} {md : Region.Mode} {ops : Array Oper} {Q : Exit → Act → World → Prop} {fuel : Nat} {listed : Array Bool} {a : Act} {w : World} (i : Nat) {oi : Oper} {f : FuncId} {args : Array Value} {R : Ending → World → Prop}
    (hr : Region.ready md ops listed = [i]) (hi : ops[i]? = some oi) (hw : Region.wanted oi (yielded ops a.tmps) = true) (he : (execOp a.eval oi).run P w = .ok (.enter f args) w) (hc : Calls P f args w R)
    (h : ∀ e w', R e w' → ∃ v, e = .returned v ∧ wpAny P md ops Q fuel (listed.setIfInBounds i true) (a.put oi.dst v) w') : wpAny P md ops Q (fuel + 1) listed a w := by
  refine wpAny_all hr (by simp) (fun j hj => ?_)
  obtain rfl : j = i := by simpa using hj
  unfold wpOp
  rw [hi]
  simp only [hw, if_true]
  left
  unfold Oper.wp
  rw [he, Oper.upon_enter]
  refine hc.mono ?_
  intro e w' hR
  obtain ⟨v, rfl, hv⟩ := h e w' hR
  exact hv
theorem wpAny_step {P : Program} {md : Region.Mode} {ops : Array Oper} {Q : Exit → Act → World → Prop} {fuel : Nat} {listed : Array Bool} {a : Act} {w : World} (i : Nat) {oi : Oper} (v : Value) (w' : World)
    (hr : Region.ready md ops listed = [i]) (hi : ops[i]? = some oi) (hw : Region.wanted oi (yielded ops a.tmps) = true) (he : (execOp a.eval oi).run P w = .ok (.value v) w')
    (h : wpAny P md ops Q fuel (listed.setIfInBounds i true) (a.put oi.dst v) w') : wpAny P md ops Q (fuel + 1) listed a w := by
  refine wpAny_all hr (by simp) (fun j hj => ?_)
  obtain rfl : j = i := by simpa using hj
  unfold wpOp
  rw [hi]
  simp only [hw, if_true]
  left
  unfold Oper.wp
  rw [he, Oper.upon_value]
  exact h
theorem wpAny_store {P : Program} {md : Region.Mode} {ops : Array Oper} {Q : Exit → Act → World → Prop} {fuel : Nat} {listed : Array Bool} {a : Act} {w : World} (i : Nat) {oi : Oper} (ty : TypeId) (x y : Operand)
    (hr : Region.ready md ops listed = [i]) (hi : ops[i]? = some oi) (hw : Region.wanted oi (yielded ops a.tmps) = true) (ho : oi.op = .store ty x y)
    (b o : Nat) (cells : Array Value) (hx : a.eval x = .pointer (some ⟨b, o, none⟩)) (hy : a.eval y = .agg cells)
    (ht : w.there b o cells.size) (hz : (P.info? ty).map (·.size) = some cells.size) (h1 : cells.all (·.oneCell') = true)
    (h : wpAny P md ops Q fuel (listed.setIfInBounds i true) (a.put oi.dst undef) (w.setCells b o cells.toList)) : wpAny P md ops Q (fuel + 1) listed a w := by
  refine wpAny_all hr (by simp) (fun j hj => ?_)
  obtain rfl : j = i := by simpa using hj
  unfold wpOp
  rw [hi]
  simp only [hw, if_true]
  left
  exact wp_store_mid ty x y ho b o cells hx hy ht hz h1 h
end Go.Proofs.YtmkjcgjbhibnpaaDoor
/- The walk of blazonref02.Mac: the same keyed digest. -/
namespace Go.Proofs.YtmkjcgjbhibnpaaDoor
open Go.RowKit
set_option maxRecDepth 100000
theorem flat_two' (a b : List (BitVec 8)) : [a, b].flatten = a ++ b := by simp
theorem slice_dig (g : Nat) (w : World) : (Instr.sliceAt 27 (.pointer (some ⟨g, 0, none⟩)) none none none).run Tryd.prog w = .ok (.slice (some ⟨g, 0, none⟩) 32 32) w := by kernel_rfl
set_option maxRecDepth 100000 in
set_option maxHeartbeats 1000000 in
theorem rmac_any (vk vb : Value) (key bb : List (BitVec 8)) (w : World) (hk : Reads w vk key) (hb : Reads w vb bb) (hkl : key.length < 140737488350000) (hl : bb.length < 140737488340000) :
    Calls Tryd.prog 24 #[vk, vb] w fun e w' => e = .returned (.agg (cb (hmac key bb)).toArray) ∧ Below w.heap.size w w' := by
  have HKR : Hid (Reads w vk key) := hk
  have HBR : Hid (Reads w vb bb) := hb
  have HLK : Hid (key.length < 140737488350000) := hkl
  have HL : Hid (bb.length < 140737488340000) := hl
  have HM : Hid (hmac key bb = dig (turnB 92 (kblock key) ++ dig (turnB 54 (kblock key) ++ bb))) := rfl
  have HKB : Hid ((kblock key).length = 64) := len_kblock key
  obtain ⟨ab, cb', rfl, _, _, _⟩ := hb
  clear hk hkl hl
  go_enter Tryd.func24, Tryd.ntmps24
  go_wp2_with fail
  generalize h0 : Obj.cells _ 27 = o32
  have ho : o32 = Obj.cells (cb zb32).toArray 27 := h0.symm
  clear h0
  subst ho
  have hb0 := below_alloc w (Obj.cells (cb zb32).toArray 27)
  refine (rkey_any vk key 54 _ (HKR.out.below hb0) HLK.out).mono ?_
  rintro e w1 ⟨v1, rfl, hr1, hb1⟩
  simp at hb1
  have HS1 : Hid (Below w.heap.size w w1) := hb0.trans (hb1.mono (by omega))
  have HR1 : Hid (Blk w1 w.heap.size (cb zb32) 27) := (Blk.new w (cb zb32) 27).below hb1 (by omega)
  have HV1 : Hid (Reads w1 v1 (turnB 54 (kblock key))) := hr1
  obtain ⟨a1, c1, rfl, _, _, _⟩ := hr1
  clear hb0 hb1
  go_wp2_with fail
  refine (rjoin_any _ [turnB 54 (kblock key), bb] _ (readsL_two HV1.out (HBR.out.below HS1.out)) (by rw [flat_two', List.length_append, len_turnB, HKB.out]; have := HL.out; omega) (by simp)).mono ?_
  rintro e w2 ⟨v2, rfl, hr2, hb2⟩
  have hb2' := (below_alloc w1 (.cells #[.slice a1 (turnB 54 (kblock key)).length c1, .slice ab bb.length cb'] 22)).trans (hb2.mono (by simp))
  have HS2 : Hid (Below w.heap.size w w2) := HS1.out.trans (hb2'.mono HS1.out.size)
  have HR2 : Hid (Blk w2 w.heap.size (cb zb32) 27) := HR1.out.below hb2' HR1.out.lt
  obtain ⟨m, HMM⟩ : ∃ x, Hid (x = turnB 54 (kblock key) ++ bb) := ⟨_, rfl⟩
  rw [flat_two', ← HMM.out] at hr2
  have HLm : Hid (m.length < 140737488350000) := by show _ < _; rw [HMM.out, List.length_append, len_turnB, HKB.out]; have := HL.out; omega
  rw [← HMM.out] at HM
  have HV2 : Hid (Reads w2 v2 m) := hr2
  clear hr2 hb2 hb2' HS1 HR1 HV1
  go_wp2_with fail
  refine (rsum_any _ m _ HV2.out HLm.out).mono ?_
  rintro e w3 ⟨rfl, hb3⟩
  obtain ⟨dd, HD⟩ : ∃ x, Hid (x = dig m) := ⟨_, rfl⟩
  have HDL : Hid (dd.length = 32) := by show _ = _; rw [HD.out]; exact len_dig' _
  rw [← HD.out]
  rw [← HD.out] at HM
  have HS3 : Hid (Below w.heap.size w w3) := HS2.out.trans (hb3.mono HS2.out.size)
  have HR3 : Hid (Blk w3 w.heap.size (cb zb32) 27) := HR2.out.below hb3 HR2.out.lt
  clear hb3 HS2 HR2 HV2 HD HMM HLm
  obtain ⟨ds, HDS⟩ : ∃ x, Hid (x = cb dd) := ⟨_, rfl⟩
  have HLd : Hid (ds.length = 32) := by show _ = _; rw [HDS.out, cb_len, HDL.out]
  have HZ : Hid ((Tryd.prog.info? 27).map (·.size) = some ds.length) := by show _ = _; rw [HLd.out]; exact Tryd.info27
  have H1 : Hid (∀ v ∈ ds, v.oneCell' = true) := by show ∀ _, _; rw [HDS.out]; exact cb_one _
  rw [← HDS.out]
  go_wp2_with (refine wpList_store_mid rfl 27 _ _ rfl _ 0 ds.toArray rfl rfl ?_ (by simpa using HZ.out) (all_oneCell_toArray H1.out) ?_; exact Blk.there (Blk.new_at rfl (cb zb32) _) _ _ (by rw [List.size_toArray, HLd.out, cb_len, len_zb32]; omega); refine Hid.out ?_)
  generalize h0 : Obj.cells _ 27 = o32
  have ho : o32 = Obj.cells (cb zb32).toArray 27 := h0.symm
  clear h0
  subst ho
  have b4 : Below w3.heap.size w3 ((w3.alloc (.cells (cb zb32).toArray 27)).setCells w3.heap.size 0 ds) := Below.setCells _ (Nat.le_refl _) _ _ _ (below_alloc _ _)
  have HD4 : Hid (Blk ((w3.alloc (.cells (cb zb32).toArray 27)).setCells w3.heap.size 0 ds) w3.heap.size (cb dd) 27) := by
    rw [← HDS.out]
    exact (Blk.new w3 (cb zb32) 27).whole ds (by rw [HLd.out, cb_len, len_zb32])
  generalize World.setCells _ _ _ _ = w4 at *
  have HR4 : Hid (Blk w4 w.heap.size (cb zb32) 27) := HR3.out.below b4 HR3.out.lt
  have HS4 : Hid (Below w.heap.size w w4) := HS3.out.trans (b4.mono HS3.out.size)
  generalize w3.heap.size = gd at *
  clear b4 HR3 HS3 HDS HLd HZ H1
  unfold Hid
  go_wp2_with fail
  refine wp_region_any (by kernel_rfl) ?_
  change wpAny _ _ _ _ _ _ _ (World.drew _)
  refine wpAny_take (i := 0) (v := vk) rfl (by kernel_rfl) (by kernel_rfl) (by kernel_rfl) (fun _ _ _ h => h) (Or.inl ⟨by rfl, fun wx => by simp [go_sem]⟩) ?_
  simp only [Act.put, List.getElem_toArray, List.getElem_cons_zero, List.setIfInBounds_toArray, List.set_cons_zero, List.set_cons_succ]
  refine wpAny_take (i := 2) (v := .slice (some ⟨gd, 0, none⟩) 32 32) rfl (by kernel_rfl) (by kernel_rfl) (by kernel_rfl) (fun _ _ _ h => h) (Or.inl ⟨by rfl, fun wx => by simp [execOp, Act.eval, slice_dig]⟩) ?_
  simp only [Act.put, List.getElem_toArray, List.getElem_cons_succ, List.getElem_cons_zero, List.setIfInBounds_toArray, List.set_cons_zero, List.set_cons_succ]
  have HR5 : Hid (Blk w4.drew w.heap.size (cb zb32) 27) := HR4.out.drew
  have HD5 : Hid (Blk w4.drew gd (cb dd) 27) := HD4.out.drew
  have HS5 : Hid (Below w.heap.size w w4.drew) := HS4.out.drew
  generalize w4.drew = w5 at *
  clear HR4 HD4 HS4
  refine wpAny_enter 1 (by kernel_rfl) rfl (by rfl) (f := 31) (args := #[vk, .int .u8 92]) (by simp [go_sem]) (rkey_any vk key 92 w5 (HKR.out.below HS5.out) HLK.out) ?_
  rintro e w6 ⟨v6, rfl, hr6, hb6⟩
  refine ⟨_, rfl, ?_⟩
  simp only [Act.put, List.getElem_toArray, List.getElem_cons_succ, List.getElem_cons_zero, List.setIfInBounds_toArray, List.set_cons_zero, List.set_cons_succ]
  have HV6 : Hid (Reads w6 v6 (turnB 92 (kblock key))) := hr6
  obtain ⟨a6, c6, rfl, _, _, _⟩ := hr6
  have HR6 : Hid (Blk w6 w.heap.size (cb zb32) 27) := HR5.out.below hb6 HR5.out.lt
  have HD6 : Hid (Blk w6 gd (cb dd) 27) := HD5.out.below hb6 HD5.out.lt
  have HS6 : Hid (Below w.heap.size w w6) := HS5.out.trans (hb6.mono HS5.out.size)
  clear hb6 HR5 HD5 HS5
  have hrd : Reads w6 (.slice (some ⟨gd, 0, none⟩) 32 32) dd := HD6.out.reads HDL.out.symm (by have := HDL.out; omega)
  refine wpAny_step 3 (.slice (some ⟨w6.heap.size, 0, none⟩) 2 2) (w6.alloc (.cells #[.slice a6 (turnB 92 (kblock key)).length c6, .slice (some ⟨gd, 0, none⟩) 32 32] 22)) (by kernel_rfl) rfl (by rfl) (by simp [go_sem]) ?_
  simp only [Act.put, List.getElem_toArray, List.getElem_cons_succ, List.getElem_cons_zero, List.setIfInBounds_toArray, List.set_cons_zero, List.set_cons_succ]
  have hb7 := below_alloc w6 (.cells #[.slice a6 (turnB 92 (kblock key)).length c6, .slice (some ⟨gd, 0, none⟩) 32 32] 22)
  refine wpAny_enter 4 (by kernel_rfl) rfl (by rfl) (f := 30) (args := #[.slice (some ⟨w6.heap.size, 0, none⟩) 2 2]) (by simp [go_sem]) (rjoin_any _ [turnB 92 (kblock key), dd] _ (readsL_two HV6.out hrd) (by rw [flat_two', List.length_append, len_turnB, HKB.out, HDL.out]; omega) (by simp)) ?_
  rintro e w8 ⟨v8, rfl, hr8, hb8⟩
  refine ⟨_, rfl, ?_⟩
  simp only [Act.put, List.getElem_toArray, List.getElem_cons_succ, List.getElem_cons_zero, List.setIfInBounds_toArray, List.set_cons_zero, List.set_cons_succ]
  have hb8' := hb7.trans (hb8.mono (by simp))
  have HR8 : Hid (Blk w8 w.heap.size (cb zb32) 27) := HR6.out.below hb8' HR6.out.lt
  have HS8 : Hid (Below w.heap.size w w8) := HS6.out.trans (hb8'.mono HS6.out.size)
  rw [flat_two'] at hr8
  clear hb8 hb8' hb7 HR6 HD6 HS6 hrd HV6
  refine wpAny_enter 5 (by kernel_rfl) rfl (by rfl) (f := 29) (args := #[v8]) (by simp [go_sem]) (rsum_any _ (turnB 92 (kblock key) ++ dd) _ hr8 (by rw [List.length_append, len_turnB, HKB.out, HDL.out]; omega)) ?_
  rintro e w9 ⟨rfl, hb9⟩
  refine ⟨_, rfl, ?_⟩
  rw [← HM.out]
  obtain ⟨es, HES⟩ : ∃ x, Hid (x = cb (hmac key bb)) := ⟨_, rfl⟩
  have HLe : Hid (es.length = 32) := by show _ = _; rw [HES.out, cb_len, len_hmac]
  have HZe : Hid ((Tryd.prog.info? 27).map (·.size) = some es.length) := by show _ = _; rw [HLe.out]; exact Tryd.info27
  have H1e : Hid (∀ v ∈ es, v.oneCell' = true) := by show ∀ _, _; rw [HES.out]; exact cb_one _
  have HR9 : Hid (Blk w9 w.heap.size (cb zb32) 27) := HR8.out.below hb9 HR8.out.lt
  have HS9 : Hid (Below w.heap.size w w9) := HS8.out.trans (hb9.mono HS8.out.size)
  clear hb9 HR8 HS8 hr8
  rw [← HES.out]
  simp only [Act.put, List.getElem_toArray, List.getElem_cons_succ, List.getElem_cons_zero, List.setIfInBounds_toArray, List.set_cons_zero, List.set_cons_succ]
  refine wpAny_store 6 27 _ _ (by kernel_rfl) rfl (by rfl) rfl w.heap.size 0 es.toArray rfl rfl (HR9.out.there 0 _ (by rw [List.size_toArray, HLe.out, cb_len, len_zb32]; omega)) (by simpa using HZe.out) (all_oneCell_toArray H1e.out) ?_
  refine wpAny_done (by kernel_rfl) ?_ _
  have hB := HR9.out.whole es (by rw [HLe.out, cb_len, len_zb32])
  have hBe := Below.setCells w.heap.size (Nat.le_refl _) es 0 _ HS9.out
  generalize World.setCells _ _ _ _ = w10 at *
  go_wp2
  refine bodyPost_ret (v := .agg es.toArray) (results_cell_row (by rfl) _ _ w.heap.size 27 _ (0, 0) _ rfl hB Tryd.underlying27 rfl (by simpa using HZe.out)) rfl ⟨by rw [HES.out], hBe⟩
end Go.Proofs.YtmkjcgjbhibnpaaDoor
/- The walks of tags.number and blazonref03.Number: a number's eight bytes, the highest first. -/
namespace Go.Proofs.YtmkjcgjbhibnpaaDoor
open Go.RowKit
set_option maxRecDepth 100000
/-- a number's eight bytes, the highest first -/
def num8 (n : Nat) : List (BitVec 8) := tl8 n 8
theorem len_num8 (n : Nat) : (num8 n).length = 8 := by simp [num8, tl8]
def numL (n : Nat) : Nat → List (BitVec 8)
  | 0 => List.replicate 8 0
  | k + 1 => (numL n k).set (7 - k) (BitVec.ofNat 8 (n / 2 ^ (8 * k)))
theorem len_numL (n k : Nat) : (numL n k).length = 8 := by
  induction k with
  | zero => rfl
  | succ k ih => simp [numL, ih]
theorem numL_eq (n : Nat) : numL n 8 = num8 n := by
  simp [numL, num8, tl8, List.range_succ, List.replicate]
structure NmInv (w : World) (g : Nat) (l : List (BitVec 8)) (t : TypeId) (wr : World) : Prop where
  blk : Blk wr g (cb l) t
  bel : Below w.heap.size w wr
  le : w.heap.size ≤ g
theorem NmInv.set {w wr : World} {g : Nat} {n k : Nat} {t : TypeId} (h : NmInv w g (numL n k) t wr) (v : Int) (hv : v = ((BitVec.ofNat 8 (n / 2 ^ (8 * k))).toNat : Int)) : NmInv w g (numL n (k + 1)) t (wr.setCell ⟨g, 7 - k, none⟩ (.int .u8 v)) := by
  subst hv
  exact ⟨by have := h.blk.set (7 - k) (.int .u8 ((BitVec.ofNat 8 (n / 2 ^ (8 * k))).toNat : Int)); rw [cb_set] at this; exact this, h.bel.setCell h.le _, h.le⟩
theorem slice_a8b (g : Nat) (w : World) : (Instr.sliceAt 73 (.pointer (some ⟨g, 0, none⟩)) none none none).run Tryd.prog w = .ok (.slice (some ⟨g, 0, none⟩) 8 8) w := by kernel_rfl
set_option maxHeartbeats 400000 in
theorem number_any (n : Nat) (w : World) : Calls Tryd.prog 36 #[.int .u64 (n : Int)] w fun e w' => ∃ v, e = .returned v ∧ Reads w' v (num8 n) ∧ Below w.heap.size w w' := by
  have HE : Hid (numL n 8 = num8 n) := numL_eq n
  go_enter Tryd.func36, Tryd.ntmps36
  go_wp2
  go_loopw [5] (fun i wr => ∃ k : Nat, k ≤ 8 ∧ i = .int .i64 k ∧ NmInv w w.heap.size (numL n k) 73 wr) (fun i _ => 8 - (intOf i).toNat)
  case atStart => exact ⟨0, by omega, rfl, Blk.new w (cb (numL n 0)) 73, below_alloc _ _, Nat.le_refl _⟩
  case round =>
    obtain ⟨k, hk, rfl, hI⟩ := hrel
    by_cases hlt : k < 8
    · obtain ⟨o, cT⟩ : ∃ o, wr.cell? ⟨w.heap.size, 7 - k, none⟩ = some o := ⟨_, by rw [hI.blk.cell, cb_get _ _ (by rw [len_numL]; omega)]⟩
      have fT : wr.frozen? ⟨w.heap.size, 7 - k, none⟩ = false := hI.blk.frozen _
      have e7 : (7 : Int) - (k : Int) = ((7 - k : Nat) : Int) := by omega
      go_wp2
      go_roundw
      case rel =>
        refine ⟨k + 1, by omega, by go_num, ?_⟩
        refine hI.set _ ?_
        simp
      case measure => simp [intOf]; omega
    · have hk8 : k = 8 := by omega
      subst hk8
      rw [HE.out] at hI
      have hs := slice_a8b w.heap.size
      go_wp2
      go_ret
      exact ⟨_, rfl, hI.blk.reads (len_num8 n).symm (by rw [len_num8]; omega), hI.bel⟩
theorem div_step (n k : Nat) : n / 2 ^ (8 * k) / 256 = n / 2 ^ (8 * (k + 1)) := by
  rw [Nat.div_div_eq_div_mul, Nat.mul_add, Nat.pow_add]
set_option maxHeartbeats 400000 in
theorem rnumber_any (n : Nat) (hn : n < 18446744073709551616) (w : World) : Calls Tryd.prog 26 #[.int .u64 (n : Int)] w fun e w' => ∃ v, e = .returned v ∧ Reads w' v (num8 n) ∧ Below w.heap.size w w' := by
  have HE : Hid (numL n 8 = num8 n) := numL_eq n
  have hm : (Instr.makeSlice 22 (.int .i64 8) (.int .i64 8)).run Tryd.prog w = .ok (.slice (some ⟨w.heap.size, 0, none⟩) 8 8) (w.alloc (.cells (cb (List.replicate 8 0)).toArray 5)) := make_n .i64 8 (by decide) w
  go_enter Tryd.func26, Tryd.ntmps26
  go_wp2
  go_loopw [0, 4] (fun u i wr => ∃ k : Nat, k ≤ 8 ∧ i = .int .i64 (7 - (k : Int)) ∧ u = .int .u64 ((n / 2 ^ (8 * k) : Nat) : Int) ∧ NmInv w w.heap.size (numL n k) 5 wr) (fun _ i _ => (intOf i + 1).toNat)
  case atStart => exact ⟨0, by omega, rfl, by simp, Blk.new w (cb (numL n 0)) 5, below_alloc _ _, Nat.le_refl _⟩
  case round =>
    clear hm
    obtain ⟨k, hk, rfl, rfl, hI⟩ := hrel
    by_cases hlt : k < 8
    · obtain ⟨o, cT⟩ : ∃ o, wr.cell? ⟨w.heap.size, 7 - k, none⟩ = some o := ⟨_, by rw [hI.blk.cell, cb_get _ _ (by rw [len_numL]; omega)]⟩
      have fT : wr.frozen? ⟨w.heap.size, 7 - k, none⟩ = false := hI.blk.frozen _
      have e7 : (7 : Int) - (k : Int) = ((7 - k : Nat) : Int) := by omega
      have HD : Hid (n / 2 ^ (8 * k) / 256 = n / 2 ^ (8 * (k + 1))) := div_step n k
      have HI : Hid (∀ v : Int, v = ((BitVec.ofNat 8 (n / 2 ^ (8 * k))).toNat : Int) → NmInv w w.heap.size (numL n (k + 1)) 5 (wr.setCell ⟨w.heap.size, 7 - k, none⟩ (.int .u8 v))) := fun v hv => hI.set v hv
      have hx : n / 2 ^ (8 * k) < 18446744073709551616 := Nat.lt_of_le_of_lt (Nat.div_le_self _ _) hn
      clear hI HE hn
      generalize n / 2 ^ (8 * k) = x at *
      go_wp2
      go_roundw
      case rel =>
        refine ⟨k + 1, by omega, by congr 1; omega, ?_, ?_⟩
        · rw [← HD.out]; simp
        · refine HI.out _ ?_
          simp
      case measure => simp [intOf]; omega
    · have hk8 : k = 8 := by omega
      subst hk8
      rw [HE.out] at hI
      go_wp2
      go_ret
      exact ⟨_, rfl, hI.blk.reads (len_num8 n).symm (by rw [len_num8]; omega), hI.bel⟩
end Go.Proofs.YtmkjcgjbhibnpaaDoor
/- The walks of tags.tagged and blazonref03.sign: a sign, and texts behind it; of tags.count; and a string's bytes. -/
namespace Go.Proofs.YtmkjcgjbhibnpaaDoor
open Go.RowKit
set_option maxRecDepth 100000
theorem strB_size (l : List (BitVec 8)) : (strB l).size = l.length := by
  have h := congrArg List.length (strOfNums_data (l.map fun b => (b.toNat : Int)))
  simpa [strB] using h
theorem strB_data (l : List (BitVec 8)) : (strB l).data.toList = l.map fun b => UInt8.ofNat b.toNat := by
  unfold strB
  rw [strOfNums_data]
  simp
theorem conv_string (l : List (BitVec 8)) (w : World) : (convert 9 22 (.string (strB l))).run Tryd.prog w = .ok (.slice (some ⟨w.heap.size, 0, none⟩) l.length (grownCap w l.length 0 5)) (Lib.bytesWorld w 5 (strB l)) := by
  have := Lib.run_convert_string_bytes (P := Tryd.prog) w 9 22 5 (strB l) Tryd.underlying9 Tryd.underlying22 Tryd.underlying5
  rw [strB_size] at this
  exact this
theorem bytesWorld_reads (l : List (BitVec 8)) (w : World) : Reads (Lib.bytesWorld w 5 (strB l)) (.slice (some ⟨w.heap.size, 0, none⟩) l.length (grownCap w l.length 0 5)) l := by
  refine ⟨_, _, rfl, grownCap_ge _ _ _ _, (fun h => by cases h), fun _ => ⟨w.heap.size, 0, rfl, fun j hj => ?_⟩⟩
  rw [Nat.zero_add, Lib.bytesWorld_cell _ _ _ _ (by rw [strB_size]; exact hj), strB_data]
  have h2 : (l.map fun b => UInt8.ofNat b.toNat).getD j 0 = UInt8.ofNat (l.getD j 0).toNat := by simp [hj]
  rw [h2]
  have := (l.getD j 0).isLt
  simp
theorem bytesWorld_below (l : List (BitVec 8)) (w : World) : Below w.heap.size w (Lib.bytesWorld w 5 (strB l)) :=
  ⟨rfl, rfl, rfl, by rw [Lib.bytesWorld_size]; omega, fun k hk => Lib.bytesWorld_at_old _ _ _ _ hk⟩
set_option maxHeartbeats 400000 in
theorem count_any (l : List (BitVec 8)) (hl : l.length < 18446744073709551616) (w : World) : Calls Tryd.prog 35 #[.string (strB l)] w fun e w' => ∃ v, e = .returned v ∧ Reads w' v (num8 l.length) ∧ Below w.heap.size w w' := by
  have hs := strB_size l
  generalize strB l = s at *
  generalize l.length = n at *
  go_enter Tryd.func35, Tryd.ntmps35
  go_wp2_with (go_at_call 36; refine (number_any n _).mono ?_; rintro e w1 ⟨v, rfl, hr, hb⟩)
  go_ret
  exact ⟨_, rfl, hr, hb⟩
theorem make_room (w : World) : (Instr.makeSlice 22 (.int .i64 0) (.int .i64 128)).run Tryd.prog w =
    .ok (.slice (some ⟨w.heap.size, 0, none⟩) 0 128) (w.alloc (.cells (cb (List.replicate 128 0)).toArray 5)) := by
  obtain ⟨i0, hi, hz0, hz1, hz2⟩ := info_parts Tryd.infob
  rw [run_make (P := Tryd.prog) w 22 5 i0 _ Tryd.underlying22 hi hz0 .i64 .i64 _ _ (by omega) (by omega) (by rw [hz2]; omega) (by omega)]
  rw [hz1, Nat.mul_one]
  congr 3
  kernel_rfl
theorem own_room (w : World) (base : Nat) (hb : base ≤ w.heap.size) : OwnB (w.alloc (.cells (cb (List.replicate 128 0)).toArray 5)) base (.slice (some ⟨w.heap.size, 0, none⟩) 0 128) [] := by
  refine ⟨rfl, Or.inr ⟨w.heap.size, 128, _, rfl, hb, heap_alloc_new w _, Nat.zero_le _, by decide, by simp [cb_len], rfl⟩⟩
theorem OwnB.cut {w : World} {base : Nat} {v : Value} {l : List (BitVec 8)} (h : OwnB w base v l) (hne : l ≠ []) : ∃ g cap, v = .slice (some ⟨g, 0, none⟩) l.length cap ∧ l.length ≤ cap ∧ Reads w (.slice (some ⟨g, 0, none⟩) l.length l.length) l := by
  obtain ⟨ad, cap, hv, hc, hnn, hx⟩ := h.reads
  obtain ⟨h1, h2⟩ := h
  rcases h2 with ⟨rfl, h0⟩ | ⟨g, cap', cur, rfl, hg, hh, hc', hm, hs, ht⟩
  · exact absurd (List.eq_nil_of_length_eq_zero h0) hne
  · cases hv
    exact ⟨g, cap, rfl, hc', _, _, rfl, Nat.le_refl _, (fun h => by cases h), hx⟩
set_option maxHeartbeats 400000 in
theorem tagged_any (c : BitVec 8) (v : Value) (ls : List (List (BitVec 8))) (w : World) (hR : ReadsL w v ls) (hl : ls.flatten.length < 140737488355328) (hn : ls.length < 4611686018427387904) :
    Calls Tryd.prog 34 #[.int .u8 (c.toNat : Int), v] w fun e w' => ∃ v', e = .returned v' ∧ Reads w' v' (c :: ls.flatten) ∧ Below w.heap.size w w' := by
  have HR : Hid (ReadsL w v ls) := hR
  obtain ⟨ad, cap, hv, hcap, _, _⟩ := hR
  obtain ⟨n, HNN⟩ : ∃ n, Hid (n = ls.length) := ⟨_, rfl⟩
  rw [← HNN.out] at hv hcap hn
  subst hv
  have hm := make_room w
  have HO : Hid (OwnB (w.alloc (.cells (cb (List.replicate 128 0)).toArray 5)) w.heap.size (.slice (some ⟨w.heap.size, 0, none⟩) 0 128) []) := own_room w _ (Nat.le_refl _)
  have HB0 : Hid (Below w.heap.size w (w.alloc (.cells (cb (List.replicate 128 0)).toArray 5))) := below_alloc _ _
  have HS0 : Hid (w.heap.size + 1 ≤ (w.alloc (.cells (cb (List.replicate 128 0)).toArray 5)).heap.size) := by show _ ≤ _; simp
  generalize w.alloc (.cells (cb (List.replicate 128 0)).toArray 5) = w0 at *
  generalize Value.slice (some ⟨w.heap.size, 0, none⟩) 0 128 = v0 at *
  go_enter Tryd.func34, Tryd.ntmps34
  go_wp2_with (at_builtin; refine wpList_appendB rfl (.tmp 8) (.tmp 10) rfl w.heap.size _ [] rfl (HO.out.below (below_alloc _ _) (Nat.le_refl _)) _ [c] rfl (reads_val w0 _ c rfl) (by simp) (by have := HS0.out; simp; omega) ?_; intro v1 w1 hown1 hb1 _)
  have hI : RpInv w [c] v1 w1 := ⟨hown1, HB0.out.trans (((Below.refl _ _).alloc (by have := HS0.out; omega) _).trans hb1)⟩
  clear hown1 hb1 HO HB0 hm HS0
  go_loopw [5, 14] (fun u i wr => ∃ k : Nat, k ≤ n ∧ i = .int .i64 k ∧ RpInv w (c :: (ls.take k).flatten) u wr) (fun _ i _ => n - (intOf i).toNat)
  case atStart => exact ⟨0, by omega, rfl, hI⟩
  case round =>
    clear hI
    obtain ⟨k, hk, rfl, hI⟩ := hrel
    have HI : Hid (RpInv w (c :: (ls.take k).flatten) u5 wr) := hI
    by_cases hlt : k < n
    · obtain ⟨ad', cap', hv', _, _, hx⟩ := HR.out.below hI.bel
      rw [← HNN.out] at hv' hx
      simp only [Value.slice.injEq, true_and] at hv'
      obtain ⟨rfl, rfl⟩ := hv'
      obtain ⟨b, off, rfl, hx2⟩ := hx (by omega)
      obtain ⟨vj, cj, hj⟩ := hx2 k hlt
      have HJ : Hid (Reads wr vj (ls.getD k [])) := hj
      have HF : Hid ((ls.take (k + 1)).flatten = (ls.take k).flatten ++ ls.getD k []) := flat_take ls k (by rw [← HNN.out]; exact hlt)
      have HL : Hid ((c :: (ls.take k).flatten).length + (ls.getD k []).length ≤ 140737488355328) := by
        have h1 := flat_le ls (k + 1)
        rw [HF.out, List.length_append] at h1
        show _ ≤ _
        rw [List.length_cons]
        omega
      clear hx hx2 hj hI
      go_wp2_with (at_builtin; refine wpList_appendB rfl (.tmp 18) (.tmp 19) rfl w.heap.size _ (c :: (ls.take k).flatten) rfl HI.out.own _ (ls.getD k []) rfl HJ.out HL.out HI.out.bel.size ?_; intro v2 w2 hown2 hb2 _)
      have hJ : RpInv w (c :: (ls.take (k + 1)).flatten) v2 w2 := ⟨by rw [HF.out]; exact hown2, HI.out.bel.trans hb2⟩
      clear hown2 hb2 HI
      go_wp2
      go_roundw
      case rel => exact ⟨k + 1, by omega, by go_num, hJ⟩
      case measure => simp [intOf]; omega
    · have hkn : k = n := by omega
      subst hkn
      rw [HNN.out, List.take_of_length_le (Nat.le_refl _)] at hI
      obtain ⟨g, cap', rfl, hc', hr⟩ := hI.own.cut (by simp)
      have HV : Hid (Reads wr (.slice (some ⟨g, 0, none⟩) (c :: ls.flatten).length (c :: ls.flatten).length) (c :: ls.flatten)) := hr
      have hbel := hI.bel
      have hcl : (c :: ls.flatten).length < 140737488355329 := by rw [List.length_cons]; omega
      clear hI HI HR hr hl
      generalize (c :: ls.flatten).length = m at *
      go_wp2
      go_ret
      exact ⟨_, rfl, HV.out, hbel⟩
end Go.Proofs.YtmkjcgjbhibnpaaDoor
/- Regions that draw their order and hold loads beside calls: a step at a time, under a condition on the world that each step keeps. -/
namespace Go.Proofs.YtmkjcgjbhibnpaaDoor
open Go.RowKit
set_option maxRecDepth 100000
theorem wpAnyH_enter {P : Program} {md : Region.Mode} {ops : Array Oper} {Q : Exit → Act → World → Prop} {S : World → Prop} {fuel : Nat} {listed : Array Bool} {a : Act} {w : World} (i : Nat) {oi : Oper} {f : FuncId} {args : Array Value} {R : Ending → World → Prop}
    (hr : Region.ready md ops listed = [i]) (hi : ops[i]? = some oi) (hw : Region.wanted oi (yielded ops a.tmps) = true) (he : (execOp a.eval oi).run P w = .ok (.enter f args) w) (hc : Calls P f args w R)
    (h : ∀ e w', R e w' → ∃ v, e = .returned v ∧ S w' ∧ wpAnyH P md ops Q S fuel (listed.setIfInBounds i true) (a.put oi.dst v) w') : wpAnyH P md ops Q S (fuel + 1) listed a w := by
  refine wpAnyH_all hr (by simp) (fun j hj => ?_)
  obtain rfl : j = i := by simpa using hj
  unfold wpOp
  rw [hi]
  simp only [hw, if_true]
  left
  unfold Oper.wp
  rw [he, Oper.upon_enter]
  refine hc.mono ?_
  intro e w' hR
  obtain ⟨v, rfl, hv⟩ := h e w' hR
  exact hv
theorem wpAnyH_step {P : Program} {md : Region.Mode} {ops : Array Oper} {Q : Exit → Act → World → Prop} {S : World → Prop} {fuel : Nat} {listed : Array Bool} {a : Act} {w : World} (i : Nat) {oi : Oper} (v : Value) (w' : World)
    (hr : Region.ready md ops listed = [i]) (hi : ops[i]? = some oi) (hw : Region.wanted oi (yielded ops a.tmps) = true) (he : (execOp a.eval oi).run P w = .ok (.value v) w') (hS : S w')
    (h : wpAnyH P md ops Q S fuel (listed.setIfInBounds i true) (a.put oi.dst v) w') : wpAnyH P md ops Q S (fuel + 1) listed a w := by
  refine wpAnyH_all hr (by simp) (fun j hj => ?_)
  obtain rfl : j = i := by simpa using hj
  unfold wpOp
  rw [hi]
  simp only [hw, if_true]
  left
  unfold Oper.wp
  rw [he, Oper.upon_value]
  exact ⟨hS, h⟩
theorem load_run {P : Program} {a : Act} {o : Oper} (ty : TypeId) (x : Operand) (ho : o.op = .load ty x) (b of : Nat) (hx : a.eval x = .pointer (some ⟨b, of, none⟩)) (cs : List Value) (d : TypeDesc) {w : World} (hc : w.rangeAt b of cs)
    (hu : P.underlying ty = some d) (hd : d.isRow = true) (hi : (P.info? ty).map (·.size) = some cs.length) : (execOp a.eval o).run P w = .ok (.value (.agg cs.toArray)) w := by
  unfold execOp
  simp only [ho, hx, Instr.loadAt, Instr.sureAddr, Sem.run_bind, Sem.run_pure, Result.andThen_ok, run_loadVar_mid w b of ty cs d hc hu hd hi]
end Go.Proofs.YtmkjcgjbhibnpaaDoor
/- Regions that draw their order: two that may come up; what is read in a world that keeps the blocks of old. -/
namespace Go.Proofs.YtmkjcgjbhibnpaaDoor
open Go.RowKit
set_option maxRecDepth 100000
theorem wpOp_vl {P : Program} {ops : Array Oper} {Q : Exit → Act → World → Prop} {K : Act → World → Prop} {a : Act} {w : World} (i : Nat) {oi : Oper} (v : Value) (w' : World) (hi : ops[i]? = some oi) (hw : Region.wanted oi (yielded ops a.tmps) = true)
    (he : (execOp a.eval oi).run P w = .ok (.value v) w') (h : K (a.put oi.dst v) w') : wpOp P ops Q i K a w := by
  unfold wpOp
  rw [hi]
  simp only [hw, if_true]
  left
  unfold Oper.wp
  rw [he, Oper.upon_value]
  exact h
theorem wpOp_en {P : Program} {ops : Array Oper} {Q : Exit → Act → World → Prop} {K : Act → World → Prop} {a : Act} {w : World} (i : Nat) {oi : Oper} {f : FuncId} {args : Array Value} {R : Ending → World → Prop} (hi : ops[i]? = some oi) (hw : Region.wanted oi (yielded ops a.tmps) = true)
    (he : (execOp a.eval oi).run P w = .ok (.enter f args) w) (hc : Calls P f args w R) (h : ∀ e w', R e w' → ∃ v, e = .returned v ∧ K (a.put oi.dst v) w') : wpOp P ops Q i K a w := by
  unfold wpOp
  rw [hi]
  simp only [hw, if_true]
  left
  unfold Oper.wp
  rw [he, Oper.upon_enter]
  refine hc.mono ?_
  intro e w' hR
  obtain ⟨v, rfl, hv⟩ := h e w' hR
  exact hv
theorem wpAnyH_pair {P : Program} {md : Region.Mode} {ops : Array Oper} {Q : Exit → Act → World → Prop} {S : World → Prop} {fuel : Nat} {listed : Array Bool} {a : Act} {w : World} (i j : Nat) (hr : Region.ready md ops listed = [i, j])
    (h1 : wpOp P ops Q i (fun a' w' => S w' ∧ wpAnyH P md ops Q S fuel (listed.setIfInBounds i true) a' w') a w) (h2 : wpOp P ops Q j (fun a' w' => S w' ∧ wpAnyH P md ops Q S fuel (listed.setIfInBounds j true) a' w') a w) : wpAnyH P md ops Q S (fuel + 1) listed a w := by
  refine wpAnyH_all hr (by simp) (fun k hk => ?_)
  rcases List.mem_cons.1 hk with rfl | hk
  · exact h1
  · obtain rfl : k = j := by simpa using hk
    exact h2
/-- the world wx keeps the blocks of w0 -/
def Over (w0 wx : World) : Prop := Below w0.heap.size w0 wx
theorem Over.out {w0 wx : World} (h : Over w0 wx) : Below w0.heap.size w0 wx := h
theorem Over.refl (w : World) : Over w w := Below.refl _ _
theorem Over.more {w0 wx wy : World} (h : Over w0 wx) (hb : Below wx.heap.size wx wy) : Over w0 wy := Below.trans h (hb.mono (Below.size h))
theorem fl1 (a : List (BitVec 8)) : [a].flatten.length = a.length := by simp
theorem fl4 (a b c d : List (BitVec 8)) : [a, b, c, d].flatten.length = a.length + (b.length + (c.length + d.length)) := by simp
set_option maxHeartbeats 400000 in
theorem rsign_any (c : BitVec 8) (v : Value) (ls : List (List (BitVec 8))) (w : World) (hR : ReadsL w v ls) (hl : ls.flatten.length < 140737488355328) (hn : ls.length < 4611686018427387904) :
    Calls Tryd.prog 25 #[.int .u8 (c.toNat : Int), v] w fun e w' => ∃ v', e = .returned v' ∧ Reads w' v' (c :: ls.flatten) ∧ Below w.heap.size w w' := by
  have HR : Hid (ReadsL w v ls) := hR
  clear hR
  go_enter Tryd.func25, Tryd.ntmps25
  go_wp2_with fail
  have rC := reads_val w _ c rfl
  have b0 := below_alloc w (.cells #[.int .u8 (c.toNat : Int)] 5)
  refine (rjoin_any _ ls _ (HR.out.below b0) (by omega) hn).mono ?_
  rintro e w1 ⟨v1, rfl, r1, b1⟩
  replace rC := rC.below b1
  obtain ⟨fl, HFL⟩ : ∃ x, Hid (x = ls.flatten) := ⟨_, rfl⟩
  rw [← HFL.out] at r1 hl
  have HB1 : Hid (Below w.heap.size w w1) := b0.trans (b1.mono b0.size)
  clear b0 b1
  obtain ⟨a1, c1, rfl, _, _, _⟩ := id r1
  have HL : Hid (ReadsL (w1.alloc (.cells #[.slice (some ⟨w.heap.size, 0, none⟩) 1 1, .slice a1 fl.length c1] 22)) (.slice (some ⟨w1.heap.size, 0, none⟩) 2 2) [[c], fl]) := readsL_two rC r1
  have HE : Hid ([[c], fl].flatten = c :: fl) := by simp [Hid]
  clear rC r1
  go_wp2_with fail
  refine (rjoin_any _ _ _ HL.out (by rw [HE.out, List.length_cons]; omega) (by simp)).mono ?_
  rintro e w2 ⟨v2, rfl, r2, b2⟩
  rw [HE.out] at r2
  have b3 := (below_alloc w1 (.cells #[.slice (some ⟨w.heap.size, 0, none⟩) 1 1, .slice a1 fl.length c1] 22)).trans (b2.mono (by simp))
  have HB2 : Hid (Below w.heap.size w w2) := HB1.out.trans (b3.mono HB1.out.size)
  have HV : Hid (Reads w2 v2 (c :: ls.flatten)) := by rw [← HFL.out]; exact r2
  clear r2 b2 b3 HL
  go_wp2
  go_ret
  exact ⟨_, rfl, HV.out, HB2.out⟩
end Go.Proofs.YtmkjcgjbhibnpaaDoor
/- The walks of Of, EmptyBytes, SameBinding and of the statements' own bound (layer 3). -/
namespace Go.Proofs.YtmkjcgjbhibnpaaDoor
open Go.RowKit
set_option maxRecDepth 100000
set_option maxHeartbeats 1000000 in
theorem sameBinding_any (na nb ka kb : List (BitVec 8)) (va vb : Value) (sa sb : Nat) (w : World) (ha : Reads w va ka) (hb : Reads w vb kb) :
    Calls Tryd.prog 12 #[.agg #[.string (strB na), va, .int .u64 (sa : Int)], .agg #[.string (strB nb), vb, .int .u64 (sb : Int)]] w fun e w' => e = .returned (.bool (decide (na = nb ∧ sa = sb ∧ ka = kb))) ∧ Below w.heap.size w w' := by
  have hs1 := strB_inj na nb
  have hs2 := strB_inj ka kb
  have HA : Hid (Reads w va ka) := ha
  have HB : Hid (Reads w vb kb) := hb
  obtain ⟨a1, c1, rfl, _, _, _⟩ := ha
  obtain ⟨a2, c2, rfl, _, _, _⟩ := hb
  obtain ⟨W, HW⟩ : ∃ zz, Hid (zz = (w.alloc (.cells #[.string (strB na), .slice a1 ka.length c1, .int .u64 (sa : Int)] 25)).alloc (.cells #[.string (strB nb), .slice a2 kb.length c2, .int .u64 (sb : Int)] 25)) := ⟨_, rfl⟩
  have HBW : Hid (Below w.heap.size w ((w.alloc (.cells #[.string (strB na), .slice a1 ka.length c1, .int .u64 (sa : Int)] 25)).alloc (.cells #[.string (strB nb), .slice a2 kb.length c2, .int .u64 (sb : Int)] 25))) := (below_alloc _ _).trans ((below_alloc _ _).mono (by simp))
  have ca := conv_reads (HA.out.below HBW.out)
  have cb := conv_reads (HB.out.below HBW.out)
  clear HA HB
  by_cases h1 : na = nb
  · by_cases h2 : sa = sb
    · have h3 : decide (na = nb ∧ sa = sb ∧ ka = kb) = decide (ka = kb) := by simp [h1, h2]
      rw [decide_eq_true h1] at hs1
      have h2' : ((sa : Int) == (sb : Int)) = true := by simp [h2]
      clear h1 h2
      generalize decide (ka = kb) = bb at *
      generalize decide (na = nb ∧ sa = sb ∧ ka = kb) = bc at *
      go_enter Tryd.func12, Tryd.ntmps12
      go_wp2
      go_ret
      exact ⟨by simp [h3], HBW.out⟩
    · have h3 : decide (na = nb ∧ sa = sb ∧ ka = kb) = false := by simp [h2]
      rw [decide_eq_true h1] at hs1
      have h2' : ((sa : Int) == (sb : Int)) = false := by rw [beq_eq_false_iff_ne]; omega
      clear h1 h2 hs2
      generalize decide (na = nb ∧ sa = sb ∧ ka = kb) = bc at *
      go_enter Tryd.func12, Tryd.ntmps12
      go_wp2
      go_ret
      exact ⟨by simp [h3], HBW.out⟩
  · have h3 : decide (na = nb ∧ sa = sb ∧ ka = kb) = false := by simp [h1]
    rw [decide_eq_false h1] at hs1
    clear h1 hs2
    generalize decide (na = nb ∧ sa = sb ∧ ka = kb) = bc at *
    go_enter Tryd.func12, Tryd.ntmps12
    go_wp2
    go_ret
    exact ⟨by simp [h3], HBW.out⟩
end Go.Proofs.YtmkjcgjbhibnpaaDoor
/- The walks of LeafBytes, NodeBytes, ValueBytes and RootBytes, of tags and of blazonref03. -/
namespace Go.Proofs.YtmkjcgjbhibnpaaDoor
open Go.RowKit
set_option maxRecDepth 100000
end Go.Proofs.YtmkjcgjbhibnpaaDoor
/- Numbers, texts and lists as bytes, each in one way: plain lists, no program is named here. -/
namespace Go.Proofs.YtmkjcgjbhibnpaaDoor
end Go.Proofs.YtmkjcgjbhibnpaaDoor
/- What the walks of the tree share with those of the older layers: one name for them all. -/

/- Which names and keys may be, plainly (layer 19). -/
namespace Go.Proofs.YtmkjcgjbhibnpaaDoor
open Go.RowKit
set_option maxRecDepth 100000
abbrev Bs := List (BitVec 8)
def nameByte (c : BitVec 8) : Bool := (97 ≤ c.toNat && c.toNat ≤ 122) || (48 ≤ c.toNat && c.toNat ≤ 57) || c.toNat == 46 || c.toNat == 45
def nameOk (s : Bs) : Bool := decide (1 ≤ s.length) && decide (s.length ≤ 32) && s.all nameByte
def keyOk (k : Bs) : Bool := decide (1 ≤ k.length) && decide (k.length ≤ 64)
end Go.Proofs.YtmkjcgjbhibnpaaDoor
/- Names and keys: strings as bytes; the walks of record's isName and Check, and of the reference's Name and Check. -/
namespace Go.Proofs.YtmkjcgjbhibnpaaDoor
open Go.RowKit
set_option maxRecDepth 100000
theorem strB_at (l : List (BitVec 8)) (k : Nat) (h : k < (strB l).size) : ((strB l)[k]).toNat = (l.getD k 0).toNat := by
  have hk : k < l.length := by rwa [strB_size] at h
  have h1 : (strB l).data.toList[k]? = some ((strB l)[k]) := by
    rw [Array.getElem?_toList]
    exact Array.getElem?_eq_getElem h
  rw [strB_data, List.getElem?_map, List.getElem?_eq_getElem hk] at h1
  simp only [Option.map_some, Option.some.injEq] at h1
  rw [← h1, List.getD_eq_getElem?_getD, List.getElem?_eq_getElem hk]
  have := (l[k]).isLt
  simp
def nameB (n : Nat) : Bool := (97 ≤ n && n ≤ 122) || (48 ≤ n && n ≤ 57) || n == 46 || n == 45
theorem nameByte_eq (c : BitVec 8) : nameByte c = nameB c.toNat := rfl
set_option maxRecDepth 100000 in
set_option maxHeartbeats 1000000 in
theorem inNames_any (n : Nat) (w : World) :
    Calls Tryd.prog 40 #[.int .u8 (n : Int)] w fun e w' => e = .returned (.bool (nameB n)) ∧ w' = w := by
  obtain ⟨o, HO⟩ : ∃ o, Hid (o = nameB n) := ⟨_, rfl⟩
  rw [← HO.out]
  by_cases h1 : 97 ≤ n
  · by_cases h2 : n ≤ 122
    · have ho : o = true := by rw [HO.out]; unfold nameB; simp <;> omega
      subst ho
      have i0 : (97 : Int) ≤ (n : Int) := by omega
      have i1 : (n : Int) ≤ 122 := by omega
      clear HO
      go_enter Tryd.func40, Tryd.ntmps40
      go_wp2
      go_ret
      exact ⟨rfl, rfl⟩
    · have ho : o = false := by rw [HO.out]; unfold nameB; simp <;> omega
      subst ho
      have i0 : (97 : Int) ≤ (n : Int) := by omega
      have i1 : ¬ ((n : Int) ≤ 122) := by omega
      have i2 : (48 : Int) ≤ (n : Int) := by omega
      have i3 : ¬ ((n : Int) ≤ 57) := by omega
      have i4 : ¬ ((n : Int) = 46) := by omega
      have i5 : ¬ ((n : Int) = 45) := by omega
      have e5 : ((n : Int) == 46) = false := by rw [beq_eq_false_iff_ne]; omega
      have e6 : ((n : Int) == 45) = false := by rw [beq_eq_false_iff_ne]; omega
      clear HO
      go_enter Tryd.func40, Tryd.ntmps40
      go_wp2
      go_ret
      exact ⟨by first | simp | simp [e5, e6], rfl⟩
  · by_cases h3 : 48 ≤ n
    · by_cases h4 : n ≤ 57
      · have ho : o = true := by rw [HO.out]; unfold nameB; simp <;> omega
        subst ho
        have i0 : ¬ ((97 : Int) ≤ (n : Int)) := by omega
        have i1 : (48 : Int) ≤ (n : Int) := by omega
        have i2 : (n : Int) ≤ 57 := by omega
        clear HO
        go_enter Tryd.func40, Tryd.ntmps40
        go_wp2
        go_ret
        exact ⟨rfl, rfl⟩
      · have ho : o = false := by rw [HO.out]; unfold nameB; simp <;> omega
        subst ho
        have i0 : ¬ ((97 : Int) ≤ (n : Int)) := by omega
        have i1 : (48 : Int) ≤ (n : Int) := by omega
        have i2 : ¬ ((n : Int) ≤ 57) := by omega
        have i3 : ¬ ((n : Int) = 46) := by omega
        have i4 : ¬ ((n : Int) = 45) := by omega
        have e5 : ((n : Int) == 46) = false := by rw [beq_eq_false_iff_ne]; omega
        have e6 : ((n : Int) == 45) = false := by rw [beq_eq_false_iff_ne]; omega
        clear HO
        go_enter Tryd.func40, Tryd.ntmps40
        go_wp2
        go_ret
        exact ⟨by first | simp | simp [e5, e6], rfl⟩
    · by_cases h5 : n = 46
      · have ho : o = true := by rw [HO.out]; unfold nameB; simp <;> omega
        subst ho
        have i0 : ¬ ((97 : Int) ≤ (n : Int)) := by omega
        have i1 : ¬ ((48 : Int) ≤ (n : Int)) := by omega
        have i2 : (n : Int) = 46 := by omega
        clear HO
        go_enter Tryd.func40, Tryd.ntmps40
        go_wp2
        go_ret
        exact ⟨rfl, rfl⟩
      · by_cases h6 : n = 45
        · have ho : o = true := by rw [HO.out]; unfold nameB; simp <;> omega
          subst ho
          have i0 : ¬ ((97 : Int) ≤ (n : Int)) := by omega
          have i1 : ¬ ((48 : Int) ≤ (n : Int)) := by omega
          have i2 : ¬ ((n : Int) = 46) := by omega
          have i3 : (n : Int) = 45 := by omega
          clear HO
          go_enter Tryd.func40, Tryd.ntmps40
          go_wp2
          go_ret
          exact ⟨rfl, rfl⟩
        · have ho : o = false := by rw [HO.out]; unfold nameB; simp <;> omega
          subst ho
          have i0 : ¬ ((97 : Int) ≤ (n : Int)) := by omega
          have i1 : ¬ ((48 : Int) ≤ (n : Int)) := by omega
          have i2 : ¬ ((n : Int) = 46) := by omega
          have i3 : ¬ ((n : Int) = 45) := by omega
          have e5 : ((n : Int) == 46) = false := by rw [beq_eq_false_iff_ne]; omega
          have e6 : ((n : Int) == 45) = false := by rw [beq_eq_false_iff_ne]; omega
          clear HO
          go_enter Tryd.func40, Tryd.ntmps40
          go_wp2
          go_ret
          exact ⟨by first | simp | simp [e5, e6], rfl⟩
theorem nameOk_no {l : List (BitVec 8)} (h : ¬ (1 ≤ l.length ∧ l.length ≤ 32)) : nameOk l = false := by
  unfold nameOk
  by_cases h1 : 1 ≤ l.length
  · rw [show decide (l.length ≤ 32) = false from decide_eq_false (by omega)]; simp
  · rw [show decide (1 ≤ l.length) = false from decide_eq_false h1]; simp
theorem nameOk_is {l : List (BitVec 8)} (h : 1 ≤ l.length ∧ l.length ≤ 32) : nameOk l = l.all nameByte := by
  unfold nameOk
  rw [decide_eq_true h.1, decide_eq_true h.2]; simp
theorem all_not {l : List (BitVec 8)} {k : Nat} (hk : k < l.length) (h : nameB (l.getD k 0).toNat = false) : l.all nameByte = false := by
  rw [Bool.eq_false_iff]
  intro ha
  have := List.all_eq_true.1 ha (l.getD k 0) (by rw [List.getD_eq_getElem?_getD, List.getElem?_eq_getElem hk]; exact List.getElem_mem hk)
  rw [nameByte_eq, h] at this
  cases this
theorem all_more {l : List (BitVec 8)} {k : Nat} (hk : k < l.length) (h : (l.take k).all nameByte = true) (h2 : nameB (l.getD k 0).toNat = true) : (l.take (k + 1)).all nameByte = true := by
  rw [List.take_add_one, List.getElem?_eq_getElem hk, List.all_append, h]
  rw [List.getD_eq_getElem?_getD, List.getElem?_eq_getElem hk] at h2
  simpa [nameByte_eq] using h2
theorem unot : ∀ (x : Bool) (w : World), (Op.unary .not (.bool x)).run Tryd.prog w = .ok (.bool (!x)) w := fun _ _ => rfl
set_option maxRecDepth 100000 in
set_option maxHeartbeats 1000000 in
theorem isName_any (l : List (BitVec 8)) (w : World) :
    Calls Tryd.prog 32 #[.string (strB l)] w fun e w' => e = .returned (.bool (nameOk l)) ∧ Below w.heap.size w w' := by
  have hs := strB_size l
  have hnot := unot
  obtain ⟨o, HO⟩ : ∃ o, Hid (o = nameOk l) := ⟨_, rfl⟩
  rw [← HO.out]
  obtain ⟨m, HM⟩ : ∃ m, Hid (m = l.length) := ⟨_, rfl⟩
  rw [← HM.out] at hs
  by_cases h1 : m < 1
  · have ho : o = false := by rw [HO.out]; exact nameOk_no (by rw [← HM.out]; omega)
    subst ho
    have i1 : (m : Int) < 1 := by omega
    clear HO h1
    generalize strB l = s at *
    go_enter Tryd.func32, Tryd.ntmps32
    go_wp2
    go_ret
    exact ⟨rfl, Below.refl _ _⟩
  · have i1 : ¬ ((m : Int) < 1) := by omega
    by_cases h2 : 32 < m
    · have ho : o = false := by rw [HO.out]; exact nameOk_no (by rw [← HM.out]; omega)
      subst ho
      have i2 : (32 : Int) < (m : Int) := by omega
      clear HO h1 h2
      generalize strB l = s at *
      go_enter Tryd.func32, Tryd.ntmps32
      go_wp2
      go_ret
      exact ⟨rfl, Below.refl _ _⟩
    · have i2 : ¬ ((32 : Int) < (m : Int)) := by omega
      have HOK : Hid (o = l.all nameByte) := by show o = _; rw [HO.out]; exact nameOk_is (by rw [← HM.out]; omega)
      have hcv := conv_string l w
      have hrd := bytesWorld_reads l w
      have hbl := bytesWorld_below l w
      rw [← HM.out] at hcv hrd
      generalize Lib.bytesWorld w 5 (strB l) = w0 at *
      generalize grownCap w m 0 5 = cp at *
      have HB : Hid (Below w.heap.size w w0) := hbl
      have HC : Hid (∀ j, j < m → w0.cell? ⟨w.heap.size, j, none⟩ = some (.int .u8 ((l.getD j 0).toNat : Int))) := by
        intro j hj
        obtain ⟨ad, cap, hv, _, _, hx⟩ := hrd
        obtain ⟨b, off, hb, hy⟩ := hx (by rw [← HM.out]; omega)
        simp only [Value.slice.injEq] at hv
        rw [hb] at hv
        simp only [Option.some.injEq, Addr.mk.injEq] at hv
        obtain ⟨⟨rfl, rfl, _⟩, _⟩ := hv
        have := hy j (by rw [← HM.out]; exact hj)
        rwa [Nat.zero_add] at this
      clear hrd hbl HO
      generalize strB l = s at *
      go_enter Tryd.func32, Tryd.ntmps32
      go_wp2
      go_loopw [16] (fun i wr => ∃ k : Nat, k ≤ m ∧ i = .int .i64 (k : Int) ∧ (l.take k).all nameByte = true ∧ wr = w0) (fun i _ => m - (intOf i).toNat)
      case atStart => exact ⟨0, by omega, rfl, rfl, rfl⟩
      case round =>
        obtain ⟨k, hk, rfl, hall, hwr⟩ := hrel
        subst hwr
        by_cases hlt : k < m
        · have cK := HC.out k hlt
          have HKL : Hid (k < l.length) := by show _ < _; rw [← HM.out]; exact hlt
          have HAL : Hid ((l.take k).all nameByte = true) := hall
          obtain ⟨x, HX⟩ : ∃ x, Hid (x = (l.getD k 0).toNat) := ⟨_, rfl⟩
          obtain ⟨bb, HBB⟩ : ∃ bb, Hid (bb = nameB x) := ⟨_, rfl⟩
          rw [← HX.out] at cK
          clear hall
          go_wp2_with fail
          refine (inNames_any _ _).mono ?_
          rintro e w2 ⟨rfl, rfl⟩
          rw [← HBB.out]
          cases bb with
          | false =>
            have ho : o = false := by rw [HOK.out]; exact all_not HKL.out (by rw [← HX.out, ← HBB.out])
            subst ho
            clear HBB
            go_wp2
            go_ret
            exact ⟨rfl, HB.out⟩
          | true =>
            have HA2 : Hid ((l.take (k + 1)).all nameByte = true) := all_more HKL.out HAL.out (by rw [← HX.out, ← HBB.out])
            clear HBB
            go_wp2
            go_roundw
            case rel => exact ⟨k + 1, by omega, by go_num, HA2.out, trivial⟩
            case measure => simp [intOf]; omega
        · have hkm : k = m := by omega
          subst hkm
          have ho : o = true := by rw [HOK.out]; rwa [HM.out, List.take_of_length_le (Nat.le_refl _)] at hall
          subst ho
          clear hall HC
          go_wp2
          go_ret
          exact ⟨rfl, HB.out⟩
set_option maxRecDepth 100000 in
set_option maxHeartbeats 1000000 in
theorem rfName_any (l : List (BitVec 8)) (w : World) :
    Calls Tryd.prog 23 #[.string (strB l)] w fun e w' => e = .returned (.bool (nameOk l)) ∧ ∃ k, w' = w.drewN k := by
  have hs := strB_size l
  have hnot := unot
  obtain ⟨o, HO⟩ : ∃ o, Hid (o = nameOk l) := ⟨_, rfl⟩
  rw [← HO.out]
  obtain ⟨m, HM⟩ : ∃ m, Hid (m = l.length) := ⟨_, rfl⟩
  rw [← HM.out] at hs
  by_cases h1 : m < 1
  · have ho : o = false := by rw [HO.out]; exact nameOk_no (by rw [← HM.out]; omega)
    subst ho
    have i1 : (m : Int) < 1 := by omega
    clear HO h1
    generalize strB l = s at *
    go_enter Tryd.func23, Tryd.ntmps23
    go_wp2
    go_ret
    exact ⟨rfl, 0, rfl⟩
  · have i1 : ¬ ((m : Int) < 1) := by omega
    by_cases h2 : 32 < m
    · have ho : o = false := by rw [HO.out]; exact nameOk_no (by rw [← HM.out]; omega)
      subst ho
      have i2 : (32 : Int) < (m : Int) := by omega
      clear HO h1 h2
      generalize strB l = s at *
      go_enter Tryd.func23, Tryd.ntmps23
      go_wp2
      go_ret
      exact ⟨rfl, 0, rfl⟩
    · have i2 : ¬ ((32 : Int) < (m : Int)) := by omega
      have HOK : Hid (o = l.all nameByte) := by show o = _; rw [HO.out]; exact nameOk_is (by rw [← HM.out]; omega)
      go_enter Tryd.func23, Tryd.ntmps23
      go_wp2
      go_loopw [3] (fun i wr => ∃ k q : Nat, k ≤ m ∧ i = .int .i64 (k : Int) ∧ (l.take k).all nameByte = true ∧ wr = w.drewN q) (fun i _ => m - (intOf i).toNat)
      case atStart => exact ⟨0, 0, by omega, rfl, rfl, rfl⟩
      case round =>
        obtain ⟨k, q, hk, rfl, hall, hwr⟩ := hrel
        subst hwr
        by_cases hlt : k < m
        · have HKL : Hid (k < l.length) := by show _ < _; rw [← HM.out]; exact hlt
          have HAL : Hid ((l.take k).all nameByte = true) := hall
          obtain ⟨x, HX⟩ : ∃ x, Hid (x = (l.getD k 0).toNat) := ⟨_, rfl⟩
          have hx : ((strB l)[k]'(by rw [hs]; exact hlt)).toNat = x := by rw [HX.out]; exact strB_at l k _
          clear hall
          generalize strB l = s at *
          by_cases h3 : 97 ≤ x
          · by_cases h4 : x ≤ 122
            · have hb : nameB x = true := by unfold nameB; simp <;> omega
              have HA2 : Hid ((l.take (k + 1)).all nameByte = true) := all_more HKL.out HAL.out (by rw [← HX.out]; exact hb)
              have j0 : (97 : Int) ≤ (x : Int) := by omega
              have j1 : (x : Int) ≤ 122 := by omega
              have j2 : (48 : Int) ≤ (x : Int) := by omega
              have j3 : ¬ ((x : Int) ≤ 57) := by omega
              clear hb
              go_wp2
              go_roundw
              case rel => exact ⟨k + 1, q, by omega, by go_num, HA2.out, rfl⟩
              case measure => simp [intOf]; omega
            · have hb : nameB x = false := by unfold nameB; simp <;> omega
              have ho : o = false := by rw [HOK.out]; exact all_not HKL.out (by rw [← HX.out]; exact hb)
              subst ho
              have j0 : (97 : Int) ≤ (x : Int) := by omega
              have j1 : ¬ ((x : Int) ≤ 122) := by omega
              have j2 : (48 : Int) ≤ (x : Int) := by omega
              have j3 : ¬ ((x : Int) ≤ 57) := by omega
              have e0 : ((x : Int) != 46) = true := by simp <;> omega
              have e1 : ((x : Int) != 45) = true := by simp <;> omega
              clear hb
              go_wp2
              go_ret
              exact ⟨rfl, q, rfl⟩
          · by_cases h4 : 48 ≤ x
            · by_cases h5 : x ≤ 57
              · have hb : nameB x = true := by unfold nameB; simp <;> omega
                have HA2 : Hid ((l.take (k + 1)).all nameByte = true) := all_more HKL.out HAL.out (by rw [← HX.out]; exact hb)
                have j0 : ¬ ((97 : Int) ≤ (x : Int)) := by omega
                have j1 : (48 : Int) ≤ (x : Int) := by omega
                have j2 : (x : Int) ≤ 57 := by omega
                clear hb
                go_wp2
                go_roundw
                case rel => exact ⟨k + 1, q, by omega, by go_num, HA2.out, rfl⟩
                case measure => simp [intOf]; omega
              · have hb : nameB x = false := by unfold nameB; simp <;> omega
                have ho : o = false := by rw [HOK.out]; exact all_not HKL.out (by rw [← HX.out]; exact hb)
                subst ho
                have j0 : ¬ ((97 : Int) ≤ (x : Int)) := by omega
                have j1 : (48 : Int) ≤ (x : Int) := by omega
                have j2 : ¬ ((x : Int) ≤ 57) := by omega
                have e0 : ((x : Int) != 46) = true := by simp <;> omega
                have e1 : ((x : Int) != 45) = true := by simp <;> omega
                clear hb
                go_wp2
                go_ret
                exact ⟨rfl, q, rfl⟩
            · by_cases h5 : x = 46
              · have hb : nameB x = true := by unfold nameB; simp <;> omega
                have HA2 : Hid ((l.take (k + 1)).all nameByte = true) := all_more HKL.out HAL.out (by rw [← HX.out]; exact hb)
                have j0 : ¬ ((97 : Int) ≤ (x : Int)) := by omega
                have j1 : ¬ ((48 : Int) ≤ (x : Int)) := by omega
                have e0 : ((x : Int) != 46) = false := by simp <;> omega
                clear hb
                go_wp2
                go_roundw
                case rel => exact ⟨k + 1, q, by omega, by go_num, HA2.out, rfl⟩
                case measure => simp [intOf]; omega
              · by_cases h6 : x = 45
                · have hb : nameB x = true := by unfold nameB; simp <;> omega
                  have HA2 : Hid ((l.take (k + 1)).all nameByte = true) := all_more HKL.out HAL.out (by rw [← HX.out]; exact hb)
                  have j0 : ¬ ((97 : Int) ≤ (x : Int)) := by omega
                  have j1 : ¬ ((48 : Int) ≤ (x : Int)) := by omega
                  have e0 : ((x : Int) != 46) = true := by simp <;> omega
                  have e1 : ((x : Int) != 45) = false := by simp <;> omega
                  clear hb
                  go_wp2
                  go_roundw
                  case rel => exact ⟨k + 1, q, by omega, by go_num, HA2.out, rfl⟩
                  case measure => simp [intOf]; omega
                · have hb : nameB x = false := by unfold nameB; simp <;> omega
                  have ho : o = false := by rw [HOK.out]; exact all_not HKL.out (by rw [← HX.out]; exact hb)
                  subst ho
                  have j0 : ¬ ((97 : Int) ≤ (x : Int)) := by omega
                  have j1 : ¬ ((48 : Int) ≤ (x : Int)) := by omega
                  have e0 : ((x : Int) != 46) = true := by simp <;> omega
                  have e1 : ((x : Int) != 45) = true := by simp <;> omega
                  clear hb
                  go_wp2
                  go_ret
                  exact ⟨rfl, q, rfl⟩
        · have hkm : k = m := by omega
          subst hkm
          have ho : o = true := by rw [HOK.out]; rwa [HM.out, List.take_of_length_le (Nat.le_refl _)] at hall
          subst ho
          clear hall
          go_wp2
          go_ret
          exact ⟨rfl, q, rfl⟩
end Go.Proofs.YtmkjcgjbhibnpaaDoor

/- Plain mathematics of SHA-256 over words of 32 bits (BitVec 32) and bytes (BitVec 8); no program is named here. -/
import Derived.WalkKit
namespace Go.Proofs.Ytgmemibhddnjjaa
open Go.RowKit
set_option maxRecDepth 100000

/-- a word turned by n places to the right -/
def rr (x : BitVec 32) (n : Nat) : BitVec 32 := x >>> n ||| x <<< (32 - n)
def cw (l : List (BitVec 32)) : List Value := l.map fun x => Value.int .u32 (x.toNat : Int)
def cb (l : List (BitVec 8)) : List Value := l.map fun x => Value.int .u8 (x.toNat : Int)
def wordAt (b : List (BitVec 8)) (t : Nat) : BitVec 32 :=
  (b.getD (4 * t) 0).setWidth 32 <<< 24 ||| (b.getD (4 * t + 1) 0).setWidth 32 <<< 16 ||| (b.getD (4 * t + 2) 0).setWidth 32 <<< 8 ||| (b.getD (4 * t + 3) 0).setWidth 32
def sig0 (x : BitVec 32) : BitVec 32 := rr x 7 ^^^ rr x 18 ^^^ x >>> 3
def sig1 (x : BitVec 32) : BitVec 32 := rr x 17 ^^^ rr x 19 ^^^ x >>> 10
def sched1 (b : List (BitVec 8)) : Nat → List (BitVec 32)
  | 0 => List.replicate 64 0
  | k + 1 => (sched1 b k).set k (wordAt b k)
def sched2 (b : List (BitVec 8)) : Nat → List (BitVec 32)
  | 0 => sched1 b 16
  | k + 1 => (sched2 b k).set (k + 16) ((sched2 b k).getD k 0 + sig0 ((sched2 b k).getD (k + 1) 0) + (sched2 b k).getD (k + 9) 0 + sig1 ((sched2 b k).getD (k + 14) 0))

def z8 : List (BitVec 32) := List.replicate 8 0
def z64 : List (BitVec 32) := List.replicate 64 0
def zb32 : List (BitVec 8) := List.replicate 32 0
/-- the words of the rounds -/
def kw : List (BitVec 32) := [1116352408, 1899447441, 3049323471, 3921009573, 961987163, 1508970993, 2453635748, 2870763221, 3624381080, 310598401, 607225278, 1426881987, 1925078388, 2162078206, 2614888103, 3248222580, 3835390401, 4022224774, 264347078, 604807628, 770255983, 1249150122, 1555081692, 1996064986, 2554220882, 2821834349, 2952996808, 3210313671, 3336571891, 3584528711, 113926993, 338241895, 666307205, 773529912, 1294757372, 1396182291, 1695183700, 1986661051, 2177026350, 2456956037, 2730485921, 2820302411, 3259730800, 3345764771, 3516065817, 3600352804, 4094571909, 275423344, 430227734, 506948616, 659060556, 883997877, 958139571, 1322822218, 1537002063, 1747873779, 1955562222, 2024104815, 2227730452, 2361852424, 2428436474, 2756734187, 3204031479, 3329325298]
/-- eight words -/
structure St where
  a : BitVec 32
  b : BitVec 32
  c : BitVec 32
  d : BitVec 32
  e : BitVec 32
  f : BitVec 32
  g : BitVec 32
  h : BitVec 32
def St.l (s : St) : List (BitVec 32) := [s.a, s.b, s.c, s.d, s.e, s.f, s.g, s.h]
def st0 : St := ⟨1779033703, 3144134277, 1013904242, 2773480762, 1359893119, 2600822924, 528734635, 1541459225⟩
def big1 (x : BitVec 32) : BitVec 32 := rr x 6 ^^^ rr x 11 ^^^ rr x 25
def big0 (x : BitVec 32) : BitVec 32 := rr x 2 ^^^ rr x 13 ^^^ rr x 22
def cho (e f g : BitVec 32) : BitVec 32 := (e &&& f) ^^^ (~~~e &&& g)
def maj (a b c : BitVec 32) : BitVec 32 := (a &&& b) ^^^ (a &&& c) ^^^ (b &&& c)
/-- one round, with its word k and the block's word w -/
def rnd (s : St) (k w : BitVec 32) : St :=
  ⟨s.h + big1 s.e + cho s.e s.f s.g + k + w + (big0 s.a + maj s.a s.b s.c), s.a, s.b, s.c, s.d + (s.h + big1 s.e + cho s.e s.f s.g + k + w), s.e, s.f, s.g⟩
def rounds (ws : List (BitVec 32)) (s : St) : Nat → St
  | 0 => s
  | n + 1 => rnd (rounds ws s n) (kw.getD n 0) (ws.getD n 0)
def St.plus (s t : St) : St := ⟨s.a + t.a, s.b + t.b, s.c + t.c, s.d + t.d, s.e + t.e, s.f + t.f, s.g + t.g, s.h + t.h⟩
/-- the eight words behind one block more -/
def compress (s : St) (b : List (BitVec 8)) : St := s.plus (rounds (sched2 b 48) s 64)
theorem ofInt_toNat32 (x : BitVec 32) : BitVec.ofInt 32 (x.toNat : Int) = x := by
  apply BitVec.eq_of_toNat_eq; simp
theorem wrap_lt32 (x : BitVec 32) : IntKind.u32.wrap (x.toNat : Int) = (x.toNat : Int) := by
  have := x.isLt
  simp [IntKind.wrap, IntKind.bits, IntKind.signed]; omega
theorem u32_or (x y : BitVec 32) : bits .or .u32 (x.toNat : Int) (y.toNat : Int) = ((x ||| y).toNat : Int) := by
  show IntKind.u32.wrap ((BitVec.ofInt 32 (x.toNat : Int) ||| BitVec.ofInt 32 (y.toNat : Int)).toNat : Int) = _
  rw [ofInt_toNat32, ofInt_toNat32, wrap_lt32]
theorem u32_xor (x y : BitVec 32) : bits .xor .u32 (x.toNat : Int) (y.toNat : Int) = ((x ^^^ y).toNat : Int) := by
  show IntKind.u32.wrap ((BitVec.ofInt 32 (x.toNat : Int) ^^^ BitVec.ofInt 32 (y.toNat : Int)).toNat : Int) = _
  rw [ofInt_toNat32, ofInt_toNat32, wrap_lt32]
theorem u32_and (x y : BitVec 32) : bits .and .u32 (x.toNat : Int) (y.toNat : Int) = ((x &&& y).toNat : Int) := by
  show IntKind.u32.wrap ((BitVec.ofInt 32 (x.toNat : Int) &&& BitVec.ofInt 32 (y.toNat : Int)).toNat : Int) = _
  rw [ofInt_toNat32, ofInt_toNat32, wrap_lt32]
theorem u32_add (x y : BitVec 32) : ((x.toNat : Int) + (y.toNat : Int)) % 4294967296 = ((x + y).toNat : Int) := by
  simp [BitVec.toNat_add]
theorem u32_shr (x : BitVec 32) (n : Nat) : (x.toNat : Int) / 2 ^ n = ((x >>> n).toNat : Int) := by
  simp [BitVec.toNat_ushiftRight, Nat.shiftRight_eq_div_pow]
theorem u32_shl (x : BitVec 32) (n : Nat) : (x.toNat : Int) * 2 ^ n % 4294967296 = ((x <<< n).toNat : Int) := by
  simp [BitVec.toNat_shiftLeft, Nat.shiftLeft_eq]
theorem u32_add4 (x y z u : BitVec 32) : ((x.toNat : Int) + (y.toNat : Int) + (z.toNat : Int) + (u.toNat : Int)) % 4294967296 = ((x + y + z + u).toNat : Int) := by
  simp [BitVec.toNat_add]
theorem sig0_eq (x : BitVec 32) : bits .xor .u32 (bits .xor .u32 ((rr x 7).toNat : Int) ((rr x 18).toNat : Int)) ((x.toNat : Int) / 8) = ((sig0 x).toNat : Int) := by
  rw [show ((x.toNat : Int) / (8 : Int)) = ((x >>> 3).toNat : Int) from u32_shr x 3, u32_xor, u32_xor]; rfl
theorem sig1_eq (x : BitVec 32) : bits .xor .u32 (bits .xor .u32 ((rr x 17).toNat : Int) ((rr x 19).toNat : Int)) ((x.toNat : Int) / 1024) = ((sig1 x).toNat : Int) := by
  rw [show ((x.toNat : Int) / (1024 : Int)) = ((x >>> 10).toNat : Int) from u32_shr x 10, u32_xor, u32_xor]; rfl
theorem byte_word (b : BitVec 8) : (b.toNat : Int) = ((b.setWidth 32).toNat : Int) := by
  have := b.isLt
  simp [BitVec.toNat_setWidth]; omega
theorem u32_not (x : BitVec 32) : bits .xor .u32 (x.toNat : Int) 4294967295 = ((~~~x).toNat : Int) := by
  have := u32_xor x (BitVec.allOnes 32)
  rw [BitVec.xor_allOnes] at this
  rw [← this]; rfl
theorem big1_eq (e : BitVec 32) : bits .xor .u32 (bits .xor .u32 ((rr e 6).toNat : Int) ((rr e 11).toNat : Int)) ((rr e 25).toNat : Int) = ((big1 e).toNat : Int) := by rw [u32_xor, u32_xor]; rfl
theorem big0_eq (a : BitVec 32) : bits .xor .u32 (bits .xor .u32 ((rr a 2).toNat : Int) ((rr a 13).toNat : Int)) ((rr a 22).toNat : Int) = ((big0 a).toNat : Int) := by rw [u32_xor, u32_xor]; rfl
theorem not_own (x : BitVec 32) : bits .xor .u32 (if IntKind.u32.signed = true then -1 else IntKind.u32.max) (x.toNat : Int) = ((~~~x).toNat : Int) := by
  have := u32_xor (BitVec.allOnes 32) x
  rw [BitVec.allOnes_xor] at this
  rw [← this]; rfl
theorem cho_own (e f g : BitVec 32) : bits .xor .u32 (bits .and .u32 (e.toNat : Int) (f.toNat : Int)) (bits .and .u32 (bits .xor .u32 (if IntKind.u32.signed = true then -1 else IntKind.u32.max) (e.toNat : Int)) (g.toNat : Int)) = ((cho e f g).toNat : Int) := by
  rw [not_own, u32_and, u32_and, u32_xor]; rfl
theorem cho_ref (e f g : BitVec 32) : bits .xor .u32 (bits .and .u32 (e.toNat : Int) (f.toNat : Int)) (bits .and .u32 (bits .xor .u32 (e.toNat : Int) 4294967295) (g.toNat : Int)) = ((cho e f g).toNat : Int) := by
  rw [u32_not, u32_and, u32_and, u32_xor]; rfl
theorem maj_eq (a b c : BitVec 32) : bits .xor .u32 (bits .xor .u32 (bits .and .u32 (a.toNat : Int) (b.toNat : Int)) (bits .and .u32 (a.toNat : Int) (c.toNat : Int))) (bits .and .u32 (b.toNat : Int) (c.toNat : Int)) = ((maj a b c).toNat : Int) := by
  rw [u32_and, u32_and, u32_and, u32_xor, u32_xor]; rfl
theorem sum_a (h p q y x u v : BitVec 32) : (((h.toNat : Int) + (p.toNat : Int) + (q.toNat : Int) + (y.toNat : Int) + (x.toNat : Int)) % 4294967296 + ((u.toNat : Int) + (v.toNat : Int)) % 4294967296) % 4294967296 = ((h + p + q + y + x + (u + v)).toNat : Int) := by
  simp [BitVec.toNat_add]
theorem sum_e (d h p q y x : BitVec 32) : ((d.toNat : Int) + ((h.toNat : Int) + (p.toNat : Int) + (q.toNat : Int) + (y.toNat : Int) + (x.toNat : Int)) % 4294967296) % 4294967296 = ((d + (h + p + q + y + x)).toNat : Int) := by
  simp [BitVec.toNat_add]
theorem plus_cells (s q : St) : [Value.int .u32 (((s.a.toNat : Int) + (q.a.toNat : Int)) % 4294967296), Value.int .u32 (((s.b.toNat : Int) + (q.b.toNat : Int)) % 4294967296), Value.int .u32 (((s.c.toNat : Int) + (q.c.toNat : Int)) % 4294967296), Value.int .u32 (((s.d.toNat : Int) + (q.d.toNat : Int)) % 4294967296), Value.int .u32 (((s.e.toNat : Int) + (q.e.toNat : Int)) % 4294967296), Value.int .u32 (((s.f.toNat : Int) + (q.f.toNat : Int)) % 4294967296), Value.int .u32 (((s.g.toNat : Int) + (q.g.toNat : Int)) % 4294967296), Value.int .u32 (((s.h.toNat : Int) + (q.h.toNat : Int)) % 4294967296)] = cw (s.plus q).l := by
  simp only [u32_add]; rfl
theorem compress_eq (s : St) (b : List (BitVec 8)) : compress s b = s.plus (rounds (sched2 b 48) s 64) := rfl
theorem len_z8 : z8.length = 8 := rfl
theorem len_z64 : z64.length = 64 := rfl
theorem len_zb32 : zb32.length = 32 := rfl
end Go.Proofs.Ytgmemibhddnjjaa

import Derived.WalkKit
import Derived.Test.YtphmmnffgknkcaaGreatDoorChecked
import Derived.WalkSpells
import Derived.WalkLawsBesides
import Derived.Deep.MidRow
import Derived.Deep.Draws
import Derived.Deep.RegionHeld3
import Derived.Deep.QuietTactic
import Derived.BigQuiet
import Derived.Laws.CopyOwn
import Derived.StillTailTactics
import Derived.Deep.Quiet
import Derived.BigCall
import Derived.Deep.RegionLaw
import Derived.Laws.AppendOwnNone
import Derived.Deep.RegionWith
import Derived.Lib.ConvBytes
import Derived.Deep.RegionHeld
import Derived.Lib.Bytealg
namespace Go.Proofs.YtphmmnffgknkcaaGreatDoor
open Go.RowKit
set_option maxRecDepth 100000

def rr (x:BitVec 32) (n:Nat):BitVec 32:=x >>> n ||| x <<< (32 - n)
def cw (l:List (BitVec 32)):List Value:=l.map fun x => Value.int .u32 (x.toNat:Int)
def cb (l:List (BitVec 8)):List Value:=l.map fun x => Value.int .u8 (x.toNat:Int)
def wordAt (b:List (BitVec 8)) (t:Nat):BitVec 32:=
  (b.getD (4 * t) 0).setWidth 32 <<< 24 ||| (b.getD (4 * t + 1) 0).setWidth 32 <<< 16 ||| (b.getD (4 * t + 2) 0).setWidth 32 <<< 8 ||| (b.getD (4 * t + 3) 0).setWidth 32
def sig0 (x:BitVec 32):BitVec 32:=rr x 7 ^^^ rr x 18 ^^^ x >>> 3
def sig1 (x:BitVec 32):BitVec 32:=rr x 17 ^^^ rr x 19 ^^^ x >>> 10
def sched1 (b:List (BitVec 8)):Nat → List (BitVec 32)
  | 0 => List.replicate 64 0
  | k + 1 => (sched1 b k).set k (wordAt b k)
def sched2 (b:List (BitVec 8)):Nat → List (BitVec 32)
  | 0 => sched1 b 16
  | k + 1 => (sched2 b k).set (k + 16) ((sched2 b k).getD k 0 + sig0 ((sched2 b k).getD (k + 1) 0) + (sched2 b k).getD (k + 9) 0 + sig1 ((sched2 b k).getD (k + 14) 0))

def z8:List (BitVec 32):=List.replicate 8 0
def z64:List (BitVec 32):=List.replicate 64 0
def zb32:List (BitVec 8):=List.replicate 32 0
def kw:List (BitVec 32):=[1116352408,1899447441,3049323471,3921009573,961987163,1508970993,2453635748,2870763221,3624381080,310598401,607225278,1426881987,1925078388,2162078206,2614888103,3248222580,3835390401,4022224774,264347078,604807628,770255983,1249150122,1555081692,1996064986,2554220882,2821834349,2952996808,3210313671,3336571891,3584528711,113926993,338241895,666307205,773529912,1294757372,1396182291,1695183700,1986661051,2177026350,2456956037,2730485921,2820302411,3259730800,3345764771,3516065817,3600352804,4094571909,275423344,430227734,506948616,659060556,883997877,958139571,1322822218,1537002063,1747873779,1955562222,2024104815,2227730452,2361852424,2428436474,2756734187,3204031479,3329325298]
structure St where
  a:BitVec 32
  b:BitVec 32
  c:BitVec 32
  d:BitVec 32
  e:BitVec 32
  f:BitVec 32
  g:BitVec 32
  h:BitVec 32
def St.l (s:St):List (BitVec 32):=[s.a,s.b,s.c,s.d,s.e,s.f,s.g,s.h]
def st0:St:=⟨1779033703,3144134277,1013904242,2773480762,1359893119,2600822924,528734635,1541459225⟩
def big1 (x:BitVec 32):BitVec 32:=rr x 6 ^^^ rr x 11 ^^^ rr x 25
def big0 (x:BitVec 32):BitVec 32:=rr x 2 ^^^ rr x 13 ^^^ rr x 22
def cho (e f g:BitVec 32):BitVec 32:=(e &&& f) ^^^ (~~~e &&& g)
def maj (a b c:BitVec 32):BitVec 32:=(a &&& b) ^^^ (a &&& c) ^^^ (b &&& c)
def rnd (s:St) (k w:BitVec 32):St:=
  ⟨s.h + big1 s.e + cho s.e s.f s.g + k + w + (big0 s.a + maj s.a s.b s.c),s.a,s.b,s.c,s.d + (s.h + big1 s.e + cho s.e s.f s.g + k + w),s.e,s.f,s.g⟩
def rounds (ws:List (BitVec 32)) (s:St):Nat → St
  | 0 => s
  | n + 1 => rnd (rounds ws s n) (kw.getD n 0) (ws.getD n 0)
def St.plus (s t:St):St:=⟨s.a + t.a,s.b + t.b,s.c + t.c,s.d + t.d,s.e + t.e,s.f + t.f,s.g + t.g,s.h + t.h⟩
def compress (s:St) (b:List (BitVec 8)):St:=s.plus (rounds (sched2 b 48) s 64)
theorem ofInt_toNat32 (x:BitVec 32):BitVec.ofInt 32 (x.toNat:Int) = x:=by
  apply BitVec.eq_of_toNat_eq;simp
theorem wrap_lt32 (x:BitVec 32):IntKind.u32.wrap (x.toNat:Int) = (x.toNat:Int):=by
  have:=x.isLt
  simp [IntKind.wrap,IntKind.bits,IntKind.signed];omega
theorem u32_or (x y:BitVec 32):bits .or .u32 (x.toNat:Int) (y.toNat:Int) = ((x ||| y).toNat:Int):=by
  show IntKind.u32.wrap ((BitVec.ofInt 32 (x.toNat:Int) ||| BitVec.ofInt 32 (y.toNat:Int)).toNat:Int) = _
  rw [ofInt_toNat32,ofInt_toNat32,wrap_lt32]
theorem u32_xor (x y:BitVec 32):bits .xor .u32 (x.toNat:Int) (y.toNat:Int) = ((x ^^^ y).toNat:Int):=by
  show IntKind.u32.wrap ((BitVec.ofInt 32 (x.toNat:Int) ^^^ BitVec.ofInt 32 (y.toNat:Int)).toNat:Int) = _
  rw [ofInt_toNat32,ofInt_toNat32,wrap_lt32]
theorem u32_and (x y:BitVec 32):bits .and .u32 (x.toNat:Int) (y.toNat:Int) = ((x &&& y).toNat:Int):=by
  show IntKind.u32.wrap ((BitVec.ofInt 32 (x.toNat:Int) &&& BitVec.ofInt 32 (y.toNat:Int)).toNat:Int) = _
  rw [ofInt_toNat32,ofInt_toNat32,wrap_lt32]
theorem u32_add (x y:BitVec 32):((x.toNat:Int) + (y.toNat:Int)) % 4294967296 = ((x + y).toNat:Int):=by
  simp [BitVec.toNat_add]
theorem u32_shr (x:BitVec 32) (n:Nat):(x.toNat:Int) / 2 ^ n = ((x >>> n).toNat:Int):=by
  simp [BitVec.toNat_ushiftRight,Nat.shiftRight_eq_div_pow]
theorem u32_shl (x:BitVec 32) (n:Nat):(x.toNat:Int) * 2 ^ n % 4294967296 = ((x <<< n).toNat:Int):=by
  simp [BitVec.toNat_shiftLeft,Nat.shiftLeft_eq]
theorem u32_add4 (x y z u:BitVec 32):((x.toNat:Int) + (y.toNat:Int) + (z.toNat:Int) + (u.toNat:Int)) % 4294967296 = ((x + y + z + u).toNat:Int):=by
  simp [BitVec.toNat_add]
theorem sig0_eq (x:BitVec 32):bits .xor .u32 (bits .xor .u32 ((rr x 7).toNat:Int) ((rr x 18).toNat:Int)) ((x.toNat:Int) / 8) = ((sig0 x).toNat:Int):=by
  rw [show ((x.toNat:Int) / (8:Int)) = ((x >>> 3).toNat:Int) from u32_shr x 3,u32_xor,u32_xor];rfl
theorem sig1_eq (x:BitVec 32):bits .xor .u32 (bits .xor .u32 ((rr x 17).toNat:Int) ((rr x 19).toNat:Int)) ((x.toNat:Int) / 1024) = ((sig1 x).toNat:Int):=by
  rw [show ((x.toNat:Int) / (1024:Int)) = ((x >>> 10).toNat:Int) from u32_shr x 10,u32_xor,u32_xor];rfl
theorem byte_word (b:BitVec 8):(b.toNat:Int) = ((b.setWidth 32).toNat:Int):=by
  have:=b.isLt
  simp [BitVec.toNat_setWidth];omega
theorem u32_not (x:BitVec 32):bits .xor .u32 (x.toNat:Int) 4294967295 = ((~~~x).toNat:Int):=by
  have:=u32_xor x (BitVec.allOnes 32)
  rw [BitVec.xor_allOnes] at this
  rw [← this];rfl
theorem big1_eq (e:BitVec 32):bits .xor .u32 (bits .xor .u32 ((rr e 6).toNat:Int) ((rr e 11).toNat:Int)) ((rr e 25).toNat:Int) = ((big1 e).toNat:Int):=by rw [u32_xor,u32_xor];rfl
theorem big0_eq (a:BitVec 32):bits .xor .u32 (bits .xor .u32 ((rr a 2).toNat:Int) ((rr a 13).toNat:Int)) ((rr a 22).toNat:Int) = ((big0 a).toNat:Int):=by rw [u32_xor,u32_xor];rfl
theorem not_own (x:BitVec 32):bits .xor .u32 (if IntKind.u32.signed = true then -1 else IntKind.u32.max) (x.toNat:Int) = ((~~~x).toNat:Int):=by
  have:=u32_xor (BitVec.allOnes 32) x
  rw [BitVec.allOnes_xor] at this
  rw [← this];rfl
theorem cho_own (e f g:BitVec 32):bits .xor .u32 (bits .and .u32 (e.toNat:Int) (f.toNat:Int)) (bits .and .u32 (bits .xor .u32 (if IntKind.u32.signed = true then -1 else IntKind.u32.max) (e.toNat:Int)) (g.toNat:Int)) = ((cho e f g).toNat:Int):=by
  rw [not_own,u32_and,u32_and,u32_xor];rfl
theorem cho_ref (e f g:BitVec 32):bits .xor .u32 (bits .and .u32 (e.toNat:Int) (f.toNat:Int)) (bits .and .u32 (bits .xor .u32 (e.toNat:Int) 4294967295) (g.toNat:Int)) = ((cho e f g).toNat:Int):=by
  rw [u32_not,u32_and,u32_and,u32_xor];rfl
theorem maj_eq (a b c:BitVec 32):bits .xor .u32 (bits .xor .u32 (bits .and .u32 (a.toNat:Int) (b.toNat:Int)) (bits .and .u32 (a.toNat:Int) (c.toNat:Int))) (bits .and .u32 (b.toNat:Int) (c.toNat:Int)) = ((maj a b c).toNat:Int):=by
  rw [u32_and,u32_and,u32_and,u32_xor,u32_xor];rfl
theorem sum_a (h p q y x u v:BitVec 32):(((h.toNat:Int) + (p.toNat:Int) + (q.toNat:Int) + (y.toNat:Int) + (x.toNat:Int)) % 4294967296 + ((u.toNat:Int) + (v.toNat:Int)) % 4294967296) % 4294967296 = ((h + p + q + y + x + (u + v)).toNat:Int):=by
  simp [BitVec.toNat_add]
theorem sum_e (d h p q y x:BitVec 32):((d.toNat:Int) + ((h.toNat:Int) + (p.toNat:Int) + (q.toNat:Int) + (y.toNat:Int) + (x.toNat:Int)) % 4294967296) % 4294967296 = ((d + (h + p + q + y + x)).toNat:Int):=by
  simp [BitVec.toNat_add]
theorem plus_cells (s q:St):[Value.int .u32 (((s.a.toNat:Int) + (q.a.toNat:Int)) % 4294967296),Value.int .u32 (((s.b.toNat:Int) + (q.b.toNat:Int)) % 4294967296),Value.int .u32 (((s.c.toNat:Int) + (q.c.toNat:Int)) % 4294967296),Value.int .u32 (((s.d.toNat:Int) + (q.d.toNat:Int)) % 4294967296),Value.int .u32 (((s.e.toNat:Int) + (q.e.toNat:Int)) % 4294967296),Value.int .u32 (((s.f.toNat:Int) + (q.f.toNat:Int)) % 4294967296),Value.int .u32 (((s.g.toNat:Int) + (q.g.toNat:Int)) % 4294967296),Value.int .u32 (((s.h.toNat:Int) + (q.h.toNat:Int)) % 4294967296)] = cw (s.plus q).l:=by
  simp only [u32_add];rfl
theorem compress_eq (s:St) (b:List (BitVec 8)):compress s b = s.plus (rounds (sched2 b 48) s 64):=rfl
theorem len_z8:z8.length = 8:=rfl
theorem len_z64:z64.length = 64:=rfl
theorem len_zb32:zb32.length = 32:=rfl
end Go.Proofs.YtphmmnffgknkcaaGreatDoor
namespace Go.Proofs.YtphmmnffgknkcaaGreatDoor
open Go.RowKit
set_option maxRecDepth 100000

theorem rr_ref (x:BitVec 32) (n:Int) (h1:1 ≤ n) (h2:n ≤ 31) :
    bits .or .u32 ((x.toNat:Int) / 2 ^ n.toNat) ((x.toNat:Int) * 2 ^ (32 - n).toNat % 4294967296) = ((rr x n.toNat).toNat:Int):=by
  rw [u32_shr,u32_shl,u32_or,rr,show (32 - n).toNat = 32 - n.toNat from by omega]
theorem rr_own (x:BitVec 32) (n:Int) (h1:-31 ≤ n) (h2:n ≤ -1) :
    bits .or .u32 ((x.toNat:Int) * 2 ^ (32 + n).toNat % 4294967296) ((x.toNat:Int) / 2 ^ (32 - (32 + n)).toNat) = ((rr x (-n).toNat).toNat:Int):=by
  rw [u32_shr,u32_shl,u32_or,rr,BitVec.or_comm,show (32 - (32 + n)).toNat = (-n).toNat from by omega,show (32 + n).toNat = 32 - (-n).toNat from by omega]
theorem and31 (n:Int) (h1:-31 ≤ n) (h2:n ≤ -1):bits .and .u64 (IntKind.u64.wrap n) 31 = 32 + n:=by
  obtain ⟨k,hk,hn⟩:∃ k:Nat,k < 32 ∧ n = -(k:Int):=⟨(-n).toNat,by omega,by omega⟩
  subst hn
  have:∀ k:Fin 32,1 ≤ k.val → bits .and .u64 (IntKind.u64.wrap (-(k.val:Int))) 31 = 32 + -(k.val:Int):=by decide
  exact this ⟨k,hk⟩ (by simp;omega)

set_option maxHeartbeats 400000 in
theorem turn_any (x:BitVec 32) (n:Int) (w:World) (h1:1 ≤ n) (h2:n ≤ 31) :
    Calls Tryz.prog 78 #[.int .u32 (x.toNat:Int),.int .i64 n] w fun e w' => e = .returned (.int .u32 ((rr x n.toNat).toNat:Int)) ∧ w' = w:=by
  have h:=rr_ref x n h1 h2
  have H:Hid (bits .or .u32 ((x.toNat:Int) / 2 ^ n.toNat) ((x.toNat:Int) * 2 ^ (32 - n).toNat % 4294967296) = ((rr x n.toNat).toNat:Int)):=h
  clear h
  go_enter Tryz.func78,Tryz.ntmps78
  go_wp2
  go_ret
  refine ⟨?_,rfl⟩
  rw [← H.out];rfl
set_option maxHeartbeats 400000 in
theorem rot_any (x:BitVec 32) (n:Int) (w:World) (h1:-31 ≤ n) (h2:n ≤ -1) :
    Calls Tryz.prog 117 #[.int .u32 (x.toNat:Int),.int .i64 n] w fun e w' => e = .returned (.int .u32 ((rr x (-n).toNat).toNat:Int)) ∧ w' = w:=by
  have hb:=and31 n h1 h2
  go_enter Tryz.func117,Tryz.ntmps117
  go_wp2
  go_ret
  refine ⟨?_,rfl⟩
  rw [← rr_own x n h1 h2]
  rfl
set_option maxHeartbeats 400000 in
theorem turned_any (x:BitVec 32) (n:Int) (w:World) (h1:1 ≤ n) (h2:n ≤ 31) :
    Calls Tryz.prog 108 #[.int .u32 (x.toNat:Int),.int .i64 n] w fun e w' => e = .returned (.int .u32 ((rr x n.toNat).toNat:Int)) ∧ w' = w:=by
  go_enter Tryz.func108,Tryz.ntmps108
  go_wp2_with (go_at_call 117;refine (rot_any x (-n) _ (by omega) (by omega)).mono ?_;rintro e w' ⟨rfl,rfl⟩)
  go_ret
  exact ⟨by simp,rfl⟩
end Go.Proofs.YtphmmnffgknkcaaGreatDoor
namespace Go.Proofs.YtphmmnffgknkcaaGreatDoor
open Go.RowKit
set_option maxRecDepth 100000

def Blk (w:World) (g:Nat) (cs:List Value) (t:TypeId):Prop:=w.heap[g]? = some (.cells cs.toArray t (0,0))

theorem Blk.lt {w:World} {g:Nat} {cs:List Value} {t:TypeId} (h:Blk w g cs t):g < w.heap.size:=by
  unfold Blk at h
  rcases Nat.lt_or_ge g w.heap.size with h' | h'
  · exact h'
  · rw [Array.getElem?_eq_none h'] at h;cases h
theorem Blk.cell {w:World} {g:Nat} {cs:List Value} {t:TypeId} (h:Blk w g cs t) (j:Nat):w.cell? ⟨g,j,none⟩ = cs[j]?:=by
  rw [cell_of_row w g j _ t (0,0) h];simp
theorem Blk.frozen {w:World} {g:Nat} {cs:List Value} {t:TypeId} (h:Blk w g cs t) (j:Nat):w.frozen? ⟨g,j,none⟩ = false:=frozen_of_row w g j _ t h
theorem Blk.drew {w:World} {g:Nat} {cs:List Value} {t:TypeId} (h:Blk w g cs t):Blk w.drew g cs t:=h
theorem Blk.drewN {w:World} {g:Nat} {cs:List Value} {t:TypeId} (h:Blk w g cs t) (n:Nat):Blk (w.drewN n) g cs t:=h
theorem Blk.alloc {w:World} {g:Nat} {cs:List Value} {t:TypeId} (h:Blk w g cs t) (o:Obj):Blk (w.alloc o) g cs t:=by
  have:=h.lt
  unfold Blk at *
  rw [Go.RowKit.Below.heap_alloc w o g this];exact h
theorem Blk.new (w:World) (cs:List Value) (t:TypeId):Blk (w.alloc (.cells cs.toArray t)) w.heap.size cs t:=heap_alloc_new w _
theorem Blk.new_at {w:World} {n:Nat} (hn:w.heap.size = n) (cs:List Value) (t:TypeId):Blk (w.alloc (.cells cs.toArray t)) n cs t:=by
  subst hn;exact Blk.new w cs t
theorem Blk.set {w:World} {g:Nat} {cs:List Value} {t:TypeId} (h:Blk w g cs t) (i:Nat) (v:Value):Blk (w.setCell ⟨g,i,none⟩ v) g (cs.set i v) t:=by
  unfold Blk at *
  rw [heap_setCell_same w g i _ t v h];simp
theorem Blk.other {w:World} {g:Nat} {cs:List Value} {t:TypeId} (h:Blk w g cs t) (a:Addr) (v:Value) (hne:g ≠ a.block):Blk (w.setCell a v) g cs t:=by
  unfold Blk at *
  rw [heap_setCell_other w a g v hne];exact h
theorem Blk.below {w w':World} {g B:Nat} {cs:List Value} {t:TypeId} (h:Blk w g cs t) (hb:Below B w w') (hg:g < B):Blk w' g cs t:=by
  unfold Blk at *
  rw [hb.block g hg];exact h
theorem Blk.range {w:World} {g:Nat} {cs:List Value} {t:TypeId} (h:Blk w g cs t):w.rangeAt g 0 cs:=fun j v hv => by
  rw [Nat.zero_add,h.cell j,hv]
theorem Blk.there {w:World} {g:Nat} {cs:List Value} {t:TypeId} (h:Blk w g cs t) (o n:Nat) (hn:o + n ≤ cs.length):w.there g o n:=fun j hj => by
  rw [h.cell,h.frozen]
  exact ⟨by rw [List.getElem?_eq_getElem (by omega)];rfl,rfl⟩
theorem setCells_eq (g:Nat):∀ (vs:List Value) (o:Nat) (w:World) (cs:List Value) (t:TypeId),Blk w g cs t → o + vs.length ≤ cs.length → Blk (w.setCells g o vs) g (cs.take o ++ vs ++ cs.drop (o + vs.length)) t
  | [],o,w,cs,t,h,_ => by simpa [World.setCells] using h
  | v :: r,o,w,cs,t,h,hl => by
    rw [World.setCells]
    simp only [List.length_cons] at hl
    have:=setCells_eq g r (o + 1) _ _ t (h.set o v) (by simp;omega)
    have e:(cs.set o v).take (o + 1) ++ r ++ (cs.set o v).drop (o + 1 + r.length) = cs.take o ++ (v :: r) ++ cs.drop (o + (v :: r).length):=by
      have e1:(cs.set o v).take (o + 1) = cs.take o ++ [v]:=by
        apply List.ext_getElem?
        intro i
        by_cases h1:i < o
        · rw [List.getElem?_take_of_lt (by omega),List.getElem?_append_left (by simp;omega),List.getElem?_take_of_lt h1,List.getElem?_set_ne (by omega)]
        · by_cases h2:i = o
          · subst h2
            rw [List.getElem?_take_of_lt (by omega),List.getElem?_append_right (by simp;omega),List.getElem?_set_self (by omega)]
            simp [Nat.min_eq_left (show i ≤ cs.length by omega)]
          · rw [List.getElem?_eq_none (by simp;omega),List.getElem?_eq_none (by simp;omega)]
      have e2:(cs.set o v).drop (o + 1 + r.length) = cs.drop (o + (v :: r).length):=by
        rw [List.drop_set_of_lt (by omega),List.length_cons];congr 1;omega
      rw [e1,e2];simp
    rw [e] at this;exact this
theorem Blk.whole {w:World} {g:Nat} {cs:List Value} {t:TypeId} (h:Blk w g cs t) (vs:List Value) (hl:vs.length = cs.length):Blk (w.setCells g 0 vs) g vs t:=by
  have:=setCells_eq g vs 0 w cs t h (by omega)
  simpa [hl] using this
theorem wpList_store8 {P:Program} {ops:Array Oper} {rest:List Oper} {op:Oper} {a:Act} {w:World} {Q:Exit → Act → World → Prop} (hgd:op.guard = none) (ty:TypeId) (x y:Operand) (ho:op.op = .store ty x y)
    (b:Nat) (na nb nc nd ne nf ng nh:Int) (hx:a.eval x = .pointer (some ⟨b,0,none⟩)) (hy:a.eval y = .agg #[Value.int .u32 na,Value.int .u32 nb,Value.int .u32 nc,Value.int .u32 nd,Value.int .u32 ne,Value.int .u32 nf,Value.int .u32 ng,Value.int .u32 nh])
    (ht:w.there b 0 8) (hi:(P.info? ty).map (·.size) = some 8)
    (h:wpList P ops Q rest (a.put op.dst undef) (w.setCells b 0 [Value.int .u32 na,Value.int .u32 nb,Value.int .u32 nc,Value.int .u32 nd,Value.int .u32 ne,Value.int .u32 nf,Value.int .u32 ng,Value.int .u32 nh])):wpList P ops Q (op :: rest) a w:=
  wpList_store_mid hgd ty x y ho b 0 _ hx hy ht hi (by simp [Value.oneCell']) h
theorem wpList_build8 {P:Program} {ops:Array Oper} {rest:List Oper} {o:Oper} {a:Act} {w:World} {Q:Exit → Act → World → Prop} (hg:o.guard = none) (t:TypeId) (xa xb xc xd xe xf xg xh:Operand)
    (ho:o.op = .build t #[(0,xa),(1,xb),(2,xc),(3,xd),(4,xe),(5,xf),(6,xg),(7,xh)]) (na nb nc nd ne nf ng nh:Int) (ea:a.eval xa = .int .u32 na) (eb:a.eval xb = .int .u32 nb) (ec:a.eval xc = .int .u32 nc) (ed:a.eval xd = .int .u32 nd) (ee:a.eval xe = .int .u32 ne) (ef:a.eval xf = .int .u32 nf) (eg:a.eval xg = .int .u32 ng) (eh:a.eval xh = .int .u32 nh)
    (hb:P.built t [(0,Value.int .u32 na),(1,Value.int .u32 nb),(2,Value.int .u32 nc),(3,Value.int .u32 nd),(4,Value.int .u32 ne),(5,Value.int .u32 nf),(6,Value.int .u32 ng),(7,Value.int .u32 nh)] = some #[Value.int .u32 na,Value.int .u32 nb,Value.int .u32 nc,Value.int .u32 nd,Value.int .u32 ne,Value.int .u32 nf,Value.int .u32 ng,Value.int .u32 nh])
    (h:wpList P ops Q rest (a.put o.dst (.agg #[Value.int .u32 na,Value.int .u32 nb,Value.int .u32 nc,Value.int .u32 nd,Value.int .u32 ne,Value.int .u32 nf,Value.int .u32 ng,Value.int .u32 nh])) w):wpList P ops Q (o :: rest) a w:=
  wpList_build hg t _ ho (by simp [ea,eb,ec,ed,ee,ef,eg,eh,hb]) (by simpa [ea,eb,ec,ed,ee,ef,eg,eh,hb] using h)
theorem cw_get (l:List (BitVec 32)) (j:Nat) (h:j < l.length):(cw l)[j]? = some (.int .u32 ((l.getD j 0).toNat:Int)):=by simp [cw,h]
theorem cb_get (l:List (BitVec 8)) (j:Nat) (h:j < l.length):(cb l)[j]? = some (.int .u8 ((l.getD j 0).toNat:Int)):=by simp [cb,h]
theorem cw_set (l:List (BitVec 32)) (j:Nat) (v:BitVec 32):(cw l).set j (.int .u32 (v.toNat:Int)) = cw (l.set j v):=by simp [cw,List.map_set]
theorem cb_set (l:List (BitVec 8)) (j:Nat) (v:BitVec 8):(cb l).set j (.int .u8 (v.toNat:Int)) = cb (l.set j v):=by simp [cb,List.map_set]
theorem cw_len (l:List (BitVec 32)):(cw l).length = l.length:=by simp [cw]
theorem cb_len (l:List (BitVec 8)):(cb l).length = l.length:=by simp [cb]
theorem cw_one (l:List (BitVec 32)):∀ v ∈ cw l,v.oneCell' = true:=by simp [cw,Value.oneCell']
theorem cb_one (l:List (BitVec 8)):∀ v ∈ cb l,v.oneCell' = true:=by simp [cb,Value.oneCell']
theorem Below.setCells {B:Nat} {a:World} (g:Nat) (hg:B ≤ g):∀ (vs:List Value) (o:Nat) (w:World),Below B a w → Below B a (w.setCells g o vs)
  | [],_,_,h => h
  | v :: r,o,w,h => by rw [World.setCells];exact Below.setCells g hg r (o + 1) _ (h.setCell hg v)
theorem Blk.others (g':Nat):∀ (vs:List Value) (o:Nat) (w:World) {g:Nat} {cs:List Value} {t:TypeId},Blk w g cs t → g ≠ g' → Blk (w.setCells g' o vs) g cs t
  | [],_,_,_,_,_,h,_ => h
  | v :: r,o,w,_,_,_,h,hne => by rw [World.setCells];exact Blk.others g' r (o + 1) _ (h.other _ v hne) hne
end Go.Proofs.YtphmmnffgknkcaaGreatDoor
namespace Go.Proofs.YtphmmnffgknkcaaGreatDoor
open Go.RowKit
set_option maxRecDepth 100000
theorem Tryz.info123:(Tryz.prog.info? 123).map (·.size) = some 64:=by kernel_rfl
theorem len_sched1 (b:List (BitVec 8)) (k:Nat):(sched1 b k).length = 64:=by
  induction k with
  | zero => simp [sched1]
  | succ k ih => simp [sched1,ih]
theorem len_sched2 (b:List (BitVec 8)) (k:Nat):(sched2 b k).length = 64:=by
  induction k with
  | zero => exact len_sched1 b 16
  | succ k ih => simp [sched2,ih]
structure SpInv (w:World) (b:List (BitVec 8)) (l:List (BitVec 32)) (wr:World):Prop where
  blk:Blk wr w.heap.size (cb b) 130
  res:Blk wr (w.heap.size + 1) (cw (List.replicate 64 0)) 123
  wds:Blk wr (w.heap.size + 1 + 1) (cw l) 123
  bel:Below w.heap.size w wr
theorem SpInv.store {w wr:World} {b:List (BitVec 8)} {l:List (BitVec 32)} (h:SpInv w b l wr) (k:Nat) (v:BitVec 32) :
    SpInv w b (l.set k v) ((wr.setCell ⟨w.heap.size + 1 + 1,k,none⟩ (.int .u32 (v.toNat:Int))).drew):=
  ⟨(h.blk.other _ _ (by simp;omega)).drew,(h.res.other _ _ (by simp)).drew,by have:=(h.wds.set k (.int .u32 (v.toNat:Int))).drew;rw [cw_set] at this;exact this,(h.bel.setCell (by simp;omega) _).drew⟩
theorem SpInv.drewN {w wr:World} {b:List (BitVec 8)} {l:List (BitVec 32)} (h:SpInv w b l wr) (n:Nat):SpInv w b l (wr.drewN n):=⟨h.blk,h.res,h.wds,⟨h.bel.os,h.bel.tape,h.bel.output,h.bel.size,h.bel.block⟩⟩
theorem SpInv.at {w wr:World} {b:List (BitVec 8)} {l:List (BitVec 32)} (h:SpInv w b l wr) (j:Nat) (hj:j < l.length):wr.cell? ⟨w.heap.size + 1 + 1,j,none⟩ = some (.int .u32 ((l.getD j 0).toNat:Int)):=by
  rw [h.wds.cell,cw_get l j hj]
theorem SpInv.by {w wr:World} {b:List (BitVec 8)} {l:List (BitVec 32)} (h:SpInv w b l wr) (j:Nat) (hj:j < b.length):wr.cell? ⟨w.heap.size,j,none⟩ = some (.int .u8 ((b.getD j 0).toNat:Int)):=by
  rw [h.blk.cell,cb_get b j hj]
theorem word4 (b0 b1 b2 b3:BitVec 8) :
    bits .or .u32 (bits .or .u32 (bits .or .u32 ((b0.toNat:Int) * 16777216) ((b1.toNat:Int) * 65536)) ((b2.toNat:Int) * 256)) (b3.toNat:Int) =
      ((b0.setWidth 32 <<< 24 ||| b1.setWidth 32 <<< 16 ||| b2.setWidth 32 <<< 8 ||| b3.setWidth 32).toNat:Int):=by
  have h0:=b0.isLt
  have h1:=b1.isLt
  have h2:=b2.isLt
  have e0:(b0.toNat:Int) * (16777216:Int) = ((b0.setWidth 32 <<< 24).toNat:Int):=by simp [BitVec.toNat_shiftLeft,Nat.shiftLeft_eq];omega
  have e1:(b1.toNat:Int) * (65536:Int) = ((b1.setWidth 32 <<< 16).toNat:Int):=by simp [BitVec.toNat_shiftLeft,Nat.shiftLeft_eq];omega
  have e2:(b2.toNat:Int) * (256:Int) = ((b2.setWidth 32 <<< 8).toNat:Int):=by simp [BitVec.toNat_shiftLeft,Nat.shiftLeft_eq];omega
  rw [e0,e1,e2,byte_word b3,u32_or,u32_or,u32_or]
set_option maxRecDepth 100000 in
set_option maxHeartbeats 1000000 in
theorem spread_any (b:List (BitVec 8)) (hb:b.length = 64) (w:World) :
    Calls Tryz.prog 107 #[.agg (cb b).toArray] w fun e w' => e = .returned (.agg (cw (sched2 b 48)).toArray) ∧ Below w.heap.size w w':=by
  go_enter Tryz.func107,Tryz.ntmps107
  go_wp2
  go_loopw [10] (fun i wr => ∃ k:Nat,k ≤ 16 ∧ i = .int .i64 k ∧ SpInv w b (sched1 b k) wr) (fun i _ => 16 - (intOf i).toNat)
  case atStart =>
    refine ⟨0,by omega,rfl,?_,?_,?_,?_⟩
    · exact ((Blk.new w (cb b) 130).alloc _).alloc _
    · exact (Blk.new_at (w:=w.alloc (.cells (cb b).toArray 130)) (by simp) (cw (List.replicate 64 0)) 123).alloc (.cells (cw (List.replicate 64 0)).toArray 123)
    · exact Blk.new_at (w:=(w.alloc (.cells (cb b).toArray 130)).alloc (.cells (cw (List.replicate 64 0)).toArray 123)) (by simp) (cw (List.replicate 64 0)) 123
    · exact (((Below.refl _ _).alloc (Nat.le_refl _) _).alloc (by simp) _).alloc (by simp;omega) _
  case round =>
    obtain ⟨k,hk,rfl,hI⟩:=hrel
    by_cases hlt:k < 16
    · obtain ⟨b0,H0⟩:∃ x,Hid (x = b.getD (4 * k) 0):=⟨_,rfl⟩
      obtain ⟨b1,H1⟩:∃ x,Hid (x = b.getD (4 * k + 1) 0):=⟨_,rfl⟩
      obtain ⟨b2,H2⟩:∃ x,Hid (x = b.getD (4 * k + 2) 0):=⟨_,rfl⟩
      obtain ⟨b3,H3⟩:∃ x,Hid (x = b.getD (4 * k + 3) 0):=⟨_,rfl⟩
      have c0:wr.cell? ⟨w.heap.size,4 * k,none⟩ = some (.int .u8 (b0.toNat:Int)):=by rw [H0.out];exact hI.by _ (by omega)
      have c1:wr.cell? ⟨w.heap.size,4 * k + 1,none⟩ = some (.int .u8 (b1.toNat:Int)):=by rw [H1.out];exact hI.by _ (by omega)
      have c2:wr.cell? ⟨w.heap.size,4 * k + 2,none⟩ = some (.int .u8 (b2.toNat:Int)):=by rw [H2.out];exact hI.by _ (by omega)
      have c3:wr.cell? ⟨w.heap.size,4 * k + 3,none⟩ = some (.int .u8 (b3.toNat:Int)):=by rw [H3.out];exact hI.by _ (by omega)
      have HW:Hid (wordAt b k = b0.setWidth 32 <<< 24 ||| b1.setWidth 32 <<< 16 ||| b2.setWidth 32 <<< 8 ||| b3.setWidth 32):=by rw [H0.out,H1.out,H2.out,H3.out];rfl
      obtain ⟨o,cT⟩:∃ o,wr.cell? ⟨w.heap.size + 1 + 1,k,none⟩ = some o:=⟨_,hI.at k (by rw [len_sched1];omega)⟩
      have fT:wr.frozen? ⟨w.heap.size + 1 + 1,k,none⟩ = false:=hI.wds.frozen k
      have g0:(b0.toNat:Int) < 256:=by have:=b0.isLt;omega
      have g1:(b1.toNat:Int) < 256:=by have:=b1.isLt;omega
      have g2:(b2.toNat:Int) < 256:=by have:=b2.isLt;omega
      have g3:(b3.toNat:Int) < 256:=by have:=b3.isLt;omega
      clear H0 H1 H2 H3
      go_wp2
      go_region
      go_wp2
      go_roundw
      case rel =>
        refine ⟨k + 1,by omega,by go_num,?_⟩
        have:=hI.store k (wordAt b k)
        rw [HW.out,← word4] at this
        rw [sched1,HW.out]
        exact this
      case measure => simp [intOf];omega
    · have hk16:k = 16:=by omega
      subst hk16
      go_wp2
      go_loopw [43] (fun i wr => ∃ k:Nat,k ≤ 48 ∧ i = .int .i64 k ∧ SpInv w b (sched2 b k) wr) (fun i _ => 48 - (intOf i).toNat)
      case atStart => exact ⟨0,by omega,rfl,hI⟩
      case round =>
        clear hI hlt hk
        obtain ⟨k,hk,rfl,hI⟩:=hrel
        by_cases hlt:k < 48
        · obtain ⟨x0,H0⟩:∃ x,Hid (x = (sched2 b k).getD k 0):=⟨_,rfl⟩
          obtain ⟨x1,H1⟩:∃ x,Hid (x = (sched2 b k).getD (k + 1) 0):=⟨_,rfl⟩
          obtain ⟨x9,H9⟩:∃ x,Hid (x = (sched2 b k).getD (k + 9) 0):=⟨_,rfl⟩
          obtain ⟨x14,H14⟩:∃ x,Hid (x = (sched2 b k).getD (k + 14) 0):=⟨_,rfl⟩
          have hl:=len_sched2 b k
          have hc:∀ wx,SpInv w b (sched2 b k) wx → wx.cell? ⟨w.heap.size + 1 + 1,k,none⟩ = some (.int .u32 (x0.toNat:Int)) ∧ wx.cell? ⟨w.heap.size + 1 + 1,k + 1,none⟩ = some (.int .u32 (x1.toNat:Int)) ∧
              wx.cell? ⟨w.heap.size + 1 + 1,k + 9,none⟩ = some (.int .u32 (x9.toNat:Int)) ∧ wx.cell? ⟨w.heap.size + 1 + 1,k + 14,none⟩ = some (.int .u32 (x14.toNat:Int)) ∧ 
              (∃ o,wx.cell? ⟨w.heap.size + 1 + 1,k + 16,none⟩ = some o) ∧ wx.frozen? ⟨w.heap.size + 1 + 1,k + 16,none⟩ = false:=by
            intro wx hx
            rw [H0.out,H1.out,H9.out,H14.out]
            exact ⟨hx.at _ (by omega),hx.at _ (by omega),hx.at _ (by omega),hx.at _ (by omega),⟨_,hx.at _ (by omega)⟩,hx.wds.frozen _⟩
          have HC:Hid (∀ wx,SpInv w b (sched2 b k) wx → wx.cell? ⟨w.heap.size + 1 + 1,k,none⟩ = some (.int .u32 (x0.toNat:Int)) ∧ wx.cell? ⟨w.heap.size + 1 + 1,k + 1,none⟩ = some (.int .u32 (x1.toNat:Int)) ∧
              wx.cell? ⟨w.heap.size + 1 + 1,k + 9,none⟩ = some (.int .u32 (x9.toNat:Int)) ∧ wx.cell? ⟨w.heap.size + 1 + 1,k + 14,none⟩ = some (.int .u32 (x14.toNat:Int)) ∧ 
              (∃ o,wx.cell? ⟨w.heap.size + 1 + 1,k + 16,none⟩ = some o) ∧ wx.frozen? ⟨w.heap.size + 1 + 1,k + 16,none⟩ = false):=hc
          clear hc hl
          obtain ⟨c0,c1,c9,c14,⟨o,cT⟩,fT⟩:=HC.out wr hI
          go_wp2
          go_quiet ((go_at_call 108;exact Calls.quiet_of_same (turned_any _ _ _ (by omega) (by omega))))
          have hI2:=hI.drewN nq
          clear hI c0 c1 c9 c14 cT fT
          generalize wr.drewN nq = wq at *
          obtain ⟨c0,c1,c9,c14,⟨o,cT⟩,fT⟩:=HC.out wq hI2
          go_wp2
          go_quiet ((go_at_call 108;exact Calls.quiet_of_same (turned_any _ _ _ (by omega) (by omega))))
          have hI:=hI2.drewN nq
          clear hI2 c0 c1 c9 c14 cT fT
          generalize wq.drewN nq = wp at *
          obtain ⟨c0,c1,c9,c14,⟨o,cT⟩,fT⟩:=HC.out wp hI
          go_wp2
          go_region
          go_wp2
          go_roundw
          case rel =>
            refine ⟨k + 1,by omega,by go_num,?_⟩
            have:=hI.store (k + 16) (x0 + sig0 x1 + x9 + sig1 x14)
            rw [← u32_add4,← sig0_eq,← sig1_eq] at this
            rw [sched2,← H0.out,← H1.out,← H9.out,← H14.out]
            exact this
          case measure => simp [intOf];omega
        · have hk48:k = 48:=by omega
          subst hk48
          have hz:(Tryz.prog.info? 123).map (·.size) = some (cw (sched2 b 48)).length:=by rw [cw_len,len_sched2];exact Tryz.info123
          have HL:Hid ((cw (sched2 b 48)).length = (cw (List.replicate 64 (0:BitVec 32))).length):=by rw [cw_len,cw_len,len_sched2];rfl
          have HZ:Hid ((Tryz.prog.info? 123).map (·.size) = some (cw (sched2 b 48)).length):=hz
          clear hz
          go_wp2_with (first
            | (refine wpList_load_mid rfl 123 _ rfl (w.heap.size + 1 + 1) 0 rfl (cw (sched2 b 48)) _ hI.wds.range Tryz.underlying123 rfl HZ.out ?_)
            | (refine wpList_store_mid rfl 123 _ _ rfl (w.heap.size + 1) 0 (cw (sched2 b 48)).toArray rfl rfl (hI.res.there 0 _ (by simp [HL.out])) (by simpa using HZ.out) (all_oneCell_toArray (cw_one _)) ?_))
          have hB:=hI.res.whole (cw (sched2 b 48)) HL.out
          refine bodyPost_ret (v:=.agg (cw (sched2 b 48)).toArray) (results_cell_row (by rfl) _ _ (w.heap.size + 1) 123 _ (0,0) _ rfl hB Tryz.underlying123 rfl (by simpa using HZ.out)) rfl ⟨rfl,Below.setCells _ (by omega) _ _ _ hI.bel⟩
end Go.Proofs.YtphmmnffgknkcaaGreatDoor
namespace Go.Proofs.YtphmmnffgknkcaaGreatDoor
open Go.RowKit
set_option maxRecDepth 100000
theorem Tryz.info130:(Tryz.prog.info? 130).map (·.size) = some 64:=by kernel_rfl
theorem Tryz.info92:(Tryz.prog.info? 92).map (·.size) = some 8:=by kernel_rfl
theorem built8 (na nb nc nd ne nf ng nh:Int):Tryz.prog.built 92 [(0,Value.int .u32 na),(1,Value.int .u32 nb),(2,Value.int .u32 nc),(3,Value.int .u32 nd),(4,Value.int .u32 ne),(5,Value.int .u32 nf),(6,Value.int .u32 ng),(7,Value.int .u32 nh)] = some #[Value.int .u32 na,Value.int .u32 nb,Value.int .u32 nc,Value.int .u32 nd,Value.int .u32 ne,Value.int .u32 nf,Value.int .u32 ng,Value.int .u32 nh]:=by kernel_rfl
def KOk (w:World):Prop:=∀ j,j < 64 → w.cell? ⟨1,j,none⟩ = some (.int .u32 ((kw.getD j 0).toNat:Int))
theorem KOk.lt {w:World} (h:KOk w):1 < w.heap.size:=block_lt_of_cell (h 0 (by omega))
theorem KOk.below {w w':World} {B:Nat} (h:KOk w) (hb:Below B w w') (hB:1 < B):KOk w':=fun j hj => by rw [hb.cell (p:=⟨1,j,none⟩) hB];exact h j hj
structure MixInv (w:World) (s:St) (ws:List (BitVec 32)) (g:Nat) (wr:World):Prop where
  wds:Blk wr w.heap.size (cw s.l) 92
  res:Blk wr (w.heap.size + 1 + 1) (cw z8) 92
  sch:Blk wr g (cw ws) 123
  kok:KOk wr
  bel:Below w.heap.size w wr
theorem MixInv.drewN {w wr:World} {s:St} {ws:List (BitVec 32)} {g:Nat} (h:MixInv w s ws g wr) (n:Nat):MixInv w s ws g (wr.drewN n):=
  ⟨h.wds,h.res,h.sch,h.kok,⟨h.bel.os,h.bel.tape,h.bel.output,h.bel.size,h.bel.block⟩⟩
theorem MixInv.words {w wr:World} {s:St} {ws:List (BitVec 32)} {g:Nat} (h:MixInv w s ws g wr) :
    wr.cell? ⟨w.heap.size,0,none⟩ = some (.int .u32 (s.a.toNat:Int)) ∧ wr.cell? ⟨w.heap.size,1,none⟩ = some (.int .u32 (s.b.toNat:Int)) ∧
    wr.cell? ⟨w.heap.size,2,none⟩ = some (.int .u32 (s.c.toNat:Int)) ∧ wr.cell? ⟨w.heap.size,3,none⟩ = some (.int .u32 (s.d.toNat:Int)) ∧
    wr.cell? ⟨w.heap.size,4,none⟩ = some (.int .u32 (s.e.toNat:Int)) ∧ wr.cell? ⟨w.heap.size,5,none⟩ = some (.int .u32 (s.f.toNat:Int)) ∧
    wr.cell? ⟨w.heap.size,6,none⟩ = some (.int .u32 (s.g.toNat:Int)) ∧ wr.cell? ⟨w.heap.size,7,none⟩ = some (.int .u32 (s.h.toNat:Int)):=by
  simp only [h.wds.cell]
  exact ⟨rfl,rfl,rfl,rfl,rfl,rfl,rfl,rfl⟩
theorem MixInv.at {w wr:World} {s:St} {ws:List (BitVec 32)} {g:Nat} (h:MixInv w s ws g wr) (j:Nat) (hj:j < ws.length):wr.cell? ⟨g,j,none⟩ = some (.int .u32 ((ws.getD j 0).toNat:Int)):=by
  rw [h.sch.cell,cw_get ws j hj]
theorem rounds_succ' (ws:List (BitVec 32)) (s:St) (k:Nat):rounds ws s (k + 1) = rnd (rounds ws s k) (kw.getD k 0) (ws.getD k 0):=rfl
theorem MixInv.start {w w1:World} {s:St} {ws:List (BitVec 32)} {X:Obj} (hK:KOk w) (hl:ws.length = 64)
    (h:Below (w.heap.size + 1 + 1 + 1) (((w.alloc (.cells (cw s.l).toArray 92)).alloc X).alloc (.cells (cw z8).toArray 92)) w1) :
    MixInv w s ws w1.heap.size ((w1.alloc (.cells (cw z64).toArray 123)).setCells w1.heap.size 0 (cw ws)):=by
  have h1:=h.size
  simp at h1
  have hk:=hK.lt
  have b0:Below w.heap.size w (((w.alloc (.cells (cw s.l).toArray 92)).alloc X).alloc (.cells (cw z8).toArray 92)):=
    (((Below.refl _ _).alloc (Nat.le_refl _) _).alloc (by simp) _).alloc (by simp;omega) _
  have b1:Below w.heap.size w w1:=b0.trans (h.mono (by omega))
  have b2:Below w.heap.size w ((w1.alloc (.cells (cw z64).toArray 123)).setCells w1.heap.size 0 (cw ws)):=Below.setCells _ (by omega) _ _ _ (b1.alloc (by omega) _)
  refine ⟨?_,?_,?_,hK.below b2 hk,b2⟩
  · exact Blk.others _ _ _ _ ((Blk.below (((Blk.new w (cw s.l) _).alloc _).alloc _) h (by omega)).alloc _) (by omega)
  · exact Blk.others _ _ _ _ ((Blk.below (Blk.new_at (by simp) (cw z8) _) h (by omega)).alloc _) (by omega)
  · exact (Blk.new w1 _ _).whole _ (by simp [cw_len,hl,len_z64])
set_option maxHeartbeats 1000000 in
theorem mix_any (s:St) (b:List (BitVec 8)) (hb:b.length = 64) (w:World) (hK:KOk w) :
    Calls Tryz.prog 83 #[.agg (cw s.l).toArray,.agg (cb b).toArray] w fun e w' => e = .returned (.agg (cw (compress s b).l).toArray) ∧ Below w.heap.size w w':=by
  have HK:Hid (KOk w):=hK
  clear hK
  obtain ⟨r,HR⟩:∃ r,Hid (compress s b = r):=⟨_,rfl⟩
  rw [HR.out]
  go_enter Tryz.func83,Tryz.ntmps83
  have HZ:Hid ((Tryz.prog.info? 130).map (·.size) = some (cb b).length):=by rw [cb_len,hb];exact Tryz.info130
  have HY:Hid ((Tryz.prog.info? 123).map (·.size) = some (cw (sched2 b 48)).length):=by rw [cw_len,len_sched2];exact Tryz.info123
  have HN:Hid (b.length = 64):=hb
  clear hb
  set_option maxRecDepth 100000 in
  go_wp2_with (first
    | (refine wpList_load_mid rfl 130 _ rfl _ 0 rfl (cb b) _ ?_ Tryz.underlying130 rfl HZ.out ?_;exact (Blk.alloc (Blk.new_at (by simp) _ _) _).range)
    | (go_at_call 107;refine (spread_any b HN.out _).mono ?_;rintro e w1 ⟨rfl,hw1⟩)
    | (refine wpList_store_mid rfl 123 _ _ rfl _ 0 (cw (sched2 b 48)).toArray rfl rfl ?_ (by simpa using HY.out) (all_oneCell_toArray (cw_one _)) ?_;exact Blk.there (Blk.new_at rfl (cw z64) _) _ _ (by simp [cw_len,len_sched2,len_z64])))
  have h2:=hw1.mono (B':=w.heap.size + 1 + 1 + 1) (by simp)
  clear hw1
  generalize h0:Obj.cells _ 123 = o64
  set_option maxRecDepth 100000 in
  have ho:o64 = Obj.cells (cw z64).toArray 123:=h0.symm
  clear h0
  subst ho
  set_option maxRecDepth 100000 in
  have hI:=MixInv.start (ws:=sched2 b 48) HK.out (len_sched2 b 48) h2
  clear h2
  generalize World.setCells _ _ _ _ = wq at *
  have HL:Hid ((sched2 b 48).length = 64):=len_sched2 b 48
  clear HY
  generalize hws:sched2 b 48 = ws at *
  have HW:Hid (sched2 b 48 = ws):=hws
  clear hws
  generalize w1.heap.size = g at *
  simp only [Act.put]
  as_aux_lemma =>
    obtain ⟨c0,c1,c2,c3,c4,c5,c6,c7⟩:=hI.words
    go_quiet (fail)
    have hJ:=hI.drewN nq
    clear c0 c1 c2 c3 c4 c5 c6 c7 hI
    generalize wq.drewN nq = wp at *
    obtain ⟨c0,c1,c2,c3,c4,c5,c6,c7⟩:=hJ.words
    go_wp2
    go_quiet (fail)
    have hI:=hJ.drewN nq
    clear c0 c1 c2 c3 c4 c5 c6 c7 hJ
    generalize wp.drewN nq = wq at *
    go_wp2
    go_loopw [6,7,8,9,10,11,12,13,35] (fun v6 v7 v8 v9 v10 v11 v12 v13 i wr => ∃ k:Nat,k ≤ 64 ∧ i = .int .i64 k ∧
        v6 = .int .u32 ((rounds ws s k).a.toNat:Int) ∧ v7 = .int .u32 ((rounds ws s k).b.toNat:Int) ∧ v8 = .int .u32 ((rounds ws s k).c.toNat:Int) ∧ v9 = .int .u32 ((rounds ws s k).d.toNat:Int) ∧
        v10 = .int .u32 ((rounds ws s k).e.toNat:Int) ∧ v11 = .int .u32 ((rounds ws s k).f.toNat:Int) ∧ v12 = .int .u32 ((rounds ws s k).g.toNat:Int) ∧ v13 = .int .u32 ((rounds ws s k).h.toNat:Int) ∧ MixInv w s ws g wr)
      (fun _ _ _ _ _ _ _ _ i _ => 64 - (intOf i).toNat)
    case atStart => exact ⟨0,by omega,rfl,rfl,rfl,rfl,rfl,rfl,rfl,rfl,rfl,hI⟩
    case round =>
      clear hI
      obtain ⟨k,hk,rfl,rfl,rfl,rfl,rfl,rfl,rfl,rfl,rfl,hI⟩:=hrel
      by_cases hlt:k < 64
      · obtain ⟨x,y,cx,cy,HS⟩:∃ x y:BitVec 32,wr.cell? ⟨g,k,none⟩ = some (.int .u32 (x.toNat:Int)) ∧ wr.cell? ⟨1,k,none⟩ = some (.int .u32 (y.toNat:Int)) ∧ Hid (rounds ws s (k + 1) = rnd (rounds ws s k) y x):=
          ⟨_,_,hI.at k (by have:=HL.out;omega),hI.kok k hlt,rounds_succ' ws s k⟩
        clear HL HN HW HR
        generalize rounds ws s k = q at *
        obtain ⟨ra,rb,rc,rd,re,rf,rg,rh⟩:=q
        dsimp only at *
        go_wp2
        go_quiet ((go_at_call 108;exact Calls.quiet_of_same (turned_any _ _ _ (by omega) (by omega))))
        go_wp2_with (go_at_call 108;refine (turned_any _ _ _ (by omega) (by omega)).mono ?_;rintro e w' ⟨rfl,rfl⟩)
        go_roundw
        case rel =>
          refine ⟨k + 1,by omega,by go_num,?_,?_,?_,?_,?_,?_,?_,?_,hI.drewN nq⟩
          all_goals rw [HS.out]
          · rw [big1_eq,cho_own,big0_eq,maj_eq,sum_a];rfl
          · rfl
          · rfl
          · rfl
          · rw [big1_eq,cho_own,sum_e];rfl
          · rfl
          · rfl
          · rfl
        case measure => simp [intOf];omega
      · have hk64:k = 64:=by omega
        subst hk64
        obtain ⟨c0,c1,c2,c3,c4,c5,c6,c7⟩:=hI.words
        have HC:Hid (r = s.plus (rounds ws s 64)):=by have:=HR.out;rw [compress_eq,HW.out] at this;exact this.symm
        clear HW HR
        generalize rounds ws s 64 = q at *
        as_aux_lemma =>
          go_wp2_with (first
            | (refine wpList_build8 rfl 92 _ _ _ _ _ _ _ _ rfl _ _ _ _ _ _ _ _ rfl rfl rfl rfl rfl rfl rfl rfl (built8 _ _ _ _ _ _ _ _) ?_)
            | (refine wpList_store8 rfl 92 _ _ rfl _ _ _ _ _ _ _ _ _ rfl rfl (hI.res.there 0 8 (by simp [cw_len,len_z8])) Tryz.info92 ?_))
          have hB:=hI.res.whole [Value.int .u32 (((s.a.toNat:Int) + (q.a.toNat:Int)) % 4294967296),Value.int .u32 (((s.b.toNat:Int) + (q.b.toNat:Int)) % 4294967296),Value.int .u32 (((s.c.toNat:Int) + (q.c.toNat:Int)) % 4294967296),Value.int .u32 (((s.d.toNat:Int) + (q.d.toNat:Int)) % 4294967296),Value.int .u32 (((s.e.toNat:Int) + (q.e.toNat:Int)) % 4294967296),Value.int .u32 (((s.f.toNat:Int) + (q.f.toNat:Int)) % 4294967296),Value.int .u32 (((s.g.toNat:Int) + (q.g.toNat:Int)) % 4294967296),Value.int .u32 (((s.h.toNat:Int) + (q.h.toNat:Int)) % 4294967296)] (by rw [cw_len,len_z8];rfl)
          refine bodyPost_ret (v:=.agg #[Value.int .u32 (((s.a.toNat:Int) + (q.a.toNat:Int)) % 4294967296),Value.int .u32 (((s.b.toNat:Int) + (q.b.toNat:Int)) % 4294967296),Value.int .u32 (((s.c.toNat:Int) + (q.c.toNat:Int)) % 4294967296),Value.int .u32 (((s.d.toNat:Int) + (q.d.toNat:Int)) % 4294967296),Value.int .u32 (((s.e.toNat:Int) + (q.e.toNat:Int)) % 4294967296),Value.int .u32 (((s.f.toNat:Int) + (q.f.toNat:Int)) % 4294967296),Value.int .u32 (((s.g.toNat:Int) + (q.g.toNat:Int)) % 4294967296),Value.int .u32 (((s.h.toNat:Int) + (q.h.toNat:Int)) % 4294967296)]) (results_cell_row (by rfl) _ _ (w.heap.size + 1 + 1) 92 _ (0,0) _ rfl hB Tryz.underlying92 rfl Tryz.info92) rfl ⟨?_,Below.setCells _ (by omega) _ _ _ hI.bel⟩
          rw [HC.out,← plus_cells]
end Go.Proofs.YtphmmnffgknkcaaGreatDoor
namespace Go.Proofs.YtphmmnffgknkcaaGreatDoor
open Go.RowKit
set_option maxRecDepth 100000

def blocks:Nat → St → List (BitVec 8) → St
  | 0,s,_ => s
  | k + 1,s,m => blocks k (compress s (m.take 64)) (m.drop 64)
theorem blocks_append:∀ (k:Nat) (s:St) (m x:List (BitVec 8)),64 * k ≤ m.length → blocks k s (m ++ x) = blocks k s m
  | 0,_,_,_,_ => rfl
  | k + 1,s,m,x,h => by
    simp only [blocks]
    rw [List.take_append_of_le_length (by omega),List.drop_append_of_le_length (by omega)]
    exact blocks_append k _ _ _ (by simp;omega)
theorem blocks_last:∀ (k:Nat) (s:St) (m:List (BitVec 8)),blocks (k + 1) s m = compress (blocks k s m) ((m.drop (64 * k)).take 64)
  | 0,s,m => by simp [blocks]
  | k + 1,s,m => by
    rw [blocks,blocks_last k,blocks,List.drop_drop]
    congr 3;omega

def hc (s:St) (blk:List (BitVec 8)) (n:Nat):List Value:=cw s.l ++ (cb blk ++ [Value.int .u64 (n:Int)])
theorem len_l (s:St):(cw s.l).length = 8:=rfl
theorem len_hc (s:St) (blk:List (BitVec 8)) (n:Nat) (h:blk.length = 64):(hc s blk n).length = 73:=by simp [hc,len_l,cb_len,h]
theorem hc_len (s:St) (blk:List (BitVec 8)) (n:Nat) (h:blk.length = 64):(hc s blk n)[72]? = some (.int .u64 (n:Int)):=by
  rw [hc,List.getElem?_append_right (by rw [len_l];omega),List.getElem?_append_right (by rw [cb_len,len_l,h];omega)]
  simp [cb_len,len_l,h]
theorem hc_setn (s:St) (blk:List (BitVec 8)) (n k:Nat) (h:blk.length = 64):(hc s blk n).set 72 (.int .u64 (k:Int)) = hc s blk k:=by
  rw [hc,List.set_append_right _ _ (by rw [len_l];omega),List.set_append_right _ _ (by rw [cb_len,len_l,h];omega)]
  simp [cb_len,len_l,h,hc]
theorem hc_words (s t:St) (blk:List (BitVec 8)) (n:Nat):(hc s blk n).take 0 ++ cw t.l ++ (hc s blk n).drop (0 + (cw t.l).length) = hc t blk n:=by
  rw [len_l,hc,List.drop_append_of_le_length (by rw [len_l];omega)]
  simp [hc,cw,St.l]
theorem hc_block (s:St) (blk y:List (BitVec 8)) (n r:Nat) (h:blk.length = 64) (hy:r + y.length ≤ 64) :
    (hc s blk n).take (8 + r) ++ cb y ++ (hc s blk n).drop (8 + r + (cb y).length) = hc s (blk.take r ++ y ++ blk.drop (r + y.length)) n:=by
  have h1:(hc s blk n).take (8 + r) = cw s.l ++ cb (blk.take r):=by
    rw [hc,List.take_append,len_l,List.take_of_length_le (by rw [len_l];omega),show 8 + r - 8 = r by omega,List.take_append_of_le_length (by rw [cb_len];omega)]
    simp [cb,List.map_take]
  have h2:(hc s blk n).drop (8 + r + (cb y).length) = cb (blk.drop (r + y.length)) ++ [Value.int .u64 (n:Int)]:=by
    rw [hc,cb_len,List.drop_append,len_l,List.drop_of_length_le (by rw [len_l];omega),show 8 + r + y.length - 8 = r + y.length by omega,List.drop_append_of_le_length (by rw [cb_len];omega)]
    simp [cb,List.map_drop]
  rw [h1,h2]
  simp [hc,cb]
theorem hc_block_at (s:St) (blk:List (BitVec 8)) (n:Nat) (h:blk.length = 64) (j:Nat) (v:Value) (hv:(cb blk)[j]? = some v):(hc s blk n)[8 + j]? = some v:=by
  have hj:j < blk.length:=by have:=(List.getElem?_eq_some_iff.1 hv).1;rwa [cb_len] at this
  rw [hc,List.getElem?_append_right (by rw [len_l];omega),len_l,show 8 + j - 8 = j by omega,List.getElem?_append_left (by rw [cb_len];omega)]
  exact hv
theorem hc_words_at (s:St) (blk:List (BitVec 8)) (n:Nat) (j:Nat) (v:Value) (hv:(cw s.l)[j]? = some v):(hc s blk n)[0 + j]? = some v:=by
  have hj:j < (cw s.l).length:=(List.getElem?_eq_some_iff.1 hv).1
  rw [hc,List.getElem?_append_left (by omega),Nat.zero_add];exact hv

structure Says (s:St) (blk m:List (BitVec 8)):Prop where
  len:blk.length = 64
  wds:s = blocks (m.length / 64) st0 m
  blk:blk.take (m.length % 64) = m.drop (64 * (m.length / 64))
theorem Says.more {s:St} {blk m y:List (BitVec 8)} (h:Says s blk m) (hy:m.length % 64 + y.length < 64) :
    Says s (blk.take (m.length % 64) ++ y ++ blk.drop (m.length % 64 + y.length)) (m ++ y):=by
  have hl:=h.len
  have e1:(m ++ y).length / 64 = m.length / 64:=by simp;omega
  have e2:(m ++ y).length % 64 = m.length % 64 + y.length:=by simp;omega
  refine ⟨by simp [hl];omega,?_,?_⟩
  · rw [e1,blocks_append _ _ _ _ (by omega)];exact h.wds
  · rw [e1,e2,List.drop_append_of_le_length (by omega),← h.blk,List.take_append_of_le_length (by simp [hl];omega),List.take_of_length_le (by simp [hl];omega)]
theorem Says.full {s:St} {blk m y:List (BitVec 8)} (h:Says s blk m) (hy:m.length % 64 + y.length = 64) :
    Says (compress s (blk.take (m.length % 64) ++ y ++ blk.drop (m.length % 64 + y.length))) (blk.take (m.length % 64) ++ y ++ blk.drop (m.length % 64 + y.length)) (m ++ y):=by
  have hl:=h.len
  have e1:(m ++ y).length / 64 = m.length / 64 + 1:=by simp;omega
  have e2:(m ++ y).length % 64 = 0:=by simp;omega
  have e3:blk.drop (m.length % 64 + y.length) = []:=List.drop_of_length_le (by omega)
  have e4:(m ++ y).drop (64 * (m.length / 64)) = m.drop (64 * (m.length / 64)) ++ y:=List.drop_append_of_le_length (by omega)
  refine ⟨by simp [hl];omega,?_,?_⟩
  · rw [e1,blocks_last,blocks_append _ _ _ _ (by omega),← h.wds,e4,h.blk,e3,List.append_nil,List.take_of_length_le (by simp;omega)]
  · rw [e1,e2,List.take_zero,List.drop_of_length_le (by simp;omega)]

structure Only (g:Nat) (w w':World):Prop where
  os:w'.os = w.os
  tape:w'.tape = w.tape
  output:w'.output = w.output
  size:w.heap.size ≤ w'.heap.size
  block:∀ k,k ≠ g → k < w.heap.size → w'.heap[k]? = w.heap[k]?
theorem Only.refl (g:Nat) (w:World):Only g w w:=⟨rfl,rfl,rfl,Nat.le_refl _,fun _ _ _ => rfl⟩
theorem Only.trans {g:Nat} {a b c:World} (h:Only g a b) (k:Only g b c):Only g a c:=
  ⟨k.os.trans h.os,k.tape.trans h.tape,k.output.trans h.output,Nat.le_trans h.size k.size,fun i hi hl => (k.block i hi (Nat.lt_of_lt_of_le hl h.size)).trans (h.block i hi hl)⟩
theorem Only.drewN {g:Nat} {a b:World} (h:Only g a b) (n:Nat):Only g a (b.drewN n):=⟨h.os,h.tape,h.output,h.size,h.block⟩
theorem Only.drew {g:Nat} {a b:World} (h:Only g a b):Only g a b.drew:=⟨h.os,h.tape,h.output,h.size,h.block⟩
theorem Only.setCell {g:Nat} {a b:World} (h:Only g a b) (i:Nat) (v:Value):Only g a (b.setCell ⟨g,i,none⟩ v):=
  h.trans ⟨rfl,rfl,rfl,by simp [World.setCell],fun k hk _ => Below.heap_setCell _ _ _ _ hk⟩
theorem Only.setCells {g:Nat} {a:World}:∀ (vs:List Value) (o:Nat) (w:World),Only g a w → Only g a (w.setCells g o vs)
  | [],_,_,h => h
  | v :: r,o,w,h => by rw [World.setCells];exact Only.setCells r (o + 1) _ (h.setCell o v)
theorem Only.of_below {g:Nat} {w w':World} (h:Below w.heap.size w w'):Only g w w':=⟨h.os,h.tape,h.output,h.size,fun k _ hk => h.block k hk⟩
theorem Only.below {g:Nat} {w w':World} (h:Only g w w') {B:Nat} (hg:B ≤ g) (hB:B ≤ w.heap.size):Below B w w':=⟨h.os,h.tape,h.output,h.size,fun k hk => h.block k (by omega) (by omega)⟩
theorem Blk.only {w w':World} {g g':Nat} {cs:List Value} {t:TypeId} (h:Blk w g cs t) (ho:Only g' w w') (hne:g ≠ g'):Blk w' g cs t:=by
  have:=h.lt
  unfold Blk at *
  rw [ho.block g hne this];exact h
theorem Only.cell {g:Nat} {w w':World} (h:Only g w w') {p:Addr} (hp:p.block ≠ g) {v:Value} (hv:w.cell? p = some v):w'.cell? p = some v:=by
  rw [World.cell?_of_block (w:=w) (h.block p.block hp (block_lt_of_cell hv))];exact hv

def Bytes (w:World) (g:Nat) (v:Value) (bs:List (BitVec 8)):Prop:=
  ∃ ad cap,v = .slice ad bs.length cap ∧ bs.length ≤ cap ∧ (0 < bs.length → ∃ b off,ad = some ⟨b,off,none⟩ ∧ b ≠ g ∧ ∀ j,j < bs.length → w.cell? ⟨b,off + j,none⟩ = some (.int .u8 ((bs.getD j 0).toNat:Int)))
theorem Bytes.only {w w':World} {g:Nat} {v:Value} {bs:List (BitVec 8)} (h:Bytes w g v bs) (ho:Only g w w'):Bytes w' g v bs:=by
  obtain ⟨ad,cap,hv,hc,hx⟩:=h
  refine ⟨ad,cap,hv,hc,fun hp => ?_⟩
  obtain ⟨b,off,h1,h2,h3⟩:=hx hp
  exact ⟨b,off,h1,h2,fun j hj => ho.cell h2 (h3 j hj)⟩
theorem Bytes.below {w w':World} {g:Nat} {v:Value} {bs:List (BitVec 8)} (h:Bytes w g v bs) (hb:Below w.heap.size w w'):Bytes w' g v bs:=h.only (Only.of_below hb)
def HashIs (t:TypeId) (w:World) (g:Nat) (m:List (BitVec 8)):Prop:=∃ s blk,Blk w g (hc s blk m.length) t ∧ Says s blk m
theorem HashIs.below {t:TypeId} {w w':World} {g B:Nat} {m:List (BitVec 8)} (h:HashIs t w g m) (hb:Below B w w') (hg:g < B):HashIs t w' g m:=by
  obtain ⟨s,blk,h1,h2⟩:=h
  exact ⟨s,blk,h1.below hb hg,h2⟩
theorem HashIs.lt {t:TypeId} {w:World} {g:Nat} {m:List (BitVec 8)} (h:HashIs t w g m):g < w.heap.size:=by
  obtain ⟨s,blk,h1,h2⟩:=h
  exact h1.lt
theorem step_copy_cells {P:Program} {ops:Array Oper} {o:Oper} {a:Act} {w:World} {K:Act → World → Prop} {Q:Exit → Act → World → Prop} {E:Prop} (hgd:o.guard = none) (d s:Operand) (dT sT:TypeId)
    (ho:o.op = .call { callee:=.builtin .copy,args:=#[d,s],argTypes:=#[dT,sT] }) (elem:TypeId) (hu:P.underlying dT = some (.slice elem)) (hsz:(P.info? elem).map (·.size) = some 1)
    (b off dLen dCap:Nat) (ad:Addr) (sLen sCap:Nat) (hd:a.eval d = .slice (some ⟨b,off,none⟩) dLen dCap) (hs:a.eval s = .slice (some ad) sLen sCap) (cs:List Value) (hn:cs.length = Nat.min sLen dLen)
    (hsrc:∀ j v,cs[j]? = some v → w.cell? (ad.add j) = some v) (ht:w.there b off cs.length) (h1:∀ v ∈ cs,v.oneCell' = true)
    (h:K (a.put o.dst (goInt cs.length)) (w.setCells b off cs)):if Region.wanted o (yielded ops a.tmps) = true then Oper.wp P o a w K Q else E:=by
  have hw:Region.wanted o (yielded ops a.tmps) = true:=by simp [Region.wanted,hgd]
  rw [if_pos hw]
  have hrun:=run_copy_cells (P:=P) w dT sT o.type elem b off dLen dCap ad sLen sCap cs hu hsz hn hsrc (fun j hj => (ht j hj).1) (fun j hj => (ht j hj).2) h1
  unfold Oper.wp
  simp [execOp,ho,resolve,invoke,builtin,hd,hs,hrun,Result.andThen]
  exact h
theorem wpStill_load {P:Program} {ops:Array Oper} {w:World} {Q:Act → Prop} {o:Oper} {rest:List Oper} {a:Act} (hgd:o.guard = none) (ty:TypeId) (x:Operand) (ho:o.op = .load ty x)
    (b of:Nat) (hx:a.eval x = .pointer (some ⟨b,of,none⟩)) (cs:List Value) (d:TypeDesc) (hc:w.rangeAt b of cs)
    (hu:P.underlying ty = some d) (hd:d.isRow = true) (hi:(P.info? ty).map (·.size) = some cs.length)
    (h:wpStill P ops w Q rest (a.put o.dst (.agg cs.toArray))):wpStill P ops w Q (o :: rest) a:=by
  have hw:Region.wanted o (yielded ops a.tmps) = true:=by simp [Region.wanted,hgd]
  rw [wpStill,if_pos hw]
  unfold Oper.still execOp
  simp only [ho,hx,Instr.loadAt,Instr.sureAddr,Sem.run_bind,Sem.run_pure,Result.andThen_ok,run_loadVar_mid w b of ty cs d hc hu hd hi]
  exact ⟨rfl,h⟩
theorem hc_range_words {t:TypeId} {w:World} {g:Nat} {s:St} {blk:List (BitVec 8)} {n:Nat} (h:Blk w g (hc s blk n) t):w.rangeAt g 0 (cw s.l):=fun j v hv => by rw [h.cell,hc_words_at s blk n j v hv]
theorem hc_range_block {t:TypeId} {w:World} {g:Nat} {s:St} {blk:List (BitVec 8)} {n:Nat} (h:Blk w g (hc s blk n) t) (hl:blk.length = 64):w.rangeAt g 8 (cb blk):=fun j v hv => by rw [h.cell,hc_block_at s blk n hl j v hv]
theorem hc_there {t:TypeId} {w:World} {g:Nat} {s:St} {blk:List (BitVec 8)} {n:Nat} (h:Blk w g (hc s blk n) t) (hl:blk.length = 64):w.there g 0 8:=h.there 0 8 (by rw [len_hc s blk n hl];omega)
theorem hc_store {t:TypeId} {w:World} {g:Nat} {s:St} {blk:List (BitVec 8)} {n:Nat} (h:Blk w g (hc s blk n) t) (hl:blk.length = 64) (r:St):Blk (w.setCells g 0 (cw r.l)) g (hc r blk n) t:=by
  have:=setCells_eq g (cw r.l) 0 w _ t h (by rw [len_hc s blk n hl,len_l];omega)
  rwa [hc_words] at this
theorem Bytes.drop_eq {w:World} {g b off n cap c:Nat} {rest:List (BitVec 8)} (h:Bytes w g (.slice (some ⟨b,off,none⟩) n cap) rest) (hc:c ≤ n) (hcc:cap = c):Bytes w g (.slice (some ⟨b,off,none⟩) (n - c) 0) (rest.drop c):=by
  obtain ⟨ad,cap',hv,hcap,hx⟩:=h
  simp only [Value.slice.injEq] at hv
  obtain ⟨rfl,hn,rfl⟩:=hv
  exact ⟨some ⟨b,off,none⟩,0,by simp [hn],by simp;omega,fun hp => by simp at hp;omega⟩
theorem Bytes.drop_ne {w:World} {g b off n cap c:Nat} {rest:List (BitVec 8)} (h:Bytes w g (.slice (some ⟨b,off,none⟩) n cap) rest) (hc:c ≤ n):Bytes w g (.slice (some ⟨b,off + c,none⟩) (n - c) (cap - c)) (rest.drop c):=by
  obtain ⟨ad,cap',hv,hcap,hx⟩:=h
  simp only [Value.slice.injEq] at hv
  obtain ⟨rfl,hn,rfl⟩:=hv
  refine ⟨some ⟨b,off + c,none⟩,cap - c,by simp [hn],by simp;omega,fun hp => ?_⟩
  simp at hp
  obtain ⟨b',off',h1,h2,h3⟩:=hx (by omega)
  simp only [Option.some.injEq,Addr.mk.injEq,and_true] at h1
  obtain ⟨rfl,rfl⟩:=h1
  refine ⟨b,off + c,rfl,h2,fun j hj => ?_⟩
  simp at hj
  have:=h3 (c + j) (by omega)
  rw [show off + c + j = off + (c + j) by omega,this]
  simp
theorem Bytes.drop_if {w:World} {g b off n cap c:Nat} {rest:List (BitVec 8)} (h:Bytes w g (.slice (some ⟨b,off,none⟩) n cap) rest) (hc:c ≤ n) :
    Bytes w g (.slice (if cap = c then some ⟨b,off,none⟩ else some ⟨b,off + c,none⟩) (n - c) (cap - c)) (rest.drop c):=by
  by_cases hcc:cap = c
  · rw [if_pos hcc];have:=h.drop_eq hc hcc;rwa [show cap - c = 0 by omega]
  · rw [if_neg hcc];exact h.drop_ne hc
end Go.Proofs.YtphmmnffgknkcaaGreatDoor
namespace Go.Proofs.YtphmmnffgknkcaaGreatDoor
open Go
set_option maxRecDepth 100000
section
variable {P:Program} {md:Region.Mode} {C:World → Prop}
def idle (o:Oper):Oper:={ dst:=none,op:=.move (.const undef),type:=o.type,pos:=o.pos,after:=o.after,guard:=none }
theorem ready_idle (l:List Oper) (o:Oper) (listed:Array Bool):Region.ready md (l ++ [idle o]).toArray listed = Region.ready md (l ++ [o]).toArray listed:=by
  unfold Region.ready
  have hs:(l ++ [idle o]).toArray.size = (l ++ [o]).toArray.size:=by simp
  rw [hs]
  apply List.filter_congr
  intro i _
  congr 1
  simp only [List.getElem?_toArray]
  rcases Nat.lt_trichotomy i l.length with h | h | h
  · rw [List.getElem?_append_left h,List.getElem?_append_left h]
  · subst h;simp [idle]
  · rw [List.getElem?_eq_none (by simp;omega),List.getElem?_eq_none (by simp;omega)]
def lastB (md:Region.Mode) (l:List Oper) (o:Oper):Bool:=
  (List.range (l.length + 1)).all (fun i => (((l ++ [o])[i]?).map fun x => x.after.all fun e => !Region.binds md e || decide (e.on < i)).getD true) &&
  (l ++ [o]).all (fun x => x.guard.isNone) &&
  (List.range l.length).all (fun i => (List.range (l.length + 1)).any fun j => decide (i < j) && (((l ++ [o])[j]?).map fun x => x.after.any fun e => Region.binds md e && e.on == i).getD false)
theorem getD_set {listed:Array Bool} {i j:Nat} (d:Bool) (h:j ≠ i):(listed.setIfInBounds i true).getD j d = listed.getD j d:=by
  simp [h.symm]
theorem ready_nonempty {ops:Array Oper} (hb:∀ i o,ops[i]? = some o → ∀ e ∈ o.after,Region.binds md e = true → e.on < i) (listed:Array Bool) (hsz:listed.size = ops.size) :
    ∀ n,n < ops.size → listed.getD n true = false → Region.ready md ops listed ≠ []:=by
  intro n
  induction n using Nat.strongRecOn with
  | _ n ih =>
    intro hn hu h0
    by_cases hr:n ∈ Region.ready md ops listed
    · rw [h0] at hr;cases hr
    · apply hr
      refine mem_ready.2 ⟨hu,ops[n],by simp [hn],fun e he hbd => ?_⟩
      have hlt:=hb n ops[n] (by simp [hn]) e he hbd
      cases hl:listed.getD e.on false with
      | true => rfl
      | false =>
        exact absurd h0 (ih e.on hlt (by omega) (by have:e.on < listed.size:=by omega
                                                    simp [this] at hl ⊢;exact hl))
theorem all_listed {l:List Oper} {o:Oper} {listed:Array Bool} (hw:∀ i,i < l.length → ∃ j x,i < j ∧ j ≤ l.length ∧ (l ++ [o]).toArray[j]? = some x ∧ ∃ e ∈ x.after,Region.binds md e = true ∧ e.on = i)
    (hcl:∀ j x,(l ++ [o]).toArray[j]? = some x → listed.getD j false = true → ∀ e ∈ x.after,Region.binds md e = true → listed.getD e.on false = true)
    (ho:(l ++ [o]).toArray[l.length]? = some o) (hall:∀ e ∈ o.after,Region.binds md e = true → listed.getD e.on false = true) :
    ∀ d i,l.length - i = d → i < l.length → listed.getD i false = true:=by
  intro d
  induction d using Nat.strongRecOn with
  | _ d ih =>
    intro i hd hi
    obtain ⟨j,x,hij,hjl,hx,e,he,hbd,hon⟩:=hw i hi
    by_cases hjN:j = l.length
    · subst hjN
      have hxo:x = o:=Option.some.inj (hx.symm.trans ho)
      subst hxo
      rw [← hon];exact hall e he hbd
    · have hj:=ih (l.length - j) (by omega) j rfl (by omega)
      rw [← hon];exact hcl j x hx hj e he hbd
theorem wpAny_of_last {l:List Oper} {o:Oper} {Q':Exit → Act → World → Prop}
    (hb:∀ i x,(l ++ [o]).toArray[i]? = some x → ∀ e ∈ x.after,Region.binds md e = true → e.on < i) (hg:∀ x ∈ l ++ [o],x.guard = none) (hw:∀ i,i < l.length → ∃ j x,i < j ∧ j ≤ l.length ∧ (l ++ [o]).toArray[j]? = some x ∧ ∃ e ∈ x.after,Region.binds md e = true ∧ e.on = i) :
    ∀ (fuel:Nat) (listed:Array Bool) (a:Act) (w:World) (S:List Nat),C w → S.Nodup → S.length = fuel → (∀ i,i ∈ S ↔ (i < (l ++ [o]).length ∧ listed.getD i true = false)) → l.length ∈ S → listed.size = (l ++ [o]).length → (∀ j x,(l ++ [o]).toArray[j]? = some x → listed.getD j false = true → ∀ e ∈ x.after,Region.binds md e = true → listed.getD e.on false = true) →
    wpAnyQ P md (l ++ [idle o]).toArray C (fun a' => ∀ w',C w' → o.wp P a' w' (fun a'' w'' => Q' .normal a'' w'') Q') fuel listed a → wpAny P md (l ++ [o]).toArray Q' fuel listed a w:=by
  intro fuel
  induction fuel with
  | zero => intro listed a w S _ _ hl _ hN _ _ _;rw [List.length_eq_zero_iff.1 hl] at hN;cases hN
  | succ fuel ih =>
    intro listed a w S hC hnd hlen hS hN hsz hcl hq
    obtain ⟨_,hq2⟩:=hq
    rw [ready_idle] at hq2
    have hNu:=((hS l.length).1 hN).2
    refine ⟨fun h0 => absurd h0 (ready_nonempty hb listed (by simpa using hsz) l.length (by simp) hNu),fun i hi => ?_⟩
    have hqi:=hq2 i hi
    obtain ⟨hiu,oi,hoi,hall⟩:=mem_ready.1 hi
    have hil:i < (l ++ [o]).length:=by simpa using (Array.getElem?_eq_some_iff.1 hoi).1
    by_cases hiN:i = l.length
    · subst hiN
      have hoo:oi = o:=by simpa using hoi.symm
      subst hoo
      unfold wpOp
      rw [hoi]
      have hwant:Region.wanted oi (yielded (l ++ [oi]).toArray a.tmps) = true:=by simp [Region.wanted,hg oi (by simp)]
      simp only [hwant,if_true]
      refine .inl ?_
      have h1:(l ++ [idle oi]).toArray[l.length]? = some (idle oi):=by simp
      unfold qOp at hqi
      rw [h1] at hqi
      have hw2:Region.wanted (idle oi) (yielded (l ++ [idle oi]).toArray a.tmps) = true:=by simp [Region.wanted,idle]
      simp only [hw2,if_true] at hqi
      obtain ⟨v,_,hk⟩:=hqi
      have hput:a.put (idle oi).dst v = a:=rfl
      rw [hput] at hk
      have hnone:Region.ready md (l ++ [oi]).toArray (listed.setIfInBounds l.length true) = []:=by
        cases hr:Region.ready md (l ++ [oi]).toArray (listed.setIfInBounds l.length true) with
        | nil => rfl
        | cons j r =>
          exfalso
          have hj:j ∈ Region.ready md (l ++ [oi]).toArray (listed.setIfInBounds l.length true):=by rw [hr];simp
          obtain ⟨hju,oj,hoj,_⟩:=mem_ready.1 hj
          have hjl:j < (l ++ [oi]).length:=by simpa using (Array.getElem?_eq_some_iff.1 hoj).1
          by_cases hjN:j = l.length
          · subst hjN
            have:l.length < listed.size:=by rw [hsz];simp
            simp [this] at hju
          · rw [getD_set true hjN] at hju
            have:=all_listed hw hcl hoi hall (l.length - j) j rfl (by simp at hjl;omega)
            have hjs:j < listed.size:=by omega
            simp [hjs] at hju this
            rw [hju] at this;cases this
      have hQ:∀ w',C w' → oi.wp P a w' (fun a'' w'' => Q' .normal a'' w'') Q':=by
        cases fuel with
        | zero => exact hk.2
        | succ f => exact hk.1 (by rw [ready_idle];exact hnone)
      refine Oper.wp_mono (fun a' w' hn => ?_) (hQ w hC)
      cases fuel with
      | zero => exact ⟨hnone,hn⟩
      | succ f => exact ⟨fun _ => hn,fun j hj => by rw [hnone] at hj;cases hj⟩
    · have hin:i < l.length:=by simp at hil;omega
      have e1:(l ++ [idle o]).toArray[i]? = (l ++ [o]).toArray[i]?:=by simp [List.getElem?_append_left hin]
      have hgi:oi.guard = none:=hg oi (by have:=List.mem_of_getElem? (by simpa using hoi:(l ++ [o])[i]? = some oi);exact this)
      unfold qOp at hqi
      rw [e1,hoi] at hqi
      unfold wpOp
      rw [hoi]
      have w1:Region.wanted oi (yielded (l ++ [idle o]).toArray a.tmps) = true:=by simp [Region.wanted,hgi]
      have w2:Region.wanted oi (yielded (l ++ [o]).toArray a.tmps) = true:=by simp [Region.wanted,hgi]
      simp only [w1,if_true] at hqi
      simp only [w2,if_true]
      refine .inl (Oper.wp_of_quiet hC (fun a' w' hw' hk => ?_) hqi)
      have hiS:i ∈ S:=(hS i).2 ⟨hil,hiu⟩
      refine ih (listed.setIfInBounds i true) a' w' (S.erase i) hw' (hnd.erase _) (by rw [List.length_erase_of_mem hiS];omega) (fun j => ?_) ((List.mem_erase_of_ne (Ne.symm hiN)).2 hN) (by simpa using hsz) (fun j x hx hlj e he hbd => ?_) hk
      rotate_left
      · by_cases hji:i = j
        · subst hji
          have hxo:x = oi:=Option.some.inj (hx.symm.trans hoi)
          subst hxo
          exact getD_set_true (hall e he hbd)
        · rw [getD_set_ne false hji] at hlj
          exact getD_set_true (hcl j x hx hlj e he hbd)
      by_cases hji:j = i
      · subst hji
        have hjs:j < listed.size:=by omega
        simp [hnd.not_mem_erase,hjs]
      · rw [List.mem_erase_of_ne hji,hS j,getD_set true hji]
theorem wp_region_last {id:Nat} {Q:Exit → Act → World → Prop} {a:Act} {w:World} (l:List Oper) (o:Oper) (hm:P.follows .mixedOrders = true) (hB:Region.lexB .any (l ++ [idle o]).toArray = true) (hL:lastB .any l o = true)
    (hC:C { w with drawn:=w.drawn + 1 }) (h:wpQuiet P (l ++ [idle o]).toArray C (fun a' => ∀ w',C w' → o.wp P a' w' (fun a'' w'' => Q .normal a'' w'') Q) l a):(Code.region id (l ++ [o]).toArray true).wp P Q a w:=by
  simp only [Region.lexB,Bool.and_eq_true] at hB
  simp only [lastB,Bool.and_eq_true] at hL
  obtain ⟨⟨hb,hg⟩,hw⟩:=hL
  have hq:∀ (k:List Oper) (a:Act),wpQuiet P (l ++ [idle o]).toArray C (fun a' => ∀ w',C w' → o.wp P a' w' (fun a'' w'' => Q .normal a'' w'') Q) k a → wpQuiet P (l ++ [idle o]).toArray C (fun a' => ∀ w',C w' → o.wp P a' w' (fun a'' w'' => Q .normal a'' w'') Q) (k ++ [idle o]) a:=by
    intro k
    induction k with
    | nil =>
      intro a h
      have hw2:Region.wanted (idle o) (yielded (l ++ [idle o]).toArray a.tmps) = true:=by simp [Region.wanted,idle]
      simp only [List.nil_append,wpQuiet,hw2,if_true]
      exact ⟨undef,fun w' _ => by unfold Oper.quietAt idle execOp;exact ⟨rfl,rfl⟩,h⟩
    | cons x k ih =>
      intro a h
      simp only [List.cons_append,wpQuiet] at h ⊢
      split
      · rename_i hx;simp only [hx,if_true] at h;exact Oper.quiet_mono (fun a' h' => ih a' h') h
      · rename_i hx;simp only [hx] at h;exact ih _ h
  have:=wpAnyQ_lex (C:=C) (md:=.any) hB.1 (l ++ [idle o]) 0 (Array.replicate (l ++ [idle o]).toArray.size false) a (by simp) (by simpa using hB.2) (hq l a h)
  refine wp_region_any hm ?_
  have hsz:(l ++ [o]).toArray.size = (l ++ [idle o]).length:=by simp
  rw [hsz]
  refine wpAny_of_last ?_ ?_ ?_ _ _ _ _ (List.range (l ++ [o]).length) hC List.nodup_range (by simp) (fun i => ?_) (by simp) (by simp) (fun j x _ hlj => ?_) (by simpa using this)
  · intro i x hx e he hbd
    have hi:i < l.length + 1:=by simpa using (Array.getElem?_eq_some_iff.1 hx).1
    have h1:=List.all_eq_true.1 hb i (List.mem_range.2 hi)
    rw [show (l ++ [o])[i]? = some x by simpa using hx] at h1
    simp only [Option.map_some,Option.getD_some] at h1
    have h2:=Array.all_eq_true_iff_forall_mem.1 h1 e he
    simpa [hbd] using h2
  · intro x hx
    have:=List.all_eq_true.1 hg x hx
    simpa using this
  · intro i hi
    have h1:=List.all_eq_true.1 hw i (List.mem_range.2 hi)
    obtain ⟨j,hj,h2⟩:=List.any_eq_true.1 h1
    simp only [Bool.and_eq_true,decide_eq_true_eq] at h2
    have hjl:=List.mem_range.1 hj
    cases hx:(l ++ [o])[j]? with
    | none => rw [hx] at h2;simp at h2
    | some x =>
      rw [hx] at h2
      simp only [Option.map_some,Option.getD_some] at h2
      obtain ⟨e,he,h3⟩:=Array.any_eq_true'.1 h2.2
      simp only [Bool.and_eq_true,beq_iff_eq] at h3
      exact ⟨j,x,h2.1,by omega,by simpa using hx,e,he,h3.1,h3.2⟩
  · simp only [List.mem_range]
    constructor
    · intro hi;exact ⟨hi,by simp at hi;simp [hi]⟩
    · intro hi;exact hi.1
  · exfalso
    generalize (l ++ [idle o]).length = N at hlj
    rcases Nat.lt_or_ge j N with h | h
    · simp [h] at hlj
    · simp [h] at hlj
theorem wp_region_last_lit {id:Nat} {Q:Exit → Act → World → Prop} {a:Act} {w:World} {L:List Oper} (hne:L ≠ []) (hm:P.follows .mixedOrders = true) (hB:Region.lexB .any (L.dropLast ++ [idle (L.getLast hne)]).toArray = true) (hL:lastB .any L.dropLast (L.getLast hne) = true)
    (hC:C { w with drawn:=w.drawn + 1 }) (h:wpQuiet P (L.dropLast ++ [idle (L.getLast hne)]).toArray C (fun a' => ∀ w',C w' → (L.getLast hne).wp P a' w' (fun a'' w'' => Q .normal a'' w'') Q) L.dropLast a):(Code.region id L.toArray true).wp P Q a w:=by
  have:=wp_region_last (P:=P) (id:=id) (Q:=Q) L.dropLast (L.getLast hne) hm hB hL hC h
  rwa [List.dropLast_concat_getLast] at this
theorem wpQuiet_val {ops:Array Oper} {Q:Act → Prop} {o:Oper} {rest:List Oper} {a:Act} (hgd:o.guard = none) (v:Value) (hr:∀ w,C w → (execOp a.eval o).run P w = .ok (.value v) w)
    (h:wpQuiet P ops C Q rest (a.put o.dst v)):wpQuiet P ops C Q (o :: rest) a:=by
  have hw:Region.wanted o (yielded ops a.tmps) = true:=by simp [Region.wanted,hgd]
  rw [wpQuiet,if_pos hw]
  refine ⟨v,fun w hC => ?_,h⟩
  unfold Oper.quietAt
  rw [hr w hC]
  exact ⟨rfl,rfl⟩
theorem wpQuiet_load {ops:Array Oper} {Q:Act → Prop} {o:Oper} {rest:List Oper} {a:Act} (hgd:o.guard = none) (ty:TypeId) (x:Operand) (ho:o.op = .load ty x)
    (b of:Nat) (hx:a.eval x = .pointer (some ⟨b,of,none⟩)) (cs:List Value) (d:TypeDesc) (hc:∀ w,C w → w.rangeAt b of cs)
    (hu:P.underlying ty = some d) (hd:d.isRow = true) (hi:(P.info? ty).map (·.size) = some cs.length)
    (h:wpQuiet P ops C Q rest (a.put o.dst (.agg cs.toArray))):wpQuiet P ops C Q (o :: rest) a:=by
  have hw:Region.wanted o (yielded ops a.tmps) = true:=by simp [Region.wanted,hgd]
  rw [wpQuiet,if_pos hw]
  refine ⟨.agg cs.toArray,fun w hC => ?_,h⟩
  unfold Oper.quietAt execOp
  simp only [ho,hx,Instr.loadAt,Instr.sureAddr,Sem.run_bind,Sem.run_pure,Result.andThen_ok,run_loadVar_mid w b of ty cs d (hc w hC) hu hd hi]
  exact ⟨rfl,rfl⟩
theorem wpQuiet_call {ops:Array Oper} {Q:Act → Prop} {o:Oper} {rest:List Oper} {a:Act} (hgd:o.guard = none) (f:FuncId) (args:Array Operand) (ats:Array TypeId) (ho:o.op = .call { callee:=.value (.func f),args:=args,argTypes:=ats })
    (hcf:∀ xs w,(callFunc f xs).run P w = .ok (.enter f xs) w) (vals:Array Value) (hv:args.map a.eval = vals) (v:Value) (hc:∀ w,C w → Calls P f vals w fun e w' => e = .returned v ∧ C w')
    (h:wpQuiet P ops C Q rest (a.put o.dst v)):wpQuiet P ops C Q (o :: rest) a:=by
  have hw:Region.wanted o (yielded ops a.tmps) = true:=by simp [Region.wanted,hgd]
  rw [wpQuiet,if_pos hw]
  refine ⟨v,fun w hC => ?_,h⟩
  have hrun:(execOp a.eval o).run P w = .ok (.enter f vals) w:=by
    obtain ⟨dst,op,type,pos,after,guard⟩:=o
    simp only at ho
    subst ho
    rw [execOp_call_go,hv]
    simp [hcf]
  unfold Oper.quietAt
  rw [hrun]
  exact ⟨rfl,hc w hC⟩
end
end Go.Proofs.YtphmmnffgknkcaaGreatDoor
namespace Go.Proofs.YtphmmnffgknkcaaGreatDoor
open Go.RowKit
set_option maxRecDepth 100000
theorem Tryz.info5:(Tryz.prog.info? 5).map (·.size) = some 1:=by kernel_rfl
theorem slice_arr (g L:Nat) (w:World):(Instr.sliceAt 130 (.pointer (some ⟨g,8,none⟩)) (some (.int .u64 ((L:Int).tmod 64))) none none).run Tryz.prog w = .ok (.slice (some ⟨g,8 + L % 64,none⟩) (64 - L % 64) (64 - L % 64)) w:=by
  have e:(L:Int).tmod 64 = ((L % 64:Nat):Int):=by rw [Int.tmod_eq_emod_of_nonneg (by omega)];omega
  rw [e]
  have h1:L % 64 < 64:=Nat.mod_lt _ (by omega)
  generalize L % 64 = r at *
  simp [go_sem,Instr.sliceAt,Instr.slice,Instr.sliceBounds]
  rw [if_pos (by omega),if_neg (by omega)]
def sliceLen:Value → Nat
  | .slice _ n _ => n
  | _ => 0
structure WrInv (g:Nat) (w:World) (m bs:List (BitVec 8)) (k:Nat) (v:Value) (wr:World):Prop where
  le:k ≤ bs.length
  byt:Bytes wr g v (bs.drop k)
  hsh:HashIs 132 wr g (m ++ bs.take k)
  onl:Only g w wr
  kok:KOk wr
theorem mix_enter:∀ xs w,(callFunc 83 xs).run Tryz.prog w = .ok (.enter 83 xs) w:=fun _ _ => by kernel_rfl
structure WC (g:Nat) (w w3:World) (s:St) (blk:List (BitVec 8)) (n:Nat) (w':World):Prop where
  blk:Blk w' g (hc s blk n) 132
  onl:Only g w w'
  kok:KOk w'
  onl2:Only g w3 w'
theorem KOk.only {g:Nat} {w w':World} (h:KOk w) (ho:Only g w w') (hg:1 ≠ g):KOk w':=fun j hj => ho.cell hg (h j hj)
set_option maxRecDepth 100000 in
set_option maxHeartbeats 1000000 in
theorem write_any (g:Nat) (m bs:List (BitVec 8)) (v:Value) (w:World) (hg:1 ≠ g) (hK:KOk w) (hH:HashIs 132 w g m) (hB:Bytes w g v bs) (hl:m.length + bs.length < 4611686018427387904) :
    Calls Tryz.prog 55 #[.pointer (some ⟨g,0,none⟩),v] w fun e w' => e = .returned (.tuple #[]) ∧ HashIs 132 w' g (m ++ bs) ∧ Only g w w':=by
  have hI:WrInv g w m bs 0 v w:=⟨Nat.zero_le _,by simpa using hB,by simpa using hH,Only.refl _ _,hK⟩
  clear hK hH hB
  go_enter Tryz.func55,Tryz.ntmps55
  go_wp2
  go_loopw [1] (fun v wr => ∃ k,WrInv g w m bs k v wr) (fun v _ => sliceLen v)
  case atStart => exact ⟨0,hI⟩
  case round =>
    clear hI
    obtain ⟨k,hI⟩:=hrel
    have hle:=hI.le
    by_cases hlt:k < bs.length
    · obtain ⟨ad,cap,hv,hcap,hpos⟩:=hI.byt
      obtain ⟨b,off,rfl,hbg,hsrc⟩:=hpos (by simp;omega)
      subst hv
      obtain ⟨s,blk,hblk,hsay⟩:=hI.hsh
      have HL:Hid ((m ++ bs.take k).length < 4611686018427387904):=by show _ < _;simp;omega
      have HN:Hid ((bs.drop k).length = bs.length - k):=by show _ = _;simp
      have hn0:0 < (bs.drop k).length:=by have:=HN.out;omega
      have HM:Hid (m ++ bs = m ++ bs.take k ++ bs.drop k):=by show _ = _;simp
      have hL:=HL.out
      obtain ⟨rest,HRest⟩:∃ x,Hid (x = bs.drop k):=⟨_,rfl⟩
      obtain ⟨cur,HCur⟩:∃ x,Hid (x = m ++ bs.take k):=⟨_,rfl⟩
      rw [← HRest.out] at hcap hsrc hn0
      rw [← HCur.out] at hblk hsay hL
      simp only [← HRest.out]
      obtain ⟨L,HLL⟩:∃ x,Hid (x = cur.length):=⟨_,rfl⟩
      obtain ⟨n,HNN⟩:∃ x,Hid (x = rest.length):=⟨_,rfl⟩
      rw [← HNN.out] at hcap hsrc hn0
      rw [← HLL.out] at hblk hL
      simp only [← HNN.out]
      have hs64:=hsay.len
      have cn:wr.cell? ⟨g,72,none⟩ = some (.int .u64 (L:Int)):=by rw [hblk.cell,hc_len s blk L hs64]
      have hcapn:n < 4611686018427387904:=by have:=HN.out;rw [← HRest.out,← HNN.out] at this;omega
      obtain ⟨cs,HCS⟩:∃ x,Hid (x = cb (rest.take (min n (64 - L % 64)))):=⟨_,rfl⟩
      have HCL:Hid (cs.length = min n (64 - L % 64)):=by show _ = _;rw [HCS.out,cb_len,List.length_take,← HNN.out];omega
      have HT:Hid (wr.there g (8 + L % 64) cs.length):=hblk.there _ _ (by rw [len_hc s blk L hs64,HCL.out];omega)
      have HS:Hid (∀ j v,cs[j]? = some v → wr.cell? ((⟨b,off,none⟩:Addr).add j) = some v):=by
        intro j v hj
        have hj2:j < min n (64 - L % 64):=by rw [← HCL.out];exact (List.getElem?_eq_some_iff.1 hj).1
        rw [Addr.add_mid,hsrc j (by omega)]
        rw [HCS.out,cb_get _ j (by rw [List.length_take,← HNN.out];omega)] at hj
        rw [← hj]
        simp [hj2]
      have H1:Hid (∀ v ∈ cs,v.oneCell' = true):=by show ∀ _,_;rw [HCS.out];exact cb_one _
      have HJ:Hid (Blk (wr.drew.setCells g (8 + L % 64) cs) g (hc s (blk.take (L % 64) ++ rest.take (min n (64 - L % 64)) ++ blk.drop (L % 64 + (rest.take (min n (64 - L % 64))).length)) L) 132):=by
        have h:=setCells_eq g cs (8 + L % 64) wr.drew _ _ hblk.drew (by rw [len_hc s blk L hs64,HCL.out];omega)
        rw [HCS.out] at h ⊢
        rw [hc_block s blk _ L _ hs64 (by rw [List.length_take,← HNN.out];omega)] at h
        exact h
      have HO:Hid (Only g w (wr.drew.setCells g (8 + L % 64) cs)):=Only.setCells _ _ _ hI.onl.drew
      have HP:Hid (KOk (wr.drew.setCells g (8 + L % 64) cs)):=fun j hj => by rw [World.cell?_setCells_out _ _ _ _ _ (fun h => absurd h hg)];exact hI.kok j hj
      have HY:Hid (Bytes (wr.drew.setCells g (8 + L % 64) cs) g (.slice (some ⟨b,off,none⟩) n cap) rest):=⟨_,cap,by rw [← HNN.out],by rw [← HNN.out];exact hcap,fun _ => ⟨b,off,rfl,hbg,fun j hj => by rw [World.cell?_setCells_out _ _ _ _ _ (fun h => absurd h hbg)];exact hsrc j (by rw [HNN.out];exact hj)⟩⟩
      have HSay:Hid (Says s blk cur):=hsay
      clear hle hlt hs64 hsrc hblk hsay hI
      have hsl:=fun wx => slice_arr g L wx
      go_wp2
      go_region_law (refine step_copy_cells rfl _ _ 48 48 rfl 5 Tryz.underlying48 Tryz.info5 g (8 + L % 64) (64 - L % 64) (64 - L % 64) ⟨b,off,none⟩ n cap rfl rfl cs HCL.out ?_ ?_ H1.out ?_;(intro j v hj;simpa using HS.out j v hj);(simpa using HT.out))
      clear HS HT H1 HCS cn hsl
      obtain ⟨blk2,HB2⟩:∃ x,Hid (x = blk.take (L % 64) ++ rest.take (min n (64 - L % 64)) ++ blk.drop (L % 64 + (rest.take (min n (64 - L % 64))).length)):=⟨_,rfl⟩
      rw [← HB2.out] at HJ
      generalize World.setCells _ _ _ _ = w2 at *
      generalize cs.length = c at *
      as_aux_lemma =>
        have hc0:0 < c:=by have:=HCL.out;omega
        have hcn:c ≤ n:=by have:=HCL.out;omega
        have hc64:L % 64 + c ≤ 64:=by have:=HCL.out;omega
        have HW2:Hid ((rest.take (min n (64 - L % 64))).length = c):=by show _ = _;rw [List.length_take,← HNN.out];have:=HCL.out;omega
        have hb64:Hid (blk2.length = 64):=by show _ = _;rw [HB2.out];have:=HSay.out.len;have h2:=HW2.out;simp [this] at h2 ⊢;omega
        have cn:w2.cell? ⟨g,72,none⟩ = some (.int .u64 (L:Int)):=by rw [HJ.out.cell,hc_len s blk2 L hb64.out]
        have fn:w2.frozen? ⟨g,72,none⟩ = false:=HJ.out.frozen 72
        have HE:Hid (∀ w4 v4,HashIs 132 w4 g (cur ++ rest.take c) → Bytes w4 g v4 (rest.drop c) → Only g w w4 → KOk w4 → WrInv g w m bs (k + c) v4 w4):=by
          intro w4 v4 h1 h2 h3 h4
          have e1:k + c ≤ bs.length:=by have:=HN.out;rw [← HRest.out,← HNN.out] at this;omega
          refine ⟨e1,?_,?_,h3,h4⟩
          · rw [HRest.out,List.drop_drop] at h2;exact h2
          · rw [HRest.out,HCur.out,List.append_assoc] at h1
            have e2:bs.take k ++ (bs.drop k).take c = bs.take (k + c):=by rw [List.take_add]
            rw [e2] at h1;exact h1
        have HF:Hid (rest.take (min n (64 - L % 64)) = rest.take c):=by show _ = _;rw [HCL.out]
        clear HRest HCur HN HL HM hpos hl
        by_cases hfull:L % 64 + c = 64
        · have ht:((((L:Int) + (c:Int)).tmod 64) == 0) = true:=by
            rw [Int.tmod_eq_emod_of_nonneg (by omega),beq_iff_eq];omega
          have H3:Hid (Blk (w2.setCell ⟨g,72,none⟩ (.int .u64 ((L:Int) + (c:Int)))) g (hc s blk2 (L + c)) 132):=by
            have h1:=HJ.out.set 72 (.int .u64 (((L + c:Nat):Int)))
            rw [hc_setn s blk2 L (L + c) hb64.out] at h1
            exact h1
          have HO3:Hid (Only g w (w2.setCell ⟨g,72,none⟩ (.int .u64 ((L:Int) + (c:Int))))):=HO.out.setCell _ _
          have HP3:Hid (KOk (w2.setCell ⟨g,72,none⟩ (.int .u64 ((L:Int) + (c:Int))))):=HP.out.only ((Only.refl _ _).setCell _ _) hg
          have HY3:Hid (Bytes (w2.setCell ⟨g,72,none⟩ (.int .u64 ((L:Int) + (c:Int)))) g (.slice (some ⟨b,off,none⟩) n cap) rest):=HY.out.only ((Only.refl _ _).setCell _ _)
          have HG:Hid (Says (compress s blk2) blk2 (cur ++ rest.take c)):=by
            have h2:=HSay.out.full (y:=rest.take c) (by rw [← HLL.out,← HF.out,HW2.out];omega)
            rw [← HLL.out,← HF.out,← HB2.out,HF.out] at h2
            exact h2
          have HX:Hid ((cur ++ rest.take c).length = L + c):=by show _ = _;rw [List.length_append,← HLL.out,← HF.out,HW2.out]
          by_cases hcc:cap = c
          all_goals
            go_wp2
            clear cn fn HJ HO HP HY
            generalize World.setCell _ _ _ = w3 at *
            as_aux_lemma =>
              have HYO:Hid (∀ w5,Only g w3 w5 → Bytes w5 g (.slice (some ⟨b,off,none⟩) n cap) rest):=fun w5 h => HY3.out.only h
              have HZ:Hid ((Tryz.prog.info? 130).map (·.size) = some (cb blk2).length):=by rw [cb_len,hb64.out];exact Tryz.info130
              refine wp_region_last_lit (C:=WC g w w3 s blk2 (L + c)) (by simp) (by kernel_rfl) (by kernel_rfl) (by kernel_rfl) ⟨H3.out.drew,HO3.out.drew,HP3.out,(Only.refl _ _).drew⟩ ?_
              simp only [List.dropLast_cons_cons,List.dropLast_singleton,List.getLast_cons_cons,List.getLast_singleton,List.cons_append,List.nil_append,idle]
              refine wpQuiet_val rfl (.pointer (some ⟨g,0,none⟩)) (fun _ _ => by simp [go_sem]) ?_
              simp only [Act.put,List.setIfInBounds_toArray,List.set_cons_zero,List.set_cons_succ]
              refine wpQuiet_val rfl (.pointer (some ⟨g,0,none⟩)) (fun _ _ => by simp [go_sem]) ?_
              simp only [Act.put,List.setIfInBounds_toArray,List.set_cons_zero,List.set_cons_succ]
              refine wpQuiet_val rfl (.pointer (some ⟨g,0,none⟩)) (fun _ _ => by simp [go_sem]) ?_
              simp only [Act.put,List.setIfInBounds_toArray,List.set_cons_zero,List.set_cons_succ]
              refine wpQuiet_val rfl (.pointer (some ⟨g,0,none⟩)) (fun _ _ => by simp [go_sem]) ?_
              simp only [Act.put,List.setIfInBounds_toArray,List.set_cons_zero,List.set_cons_succ]
              refine wpQuiet_load rfl 92 _ rfl g 0 rfl (cw s.l) _ (fun _ hx => hc_range_words hx.blk) Tryz.underlying92 rfl Tryz.info92 ?_
              simp only [Act.put,List.setIfInBounds_toArray,List.set_cons_zero,List.set_cons_succ]
              refine wpQuiet_val rfl (.pointer (some ⟨g,0,none⟩)) (fun _ _ => by simp [go_sem]) ?_
              simp only [Act.put,List.setIfInBounds_toArray,List.set_cons_zero,List.set_cons_succ]
              refine wpQuiet_val rfl (.pointer (some ⟨g,0,none⟩)) (fun _ _ => by simp [go_sem]) ?_
              simp only [Act.put,List.setIfInBounds_toArray,List.set_cons_zero,List.set_cons_succ]
              refine wpQuiet_val rfl (.pointer (some ⟨g,8,none⟩)) (fun _ _ => by simp [go_sem]) ?_
              simp only [Act.put,List.setIfInBounds_toArray,List.set_cons_zero,List.set_cons_succ]
              refine wpQuiet_load rfl 130 _ rfl g 8 rfl (cb blk2) _ (fun _ hx => hc_range_block hx.blk hb64.out) Tryz.underlying130 rfl HZ.out ?_
              simp only [Act.put,List.setIfInBounds_toArray,List.set_cons_zero,List.set_cons_succ]
              refine wpQuiet_call rfl 83 _ _ rfl mix_enter #[.agg (cw s.l).toArray,.agg (cb blk2).toArray] (by simp [go_sem]) (.agg (cw (compress s blk2).l).toArray) (fun wx hx => (mix_any s blk2 hb64.out wx hx.kok).mono fun e w' ⟨he,hb⟩ => ⟨he,hx.blk.below hb hx.blk.lt,hx.onl.trans (Only.of_below hb),hx.kok.below hb hx.kok.lt,hx.onl2.trans (Only.of_below hb)⟩) ?_
              simp only [Act.put,List.setIfInBounds_toArray,List.set_cons_zero,List.set_cons_succ]
              refine wpQuiet_val rfl (.pointer (some ⟨g,0,none⟩)) (fun _ _ => by simp [go_sem]) ?_
              simp only [Act.put,List.setIfInBounds_toArray,List.set_cons_zero,List.set_cons_succ]
              refine wpQuiet_val rfl (.pointer (some ⟨g,0,none⟩)) (fun _ _ => by simp [go_sem]) ?_
              simp only [Act.put,List.setIfInBounds_toArray,List.set_cons_zero,List.set_cons_succ]
              refine wpQuiet_nil ?_
              intro w5 h5
              refine wp_store_mid 92 _ _ rfl g 0 (cw (compress s blk2).l).toArray rfl rfl (hc_there h5.blk hb64.out) Tryz.info92 (all_oneCell_toArray (cw_one _)) ?_
              have HB5:Hid (HashIs 132 (w5.setCells g 0 (cw (compress s blk2).l)) g (cur ++ rest.take c)):=⟨_,blk2,by rw [HX.out];exact hc_store h5.blk hb64.out _,HG.out⟩
              simp only [Act.put]
              go_wp2
              go_roundw
              case rel =>
                refine ⟨k + c,HE.out _ _ HB5.out ?_ (Only.setCells _ _ _ h5.onl) (h5.kok.only (Only.setCells _ _ _ (Only.refl _ _)) hg)⟩
                have HY5:=HYO.out w5 h5.onl2
                first | exact (HY5.drop_if hcn).only (Only.setCells _ _ _ (Only.refl _ _)) | exact (HY5.drop_eq hcn ‹_›).only (Only.setCells _ _ _ (Only.refl _ _)) | exact (HY5.drop_ne hcn).only (Only.setCells _ _ _ (Only.refl _ _))
              case measure => simp [sliceLen];omega
        · have ht:((((L:Int) + (c:Int)).tmod 64) == 0) = false:=by
            rw [Int.tmod_eq_emod_of_nonneg (by omega),beq_eq_false_iff_ne];omega
          have HG:Hid (HashIs 132 (w2.setCell ⟨g,72,none⟩ (.int .u64 ((L:Int) + (c:Int)))) g (cur ++ rest.take c)):=by
            have h1:=HJ.out.set 72 (.int .u64 (((L + c:Nat):Int)))
            rw [hc_setn s blk2 L (L + c) hb64.out] at h1
            have h2:=HSay.out.more (y:=rest.take c) (by rw [← HLL.out,← HF.out,HW2.out];omega)
            rw [← HLL.out,← HF.out,← HB2.out,HF.out] at h2
            have e3:(cur ++ rest.take c).length = L + c:=by rw [List.length_append,← HLL.out,← HF.out,HW2.out]
            refine ⟨s,blk2,?_,h2⟩
            rw [e3];exact h1
          go_wp2
          all_goals
            go_roundw
            case rel =>
              refine ⟨k + c,HE.out _ _ HG.out ?_ (HO.out.setCell _ _) ?_⟩
              · first | exact (HY.out.drop_if hcn).only ((Only.refl _ _).setCell _ _) | exact (HY.out.drop_eq hcn ‹_›).only ((Only.refl _ _).setCell _ _) | exact (HY.out.drop_ne hcn).only ((Only.refl _ _).setCell _ _)
              · exact HP.out.only ((Only.refl _ _).setCell _ _) hg
            case measure => simp [sliceLen];omega
    · have hk:k = bs.length:=by omega
      have HF:Hid (HashIs 132 wr g (m ++ bs)):=by have:=hI.hsh;rw [hk,List.take_length] at this;exact this
      obtain ⟨ad,cap,hv,hcap,hpos⟩:=hI.byt
      have hz:(bs.drop k).length = 0:=by simp;omega
      rw [hz] at hv
      subst hv
      have HO:Hid (Only g w wr):=hI.onl
      clear hI hpos
      go_wp2
      go_end0
      exact ⟨rfl,HF.out,HO.out⟩
end Go.Proofs.YtphmmnffgknkcaaGreatDoor
namespace Go.Proofs.YtphmmnffgknkcaaGreatDoor
open Go.RowKit
set_option maxRecDepth 100000
def zb64:List (BitVec 8):=List.replicate 64 0
theorem st0_cells:[Value.int .u32 1779033703,Value.int .u32 3144134277,Value.int .u32 1013904242,Value.int .u32 2773480762,Value.int .u32 1359893119,Value.int .u32 2600822924,Value.int .u32 528734635,Value.int .u32 1541459225] = cw st0.l:=by kernel_rfl
theorem built_hash:Tryz.prog.built 132 [(0,.agg (cw st0.l).toArray)] = some (hc st0 zb64 0).toArray:=by kernel_rfl
theorem Tryz.info132:(Tryz.prog.info? 132).map (·.size) = some 73:=by kernel_rfl
theorem wpList_build1 {P:Program} {ops:Array Oper} {rest:List Oper} {o:Oper} {a:Act} {w:World} {Q:Exit → Act → World → Prop} (hg:o.guard = none) (t:TypeId) (x:Operand)
    (ho:o.op = .build t #[(0,x)]) (v:Value) (e:a.eval x = v) (cs:Array Value) (hb:P.built t [(0,v)] = some cs) (h:wpList P ops Q rest (a.put o.dst (.agg cs)) w):wpList P ops Q (o :: rest) a w:=
  wpList_build hg t _ ho (by simp [e,hb]) (by simpa [e,hb] using h)
set_option maxHeartbeats 400000 in
theorem firstWords_any (w:World):Calls Tryz.prog 82 #[] w fun e w' => e = .returned (.agg (cw st0.l).toArray) ∧ Below w.heap.size w w':=by
  go_enter Tryz.func82,Tryz.ntmps82
  go_wp2_with (first
    | (refine wpList_build8 rfl 92 _ _ _ _ _ _ _ _ rfl _ _ _ _ _ _ _ _ rfl rfl rfl rfl rfl rfl rfl rfl (built8 _ _ _ _ _ _ _ _) ?_)
    | (refine wpList_store8 rfl 92 _ _ rfl _ _ _ _ _ _ _ _ _ rfl rfl ((Blk.new w (cw z8) 92).there 0 8 (by simp [cw_len,len_z8])) Tryz.info92 ?_))
  have hB:=(Blk.new w (cw z8) 92).whole [Value.int .u32 1779033703,Value.int .u32 3144134277,Value.int .u32 1013904242,Value.int .u32 2773480762,Value.int .u32 1359893119,Value.int .u32 2600822924,Value.int .u32 528734635,Value.int .u32 1541459225] (by rw [cw_len,len_z8];rfl)
  refine bodyPost_ret (v:=.agg #[Value.int .u32 1779033703,Value.int .u32 3144134277,Value.int .u32 1013904242,Value.int .u32 2773480762,Value.int .u32 1359893119,Value.int .u32 2600822924,Value.int .u32 528734635,Value.int .u32 1541459225]) (results_cell_row (by rfl) _ _ w.heap.size 92 _ (0,0) _ rfl hB Tryz.underlying92 rfl Tryz.info92) rfl ⟨by rw [← st0_cells],Below.setCells _ (Nat.le_refl _) _ _ _ ((Below.refl _ _).alloc (Nat.le_refl _) _)⟩
def stz:St:=⟨0,0,0,0,0,0,0,0⟩
theorem zero_hash (w:World):(zeroValue 132).run Tryz.prog w = .ok (.agg (hc stz zb64 0).toArray) w:=by kernel_rfl
theorem says0:Says st0 zb64 []:=⟨rfl,rfl,rfl⟩
set_option maxRecDepth 100000 in
set_option maxHeartbeats 400000 in
theorem new_any (w:World):Calls Tryz.prog 54 #[] w fun e w' => ∃ g,e = .returned (.pointer (some ⟨g,0,none⟩)) ∧ w.heap.size ≤ g ∧ HashIs 132 w' g [] ∧ Below w.heap.size w w':=by
  go_enter Tryz.func54,Tryz.ntmps54
  go_wp2_with (first
    | (go_at_call 82;refine (firstWords_any _).mono ?_;rintro e w1 ⟨rfl,hw1⟩)
    | (refine wpList_build1 rfl 132 _ rfl _ rfl _ built_hash ?_))
  go_ret
  exact ⟨w1.heap.size,rfl,hw1.size,⟨st0,zb64,Blk.new w1 _ _,says0⟩,hw1.alloc hw1.size _⟩
end Go.Proofs.YtphmmnffgknkcaaGreatDoor
namespace Go.Proofs.YtphmmnffgknkcaaGreatDoor
open Go.RowKit
set_option maxRecDepth 100000
def padN (n:Nat):Nat:=(119 - n % 64) % 64
def bitsOf (n:Nat):Nat:=8 * n % 18446744073709551616
def padL (k B:Nat):Nat → List (BitVec 8)
  | 0 => 128#8 :: List.replicate (k + 8) 0
  | i + 1 => (padL k B i).set (k + 8 - i) (BitVec.ofNat 8 (B / 2 ^ (8 * i)))
def pad (n:Nat):List (BitVec 8):=padL (padN n) (bitsOf n) 8
theorem len_padL (k B i:Nat):(padL k B i).length = k + 9:=by
  induction i with
  | zero => simp [padL]
  | succ i ih => simp [padL,ih]
theorem padN_eq (n:Nat):(IntKind.u64.wrap (55 - (n:Int))).tmod 64 = (padN n:Int):=by
  rw [IntKind.wrap_u64,Int.tmod_eq_emod_of_nonneg (by omega),padN];omega
theorem bitsOf_eq (n:Nat):IntKind.u64.wrap (8 * (n:Int)) = (bitsOf n:Int):=by
  rw [IntKind.wrap_u64,bitsOf];omega
theorem Tryz.infob:(Tryz.prog.info? 5).map (fun i => (i.zero,i.size,i.bytes)) = some (some (.int .u8 0),1,1):=by kernel_rfl
theorem make_bytes (k:Nat) (hk:k < 281474976710600) (w:World):(Instr.makeSlice 48 (.int .u64 (1 + (k:Int) + 8)) (.int .u64 (1 + (k:Int) + 8))).run Tryz.prog w =
    .ok (.slice (some ⟨w.heap.size,0,none⟩) (k + 9) (k + 9)) (w.alloc (.cells (cb (List.replicate (k + 9) 0)).toArray 5)):=by
  obtain ⟨i0,hi,hz0,hz1,hz2⟩:=info_parts Tryz.infob
  rw [run_make (P:=Tryz.prog) w 48 5 i0 _ Tryz.underlying48 hi hz0 .u64 .u64 _ _ (by omega) (by omega) (by rw [hz2];omega) (by omega)]
  have e:(1 + (k:Int) + 8).toNat = k + 9:=by omega
  rw [e,hz1,Nat.mul_one]
  congr 3
  simp [madeCells,cb,Value.cells,Nat.mod_one]
  apply Array.ext
  · simp
  · intro j h1 h2;simp
theorem byte_of' (B j:Nat):(((BitVec.ofNat 8 (B / 2 ^ (8 * j))).toNat:Nat):Int) = (B:Int) / 2 ^ (8 * j) % 256:=by simp
set_option maxHeartbeats 400000 in
theorem pad_any (n:Nat) (w:World):Calls Tryz.prog 84 #[.int .u64 (n:Int)] w fun e w' => e = .returned (.slice (some ⟨w.heap.size,0,none⟩) (padN n + 9) (padN n + 9)) ∧ Blk w' w.heap.size (cb (pad n)) 5 ∧ Below w.heap.size w w':=by
  have h1:=padN_eq n
  have h2:=bitsOf_eq n
  have HP:Hid (pad n = padL (padN n) (bitsOf n) 8):=rfl
  have hk:padN n < 64:=by unfold padN;omega
  generalize padN n = k at *
  generalize bitsOf n = B at *
  have hmk:=fun wx => make_bytes k (by omega) wx
  go_enter Tryz.func84,Tryz.ntmps84
  have hc0:(cb (List.replicate (k + 9) 0#8))[0]? = some (.int .u8 0):=by simp [cb]
  have HS:Hid (Blk (w.alloc (.cells ((cb (List.replicate (k + 9) 0)).set 0 (.int .u8 128)).toArray 5)) w.heap.size (cb (padL k B 0)) 5):=by
    have:=Blk.new w ((cb (List.replicate (k + 9) 0)).set 0 (.int .u8 128)) 5
    rw [show (Value.int .u8 128) = .int .u8 ((128#8).toNat:Int) from rfl,cb_set] at this
    exact this
  go_wp2
  go_loopw [18] (fun i wr => ∃ j:Nat,j ≤ 8 ∧ i = .int .i64 j ∧ Blk wr w.heap.size (cb (padL k B j)) 5 ∧ Below w.heap.size w wr) (fun i _ => 8 - (intOf i).toNat)
  case atStart =>
    exact ⟨0,by omega,rfl,HS.out,(Below.refl _ _).alloc (Nat.le_refl _) _⟩
  case round =>
    clear HS
    obtain ⟨j,hj,rfl,hB,hbel⟩:=hrel
    by_cases hlt:j < 8
    · obtain ⟨o,cT⟩:∃ o,wr.cell? ⟨w.heap.size,k + 8 - j,none⟩ = some o:=⟨_,by rw [hB.cell,cb_get _ _ (by rw [len_padL];omega)]⟩
      have fT:wr.frozen? ⟨w.heap.size,k + 8 - j,none⟩ = false:=hB.frozen _
      have HB:Hid (Blk wr w.heap.size (cb (padL k B j)) 5):=hB
      clear hB
      go_wp2
      go_roundw
      case rel =>
        refine ⟨j + 1,by omega,by go_num,?_,hbel.setCell (Nat.le_refl _) _⟩
        have h:=HB.out.set (k + 8 - j) (.int .u8 (((BitVec.ofNat 8 (B / 2 ^ (8 * j))).toNat:Nat):Int))
        rw [cb_set,byte_of'] at h
        exact h
      case measure => simp [intOf];omega
    · have hj8:j = 8:=by omega
      subst hj8
      have HB:Hid (Blk wr w.heap.size (cb (pad n)) 5):=by show Blk _ _ _ _;rw [HP.out];exact hB
      clear hB
      go_wp2
      go_ret
      exact ⟨rfl,HB.out,hbel⟩
end Go.Proofs.YtphmmnffgknkcaaGreatDoor
namespace Go.Proofs.YtphmmnffgknkcaaGreatDoor
open Go.RowKit
set_option maxRecDepth 100000
theorem Tryz.info39:(Tryz.prog.info? 39).map (·.size) = some 32:=by kernel_rfl
def outB (l:List (BitVec 32)):Nat → List (BitVec 8)
  | 0 => zb32
  | k + 1 => (outB l k).set k ((l.getD (k / 4) 0 >>> (24 - 8 * (k % 4))).setWidth 8)
theorem len_outB (l:List (BitVec 32)) (k:Nat):(outB l k).length = 32:=by
  induction k with
  | zero => rfl
  | succ k ih => simp [outB,ih]
structure OutInv (w:World) (l:List (BitVec 32)) (k:Nat) (wr:World):Prop where
  wds:Blk wr w.heap.size (cw l) 92
  res:Blk wr (w.heap.size + 1) (cb zb32) 39
  out:Blk wr (w.heap.size + 1 + 1) (cb (outB l k)) 39
  bel:Below w.heap.size w wr
theorem OutInv.store {w wr:World} {l:List (BitVec 32)} {k:Nat} (h:OutInv w l k wr) (v:Int) (hv:v = (((l.getD (k / 4) 0 >>> (24 - 8 * (k % 4))).setWidth 8).toNat:Int)) :
    OutInv w l (k + 1) (wr.setCell ⟨w.heap.size + 1 + 1,k,none⟩ (.int .u8 v)):=by
  subst hv
  exact ⟨h.wds.other _ _ (by simp;omega),h.res.other _ _ (by simp),by have:=h.out.set k (.int .u8 (((l.getD (k / 4) 0 >>> (24 - 8 * (k % 4))).setWidth 8).toNat:Int));rw [cb_set] at this;exact this,h.bel.setCell (by simp;omega) _⟩
theorem shr_byte (x:BitVec 32) (s:Nat):(x.toNat:Int) / 2 ^ s % 256 = (((x >>> s).setWidth 8).toNat:Int):=by
  simp [BitVec.toNat_ushiftRight,Nat.shiftRight_eq_div_pow]
set_option maxHeartbeats 400000 in
theorem wordBytes_any (l:List (BitVec 32)) (hl:l.length = 8) (w:World) :
    Calls Tryz.prog 85 #[.agg (cw l).toArray] w fun e w' => e = .returned (.agg (cb (outB l 32)).toArray) ∧ Below w.heap.size w w':=by
  have HN:Hid (l.length = 8):=hl
  clear hl
  go_enter Tryz.func85,Tryz.ntmps85
  go_wp2
  go_loopw [6] (fun i wr => ∃ k:Nat,k ≤ 8 ∧ i = .int .i64 k ∧ OutInv w l (4 * k) wr) (fun i _ => 8 - (intOf i).toNat)
  case atStart =>
    refine ⟨0,by omega,rfl,?_,?_,?_,?_⟩
    · exact ((Blk.new w (cw l) 92).alloc _).alloc _
    · exact (Blk.new_at (w:=w.alloc (.cells (cw l).toArray 92)) (by simp) (cb zb32) 39).alloc (.cells (cb zb32).toArray 39)
    · exact Blk.new_at (w:=(w.alloc (.cells (cw l).toArray 92)).alloc (.cells (cb zb32).toArray 39)) (by simp) (cb zb32) 39
    · exact (((Below.refl _ _).alloc (Nat.le_refl _) _).alloc (by simp) _).alloc (by simp;omega) _
  case round =>
    obtain ⟨i,hi,rfl,hI⟩:=hrel
    by_cases hlt:i < 8
    · go_wp2
      go_loopw [9] (fun v wr => ∃ j:Nat,j ≤ 4 ∧ v = .int .i64 j ∧ OutInv w l (4 * i + j) wr) (fun v _ => 4 - (intOf v).toNat)
      case atStart => exact ⟨0,by omega,rfl,hI⟩
      case round =>
        clear hI
        obtain ⟨j,hj,rfl,hI⟩:=hrel
        by_cases hlj:j < 4
        · obtain ⟨x,HX⟩:∃ x,Hid (x = l.getD i 0):=⟨_,rfl⟩
          have cx:wr.cell? ⟨w.heap.size,i,none⟩ = some (.int .u32 (x.toNat:Int)):=by rw [hI.wds.cell,cw_get l i (by have:=HN.out;omega),HX.out]
          obtain ⟨o,cT⟩:∃ o,wr.cell? ⟨w.heap.size + 1 + 1,4 * i + j,none⟩ = some o:=⟨_,by rw [hI.out.cell,cb_get _ _ (by rw [len_outB];omega)]⟩
          have fT:wr.frozen? ⟨w.heap.size + 1 + 1,4 * i + j,none⟩ = false:=hI.out.frozen _
          go_wp2
          go_roundw
          case rel =>
            refine ⟨j + 1,by omega,by go_num,?_⟩
            refine hI.store _ ?_
            rw [show (4 * i + j) / 4 = i by omega,show (4 * i + j) % 4 = j by omega,← HX.out,shr_byte]
          case measure => simp [intOf];omega
        · have hj4:j = 4:=by omega
          subst hj4
          go_wp2
          go_roundw
          case rel => exact ⟨i + 1,by omega,by go_num,hI⟩
          case measure => simp [intOf];omega
    · have hi8:i = 8:=by omega
      subst hi8
      obtain ⟨cs,HC⟩:∃ x,Hid (x = cb (outB l 32)):=⟨_,rfl⟩
      have HO:Hid (Blk wr (w.heap.size + 1 + 1) cs 39):=by rw [HC.out];exact hI.out
      have HL:Hid (cs.length = 32):=by show _ = _;rw [HC.out,cb_len,len_outB]
      have HZ:Hid ((Tryz.prog.info? 39).map (·.size) = some cs.length):=by show _ = _;rw [HL.out];exact Tryz.info39
      have H1:Hid (∀ v ∈ cs,v.oneCell' = true):=by show ∀ _,_;rw [HC.out];exact cb_one _
      have HR:Hid (Blk wr (w.heap.size + 1) (cb zb32) 39):=hI.res
      have hbel:=hI.bel
      clear hI
      go_wp2_with (first
        | (refine wpList_load_mid rfl 39 _ rfl (w.heap.size + 1 + 1) 0 rfl cs _ HO.out.range Tryz.underlying39 rfl HZ.out ?_)
        | (refine wpList_store_mid rfl 39 _ _ rfl (w.heap.size + 1) 0 cs.toArray rfl rfl (HR.out.there 0 _ (by rw [List.size_toArray,HL.out,cb_len,len_zb32];omega)) (by simpa using HZ.out) (all_oneCell_toArray H1.out) ?_))
      have hB:=HR.out.whole cs (by rw [HL.out,cb_len,len_zb32])
      refine bodyPost_ret (v:=.agg cs.toArray) (results_cell_row (by rfl) _ _ (w.heap.size + 1) 39 _ (0,0) _ rfl hB Tryz.underlying39 rfl (by simpa using HZ.out)) rfl ⟨by rw [HC.out],Below.setCells _ (by omega) _ _ _ hbel⟩
end Go.Proofs.YtphmmnffgknkcaaGreatDoor
namespace Go.Proofs.YtphmmnffgknkcaaGreatDoor
open Go.RowKit
set_option maxRecDepth 100000
def dig (m:List (BitVec 8)):List (BitVec 8):=outB (blocks ((m ++ pad m.length).length / 64) st0 (m ++ pad m.length)).l 32
theorem len_pad (n:Nat):(pad n).length = padN n + 9:=len_padL _ _ _
theorem bytes_of {w:World} {g b:Nat} {bs:List (BitVec 8)} {t:TypeId} {n:Nat} (h:Blk w b (cb bs) t) (hn:bs.length = n) (hne:b ≠ g):Bytes w g (.slice (some ⟨b,0,none⟩) n n) bs:=
  ⟨_,n,by rw [hn],by omega,fun _ => ⟨b,0,rfl,hne,fun j hj => by rw [h.cell,Nat.zero_add,cb_get bs j hj]⟩⟩
structure DgInv (w:World) (g:Nat) (m:List (BitVec 8)) (L:Nat) (w2:World):Prop where
  cell:w2.cell? ⟨g,72,none⟩ = some (.int .u64 (L:Int))
  kok:KOk w2
  res:Blk w2 w.heap.size (cb zb32) 39
  cpy:HashIs 132 w2 (w.heap.size + 1) m
  bel:Below w.heap.size w w2
theorem DgInv.start {w:World} {g:Nat} {m:List (BitVec 8)} {cs:List Value} {L:Nat} {s:St} {blk:List (BitVec 8)} (hb:Blk w g cs 132) (hK:KOk w) (hC:cs = hc s blk L) (hL:m.length = L) (hS:Says s blk m) :
    DgInv w g m L (((w.alloc (.cells (cb zb32).toArray 39)).alloc (.cells (hc stz zb64 0).toArray 132)).setCells (w.heap.size + 1) 0 cs):=by
  have hb0:Below w.heap.size w (((w.alloc (.cells (cb zb32).toArray 39)).alloc (.cells (hc stz zb64 0).toArray 132)).setCells (w.heap.size + 1) 0 cs):=
    Below.setCells _ (by omega) _ _ _ (((Below.refl _ _).alloc (Nat.le_refl _) _).alloc (by simp) _)
  refine ⟨?_,hK.below hb0 hK.lt,?_,?_,hb0⟩
  · rw [(hb.below hb0 hb.lt).cell,hC,hc_len s blk L hS.len]
  · exact Blk.others _ _ _ _ ((Blk.new w (cb zb32) _).alloc _) (by omega)
  · refine ⟨s,blk,?_,hS⟩
    rw [hL,← hC]
    exact (Blk.new_at (w:=w.alloc (.cells (cb zb32).toArray 39)) (by simp) (hc stz zb64 0) _).whole cs (by rw [hC,len_hc s blk L hS.len];rfl)
set_option maxRecDepth 100000 in
set_option maxHeartbeats 400000 in
theorem digest_any (g:Nat) (m:List (BitVec 8)) (w:World) (hK:KOk w) (hH:HashIs 132 w g m) (hm:m.length < 2305843009213693952) :
    Calls Tryz.prog 56 #[.pointer (some ⟨g,0,none⟩)] w fun e w' => e = .returned (.agg (cb (dig m)).toArray) ∧ Below w.heap.size w w':=by
  obtain ⟨s,blk,hb,hs⟩:=hH
  obtain ⟨cs,HC⟩:∃ x,Hid (x = hc s blk m.length):=⟨_,rfl⟩
  have HL:Hid (cs.length = 73):=by show _ = _;rw [HC.out];exact len_hc s blk m.length hs.len
  have cn:w.cell? ⟨g,72,none⟩ = some (.int .u64 (m.length:Int)):=by rw [hb.cell,hc_len s blk _ hs.len]
  have hlt:=hb.lt
  rw [← HC.out] at hb
  have HZ:Hid ((Tryz.prog.info? 132).map (·.size) = some cs.length):=by show _ = _;rw [HL.out];exact Tryz.info132
  have H1:Hid (∀ v ∈ cs,v.oneCell' = true):=by
    show ∀ _,_
    rw [HC.out];intro v hv
    simp only [hc,List.mem_append,List.mem_singleton] at hv
    rcases hv with hv | hv | rfl
    · exact cw_one _ v hv
    · exact cb_one _ v hv
    · rfl
  have HS:Hid (Says s blk m):=hs
  have HK:Hid (KOk w):=hK
  clear hs hK
  generalize hml:m.length = L at *
  have HML:Hid (m.length = L):=hml
  clear hml
  have hal:=zero_hash
  have hb2:w.rangeAt g 0 cs:=hb.range
  go_enter Tryz.func56,Tryz.ntmps56
  go_wp2_with (first
    | (refine wpList_load_mid rfl 132 _ rfl g 0 rfl cs _ (World.rangeAt_alloc hb2 _) Tryz.underlying132 rfl HZ.out ?_)
    | (refine wpList_store_mid rfl 132 _ _ rfl _ 0 cs.toArray rfl rfl ?_ (by simpa using HZ.out) (all_oneCell_toArray H1.out) ?_;exact Blk.there (Blk.new_at (by simp) (hc stz zb64 0) _) _ _ (by rw [List.size_toArray,HL.out,len_hc _ _ _ rfl];omega);refine Hid.out ?_))
  generalize h0:Obj.cells _ 39 = o32
  have ho:o32 = Obj.cells (cb zb32).toArray 39:=h0.symm
  clear h0
  subst ho
  have hI:=DgInv.start (g:=g) hb HK.out HC.out HML.out HS.out
  clear hb hb2 HK HS cn H1 HZ HC hal
  generalize World.setCells _ _ _ _ = w2 at *
  unfold Hid
  as_aux_lemma =>
    have cn:=hI.cell
    have HI:Hid (DgInv w g m L w2):=hI
    have hp9:padN L < 64:=by unfold padN;omega
    clear hI
    have HD:Hid (∀ s4 blk4,Says s4 blk4 (m ++ pad L) → outB s4.l 32 = dig m):=by
      intro s4 blk4 h4
      rw [dig,HML.out,← h4.wds]
    go_wp2_with fail
    refine (pad_any L _).mono ?_
    rintro e w3 ⟨rfl,hp3,hb3⟩
    go_wp2_with fail
    have e1:1 ≠ w.heap.size + 1:=by have:=HI.out.kok.lt;have:=HI.out.bel.size;have:=HI.out.cpy.lt;omega
    have e2:Bytes w3 (w.heap.size + 1) (.slice (some ⟨w2.heap.size,0,none⟩) (padN L + 9) (padN L + 9)) (pad L):=bytes_of hp3 (len_pad L) (Nat.ne_of_gt HI.out.cpy.lt)
    have e3:m.length + (pad L).length < 4611686018427387904:=by rw [len_pad,HML.out];omega
    refine (write_any (w.heap.size + 1) m (pad L) _ _ e1 (HI.out.kok.below hb3 HI.out.kok.lt) (HI.out.cpy.below hb3 HI.out.cpy.lt) e2 e3).mono ?_
    rintro e w4 ⟨rfl,hh4,ho4⟩
    obtain ⟨s4,blk4,hb4,hs4⟩:=hh4
    have HE:=HD.out s4 blk4 hs4
    have HR:Hid (Blk w4 w.heap.size (cb zb32) 39):=(HI.out.res.below hb3 (Nat.lt_of_lt_of_le (Nat.lt_succ_self _) (Nat.le_of_lt HI.out.cpy.lt))).only ho4 (by omega)
    have HBel:Hid (Below w.heap.size w w4):=HI.out.bel.trans ((hb3.mono HI.out.bel.size).trans (ho4.below (by omega) (by have:=hb3.size;have:=HI.out.bel.size;omega)))
    have HX:Hid (outB s4.l 32 = dig m):=HE
    clear e1 e2 e3 HI hp3 hb3 ho4 HD hs4 HE
    go_wp2_with (refine wpList_load_mid rfl 92 _ rfl (w.heap.size + 1) 0 rfl (cw s4.l) _ (hc_range_words hb4) Tryz.underlying92 rfl Tryz.info92 ?_)
    refine (wordBytes_any s4.l rfl _).mono ?_
    rintro e w5 ⟨rfl,hb5⟩
    have HL2:Hid ((cb (outB s4.l 32)).length = 32):=by show _ = _;rw [cb_len,len_outB]
    have HZ2:Hid ((Tryz.prog.info? 39).map (·.size) = some (cb (outB s4.l 32)).length):=by show _ = _;rw [HL2.out];exact Tryz.info39
    have HR5:Hid (Blk w5 w.heap.size (cb zb32) 39):=HR.out.below hb5 HR.out.lt
    obtain ⟨ds,HDS⟩:∃ x,Hid (x = cb (dig m)):=⟨_,rfl⟩
    rw [HX.out,← HDS.out] at HL2 HZ2 ⊢
    have H1:Hid (∀ v ∈ ds,v.oneCell' = true):=by show ∀ _,_;rw [HDS.out];exact cb_one _
    clear HX
    go_wp2_with (refine wpList_store_mid rfl 39 _ _ rfl w.heap.size 0 ds.toArray rfl rfl (HR5.out.there 0 _ (by rw [List.size_toArray,HL2.out,cb_len,len_zb32];omega)) (by simpa using HZ2.out) (all_oneCell_toArray H1.out) ?_)
    have hB:=HR5.out.whole ds (by rw [HL2.out,cb_len,len_zb32])
    refine bodyPost_ret (v:=.agg ds.toArray) (results_cell_row (by rfl) _ _ w.heap.size 39 _ (0,0) _ rfl hB Tryz.underlying39 rfl (by simpa using HZ2.out)) rfl ⟨by rw [HDS.out],Below.setCells _ (Nat.le_refl _) _ _ _ (HBel.out.trans (hb5.mono HBel.out.size))⟩
end Go.Proofs.YtphmmnffgknkcaaGreatDoor
namespace Go.Proofs.YtphmmnffgknkcaaGreatDoor
open Go.RowKit
set_option maxRecDepth 100000
def Reads (w:World) (v:Value) (bs:List (BitVec 8)):Prop:=
  ∃ ad cap,v = .slice ad bs.length cap ∧ bs.length ≤ cap ∧ (ad = none → cap = 0) ∧ (0 < bs.length → ∃ b off,ad = some ⟨b,off,none⟩ ∧ ∀ j,j < bs.length → w.cell? ⟨b,off + j,none⟩ = some (.int .u8 ((bs.getD j 0).toNat:Int)))
theorem Reads.bytes {w:World} {v:Value} {bs:List (BitVec 8)} (h:Reads w v bs) {g:Nat} (hg:w.heap.size ≤ g):Bytes w g v bs:=by
  obtain ⟨ad,cap,hv,hc,_,hx⟩:=h
  refine ⟨ad,cap,hv,hc,fun hp => ?_⟩
  obtain ⟨b,off,h1,h2⟩:=hx hp
  refine ⟨b,off,h1,?_,h2⟩
  have:=block_lt_of_cell (h2 0 hp)
  simp at this
  omega
theorem Reads.below {w w':World} {v:Value} {bs:List (BitVec 8)} (h:Reads w v bs) (hb:Below w.heap.size w w'):Reads w' v bs:=by
  obtain ⟨ad,cap,hv,hc,hn,hx⟩:=h
  refine ⟨ad,cap,hv,hc,hn,fun hp => ?_⟩
  obtain ⟨b,off,h1,h2⟩:=hx hp
  exact ⟨b,off,h1,fun j hj => by rw [hb.cell (p:=⟨b,off + j,none⟩) (block_lt_of_cell (h2 j hj))];exact h2 j hj⟩
set_option maxRecDepth 100000 in
set_option maxHeartbeats 400000 in
theorem sum_any (v:Value) (bs:List (BitVec 8)) (w:World) (hK:KOk w) (hR:Reads w v bs) (hl:bs.length < 2305843009213693952) :
    Calls Tryz.prog 35 #[v] w fun e w' => e = .returned (.agg (cb (dig bs)).toArray) ∧ Below w.heap.size w w':=by
  have HK:Hid (KOk w):=hK
  have HR:Hid (Reads w v bs):=hR
  clear hK hR
  go_enter Tryz.func35,Tryz.ntmps35
  go_wp2_with fail
  generalize h0:Obj.cells _ 39 = o32
  have ho:o32 = Obj.cells (cb zb32).toArray 39:=h0.symm
  clear h0
  subst ho
  have ha:Below w.heap.size w (w.alloc (.cells (cb zb32).toArray 39)):=(Below.refl _ _).alloc (Nat.le_refl _) _
  refine (new_any _).mono ?_
  rintro e w1 ⟨g,rfl,hg,hh,hb1⟩
  simp at hg hb1
  have HB1:Hid (Below w.heap.size w w1):=ha.trans (hb1.mono (by omega))
  have HR1:Hid (Blk w1 w.heap.size (cb zb32) 39):=(Blk.new w (cb zb32) 39).below hb1 (by omega)
  have HG:Hid (w.heap.size + 1 ≤ g):=hg
  clear hg hb1 ha
  go_wp2_with fail
  have hk1:=HK.out.below HB1.out HK.out.lt
  have e1:1 ≠ g:=by have:=HK.out.lt;have:=HG.out;omega
  have e2:Bytes w1 g v bs:=by
    have:=HG.out
    exact (HR.out.bytes (g:=g) (by omega)).below HB1.out
  refine (write_any g [] bs v _ e1 hk1 hh e2 (by simp;omega)).mono ?_
  rintro e w2 ⟨rfl,hh2,ho2⟩
  have HB2:Hid (Below w.heap.size w w2):=HB1.out.trans (ho2.below (by have:=HG.out;omega) HB1.out.size)
  have HR2:Hid (Blk w2 w.heap.size (cb zb32) 39):=HR1.out.only ho2 (by have:=HG.out;omega)
  have hk2:=HK.out.below HB2.out HK.out.lt
  rw [List.nil_append] at hh2
  clear e1 e2 hk1 hh ho2 HR1 HB1
  go_wp2_with fail
  refine (digest_any g bs _ hk2 hh2 hl).mono ?_
  rintro e w3 ⟨rfl,hb3⟩
  obtain ⟨ds,HDS⟩:∃ x,Hid (x = cb (dig bs)):=⟨_,rfl⟩
  have HL2:Hid (ds.length = 32):=by show _ = _;rw [HDS.out,cb_len,dig,len_outB]
  have HZ2:Hid ((Tryz.prog.info? 39).map (·.size) = some ds.length):=by show _ = _;rw [HL2.out];exact Tryz.info39
  have H1:Hid (∀ v ∈ ds,v.oneCell' = true):=by show ∀ _,_;rw [HDS.out];exact cb_one _
  have HR3:Hid (Blk w3 w.heap.size (cb zb32) 39):=HR2.out.below hb3 HR2.out.lt
  rw [← HDS.out]
  clear hk2 hh2
  go_wp2_with (refine wpList_store_mid rfl 39 _ _ rfl w.heap.size 0 ds.toArray rfl rfl (HR3.out.there 0 _ (by rw [List.size_toArray,HL2.out,cb_len,len_zb32];omega)) (by simpa using HZ2.out) (all_oneCell_toArray H1.out) ?_)
  have hB:=HR3.out.whole ds (by rw [HL2.out,cb_len,len_zb32])
  refine bodyPost_ret (v:=.agg ds.toArray) (results_cell_row (by rfl) _ _ w.heap.size 39 _ (0,0) _ rfl hB Tryz.underlying39 rfl (by simpa using HZ2.out)) rfl ⟨by rw [HDS.out],Below.setCells _ (Nat.le_refl _) _ _ _ (HB2.out.trans (hb3.mono HB2.out.size))⟩
end Go.Proofs.YtphmmnffgknkcaaGreatDoor
namespace Go.Proofs.YtphmmnffgknkcaaGreatDoor
open Go.RowKit
set_option maxRecDepth 100000
theorem eq_part (x:List (BitVec 8)) (hx:x.length = 32) (i:Nat) (hi:i < 32) (w:World):(part 5 (cb x).toArray i).run Tryz.prog w = .ok (.int .u8 ((x.getD i 0).toNat:Int)) w:=by
  have ha:(isAgg 5).run Tryz.prog w = .ok false w:=by kernel_rfl
  have hc:=cb_get x i (by omega)
  simp only [part,Sem.run_bind,ha,Result.andThen_ok]
  simp [hc]
theorem eq_loop (d:Nat) (x y:List (BitVec 8)) (hx:x.length = 32) (hy:y.length = 32):∀ (l:List Nat) (w:World),(∀ i ∈ l,i < 32) →
    ((forIn l ((none,()):Option Bool × Unit) fun i _ => do
            let a ← part 5 (cb x).toArray i
            let b ← part 5 (cb y).toArray i
            let c ← Op.equalIn (d + 1) 5 a b
            if (!c) = true then pure (ForInStep.done (some false,())) else pure (ForInStep.yield (none,()))):Sem (Option Bool × Unit)).run Tryz.prog w =
      .ok (if l.all (fun i => x.getD i 0 == y.getD i 0) then (none,()) else (some false,())) w
  | [],w,_ => by simp
  | i :: l,w,h => by
    have hi:=h i (by simp)
    have ih:=eq_loop d x y hx hy l w (fun j hj => h j (by simp [hj]))
    rw [List.forIn_cons]
    simp only [Sem.run_bind,eq_part x hx i hi,eq_part y hy i hi,Result.andThen_ok,run_equalIn_int w d 5 .u8 .u8 _ _ Tryz.underlying5]
    by_cases he:x.getD i 0 = y.getD i 0
    · have h1:(((x.getD i 0).toNat:Int) == ((y.getD i 0).toNat:Int)) = true:=by rw [he];simp
      have h2:(x.getD i 0 == y.getD i 0) = true:=by rw [he];simp
      simp only [h1,Bool.not_true,Bool.false_eq_true,if_false,Sem.run_pure,Result.andThen_ok,List.all_cons,h2,Bool.true_and]
      exact ih
    · have h1:(((x.getD i 0).toNat:Int) == ((y.getD i 0).toNat:Int)) = false:=by
        rw [beq_eq_false_iff_ne];intro hh;exact he (BitVec.eq_of_toNat_eq (by omega))
      have h2:(x.getD i 0 == y.getD i 0) = false:=by rw [beq_eq_false_iff_ne];exact he
      simp only [h1,Bool.not_false,if_true,Sem.run_pure,Result.andThen_ok,List.all_cons,h2,Bool.false_and,Bool.false_eq_true,if_false]
theorem eq_digs (d:Nat) (x y:List (BitVec 8)) (hx:x.length = 32) (hy:y.length = 32) (w:World):(Op.equalIn (d + 1 + 1) 39 (.agg (cb x).toArray) (.agg (cb y).toArray)).run Tryz.prog w = .ok (decide (x = y)) w:=by
  have hs:∀ w,(sizeOf 5).run Tryz.prog w = .ok 1 w:=fun w => by kernel_rfl
  rw [Op.equalIn]
  simp only [Sem.run_bind,run_underlying Tryz.underlying39,Result.andThen_ok,hs,Nat.mul_one]
  rw [Std.Legacy.Range.forIn_eq_forIn_range']
  rw [eq_loop d x y hx hy _ w (fun i hi => by simp [Std.Legacy.Range.size,List.mem_range'_1] at hi;omega)]
  simp only [Result.andThen_ok]
  by_cases h:x = y
  · subst h;simp
  · have h2:((List.range' ([:32]:Std.Legacy.Range).start ([:32]:Std.Legacy.Range).size ([:32]:Std.Legacy.Range).step).all fun i => x.getD i 0 == y.getD i 0) = false:=by
      rw [Bool.eq_false_iff]
      intro ha
      apply h
      apply List.ext_getElem (by omega)
      intro i h1 h2
      have:=List.all_eq_true.1 ha i (by simp [Std.Legacy.Range.size,List.mem_range'_1];omega)
      simpa [h1,h2] using this
    rw [h2];simp [h]
theorem eq_dig (x y:List (BitVec 8)) (hx:x.length = 32) (hy:y.length = 32) (w:World):(Op.equalIn 10000 39 (.agg (cb x).toArray) (.agg (cb y).toArray)).run Tryz.prog w = .ok (decide (x = y)) w:=eq_digs 9998 x y hx hy w
theorem eq_dig_same (x:List (BitVec 8)) (hx:x.length = 32) (w:World):(Op.equalIn 10000 39 (.agg (cb x).toArray) (.agg (cb x).toArray)).run Tryz.prog w = .ok true w:=by rw [eq_dig x x hx hx];simp
end Go.Proofs.YtphmmnffgknkcaaGreatDoor
namespace Go.Proofs.YtphmmnffgknkcaaGreatDoor
open Go.RowKit
set_option maxRecDepth 100000
def OwnB (w:World) (base:Nat) (v:Value) (l:List (BitVec 8)):Prop:=w.ownsRow base 5 1 v l.length (cb l)
theorem OwnB.nil (w:World) (base:Nat):OwnB w base (.slice none 0 0) []:=World.ownsRow_nil _ _ _ _
theorem OwnB.reads {w:World} {base:Nat} {v:Value} {l:List (BitVec 8)} (h:OwnB w base v l):Reads w v l:=by
  obtain ⟨h1,h2⟩:=h
  rcases h2 with ⟨rfl,h0⟩ | ⟨g,cap,cur,rfl,hg,hh,hc,hm,hs,ht⟩
  · exact ⟨none,0,by rw [h0],by omega,fun _ => rfl,fun hp => by omega⟩
  · refine ⟨_,cap,rfl,hc,(fun h => by cases h),fun _ => ⟨g,0,rfl,fun j hj => ?_⟩⟩
    rw [cell_of_row w g (0 + j) cur _ (0,0) hh,Nat.zero_add]
    rw [Nat.mul_one] at ht
    have:=cb_get l j hj
    rw [← ht,List.getElem?_take_of_lt hj] at this
    simpa using this
theorem OwnB.below {w w':World} {base B:Nat} {v:Value} {l:List (BitVec 8)} (h:OwnB w base v l) (hb:Below B w w') (hB:w.heap.size ≤ B):OwnB w' base v l:=by
  obtain ⟨h1,h2⟩:=h
  refine ⟨h1,?_⟩
  rcases h2 with h2 | ⟨g,cap,cur,hv,hg,hh,r⟩
  · exact Or.inl h2
  · have hlt:g < w.heap.size:=by
      rcases Nat.lt_or_ge g w.heap.size with h' | h'
      · exact h'
      · rw [Array.getElem?_eq_none h'] at hh;cases hh
    exact Or.inr ⟨g,cap,cur,hv,hg,by rw [hb.block g (by omega)];exact hh,r⟩
theorem OwnB.own {w:World} {base:Nat} {v:Value} {l:List (BitVec 8)} (h:OwnB w base v l):∀ k,v.ownBlock = some k → base ≤ k:=by
  obtain ⟨h1,h2⟩:=h
  rcases h2 with ⟨rfl,h0⟩ | ⟨g,cap,cur,rfl,hg,_⟩
  · intro k hk;simp [Value.ownBlock] at hk
  · intro k hk;simp [Value.ownBlock] at hk;omega
theorem wpList_appendB {w:World} {ops:Array Oper} {rest:List Oper} {o:Oper} {a:Act} {Q:Exit → Act → World → Prop} (hgd:o.guard = none) (s x:Operand)
    (ho:o.op = .call { callee:=.builtin .append,args:=#[s,x],argTypes:=#[48,48] }) (base:Nat)
    (v:Value) (l:List (BitVec 8)) (hs:a.eval s = v) (hown:OwnB w base v l) (vx:Value) (news:List (BitVec 8)) (hx:a.eval x = vx) (hr:Reads w vx news)
    (hlen:l.length + news.length ≤ 140737488355328) (hbase:base ≤ w.heap.size)
    (h:∀ v' w',OwnB w' base v' (l ++ news) → Below base w w' → (news ≠ [] → v' ≠ .slice none 0 0) → wpList Tryz.prog ops Q rest (a.put o.dst v') w'):wpList Tryz.prog ops Q (o :: rest) a w:=by
  obtain ⟨i0,hi,hz0,hz1,hz2⟩:=info_parts Tryz.infob
  obtain ⟨ad,cap,rfl,hcap,hnn,hpos⟩:=hr
  cases ad with
  | some ad =>
    refine wpList_append_own (P:=Tryz.prog) w hgd s x 48 ho base 5 i0 (.int .u8 0) 1 1 Tryz.underlying48 hi hz0 hz1 hz2 rfl (by decide) v l.length (cb l) hs hown ad news.length cap (cb news) hx (by rw [cb_len];omega) ?_ (cb_one _) (by unfold maxLen;omega) (by omega) hbase ?_
    · intro j u hj
      have hjl:j < news.length:=by have:=(List.getElem?_eq_some_iff.1 hj).1;rwa [cb_len] at this
      obtain ⟨b,off,h1,h2⟩:=hpos (by omega)
      cases h1
      rw [Addr.add_mid,h2 j hjl,← hj,cb_get news j hjl]
    · intro v' w' h1 h2 h3
      refine h v' w' ?_ ((Below.refl _ _).grown h2 hbase (fun k hk => hown.own k hk)) (fun hne hv => ?_)
      · have e:cb l ++ cb news = cb (l ++ news):=by simp [cb]
        rw [e] at h1
        unfold OwnB;rw [List.length_append];exact h1
      · have:=(h3.1 hv).2
        exact hne (List.eq_nil_of_length_eq_zero this)
  | none =>
    have hn0:news = []:=by
      cases news with
      | nil => rfl
      | cons b r => obtain ⟨b,off,h1,_⟩:=hpos (by simp);cases h1
    subst hn0
    have hc0:=hnn rfl
    subst hc0
    refine wpList_append_own_none (P:=Tryz.prog) hgd s x 48 ho base 5 i0 1 Tryz.underlying48 hi v l.length (cb l) hs hown hx ?_
    exact h v w (by rw [List.append_nil];exact hown) (Below.refl _ _) (fun hne => absurd rfl hne)
end Go.Proofs.YtphmmnffgknkcaaGreatDoor
namespace Go.Proofs.YtphmmnffgknkcaaGreatDoor
open Go.RowKit
set_option maxRecDepth 100000
def tl8 (B i:Nat):List (BitVec 8):=(List.range i).map fun j => BitVec.ofNat 8 (B / 2 ^ (56 - 8 * j))
theorem pad_eq (n:Nat):pad n = 128#8 :: List.replicate (padN n) 0 ++ tl8 (bitsOf n) 8:=by
  unfold pad
  generalize padN n = k
  generalize bitsOf n = B
  have e:(128#8 :: List.replicate (k + 8) (0:BitVec 8)) = (128#8 :: List.replicate k 0) ++ List.replicate 8 0:=by
    rw [List.cons_append,List.replicate_append_replicate]
  have hs:∀ (A L:List (BitVec 8)) (j:Nat) (v:BitVec 8),A.length = k + 1 → j < 8 → (A ++ L).set (k + 8 - j) v = A ++ L.set (7 - j) v:=by
    intro A L j v hA hj
    rw [List.set_append_right _ _ (by omega),hA,show k + 8 - j - (k + 1) = 7 - j by omega]
  have hA:(128#8 :: List.replicate k (0:BitVec 8)).length = k + 1:=by simp
  generalize (128#8 :: List.replicate k (0:BitVec 8)) = A at *
  simp only [padL,e]
  rw [hs A _ 0 _ hA (by omega),hs A _ 1 _ hA (by omega),hs A _ 2 _ hA (by omega),hs A _ 3 _ hA (by omega),hs A _ 4 _ hA (by omega),hs A _ 5 _ hA (by omega),hs A _ 6 _ hA (by omega),hs A _ 7 _ hA (by omega)]
  congr 1
theorem reads_val (w:World) (x:Int) (b:BitVec 8) (hx:x = (b.toNat:Int)):Reads (w.alloc (.cells #[.int .u8 x] 5)) (.slice (some ⟨w.heap.size,0,none⟩) 1 1) [b]:=by
  subst hx
  exact ⟨_,1,rfl,Nat.le_refl _,(fun h => by cases h),fun _ => ⟨w.heap.size,0,rfl,fun j hj => by match j,hj with | 0,_ => simp⟩⟩
structure RpInv (w:World) (l:List (BitVec 8)) (v:Value) (wr:World):Prop where
  own:OwnB wr w.heap.size v l
  bel:Below w.heap.size w wr
set_option maxHeartbeats 400000 in
theorem rpad_any (n:Nat) (w:World):Calls Tryz.prog 47 #[.int .u64 (n:Int)] w fun e w' => ∃ v,e = .returned v ∧ Reads w' v (pad n) ∧ Below w.heap.size w w':=by
  have HP:Hid (pad n = 128#8 :: List.replicate (padN n) 0 ++ tl8 (bitsOf n) 8):=pad_eq n
  have hk:padN n < 64:=by unfold padN;omega
  have hkk:padN n = (119 - n % 64) % 64:=rfl
  have h2:=bitsOf_eq n
  have h3:IntKind.u64.wrap ((n:Int) * 8) = (bitsOf n:Int):=by rw [Int.mul_comm];exact h2
  generalize padN n = k at *
  generalize bitsOf n = B at *
  have HK:Hid (k = (119 - n % 64) % 64):=hkk
  clear hkk h2
  go_enter Tryz.func47,Tryz.ntmps47
  go_wp2_with (at_builtin;refine wpList_appendB rfl (.tmp 6) (.tmp 7) rfl w.heap.size _ [] rfl (OwnB.nil _ _) _ [128] rfl ?_ (by simp) (by simp) ?_;exact ⟨_,1,rfl,Nat.le_refl _,(fun h => by cases h),fun _ => ⟨w.heap.size,0,rfl,fun j hj => by match j,hj with | 0,_ => simp⟩⟩;intro v1 w1 hown1 hb1 _)
  have hI:RpInv w [128] v1 w1:=⟨hown1,((Below.refl _ _).alloc (Nat.le_refl _) _).trans hb1⟩
  clear hown1 hb1
  go_loopw [3] (fun v wr => ∃ j:Nat,j ≤ k ∧ RpInv w (128#8 :: List.replicate j 0) v wr) (fun v _ => k + 1 - sliceLen v)
  case atStart => exact ⟨0,by omega,hI⟩
  case round =>
    clear hI
    obtain ⟨j,hj,hI⟩:=hrel
    obtain ⟨ad,cap,hv,hcap,hnn,hpos⟩:=hI.own.reads
    have hlen:(128#8 :: List.replicate j (0:BitVec 8)).length = j + 1:=by simp
    rw [hlen] at hv hcap
    subst hv
    have HI:Hid (RpInv w (128#8 :: List.replicate j 0) (.slice ad (j + 1) cap) wr):=hI
    clear hI hpos hnn hlen hcap
    by_cases hlt:j < k
    · have ht:((IntKind.u64.wrap ((n:Int) + ((j:Int) + 1))).tmod 64 != 56) = true:=by
        rw [IntKind.wrap_u64,Int.tmod_eq_emod_of_nonneg (by omega),bne_iff_ne];have:=HK.out;omega
      go_wp2_with (at_builtin;refine wpList_appendB rfl (.tmp 16) (.tmp 17) rfl w.heap.size _ (128#8 :: List.replicate j 0) rfl (HI.out.own.below ((Below.refl _ _).alloc (Nat.le_refl _) _) (Nat.le_refl _)) _ [0] rfl (reads_val wr 0 0 rfl) (by simp;omega) (by have:=HI.out.bel.size;simp;omega) ?_;intro v2 w2 hown2 hb2 _)
      have hJ:RpInv w (128#8 :: List.replicate (j + 1) 0) v2 w2:=⟨by rw [List.cons_append,← List.replicate_succ'] at hown2;exact hown2,HI.out.bel.trans (((Below.refl _ _).alloc HI.out.bel.size _).trans hb2)⟩
      clear hown2 hb2 HI
      obtain ⟨ad2,cap2,hv2,_,_,_⟩:=hJ.own.reads
      simp at hv2
      subst hv2
      go_wp2
      go_roundw
      case rel => exact ⟨j + 1,by omega,hJ⟩
      case measure => simp [sliceLen];omega
    · have hjk:j = k:=by omega
      subst hjk
      have ht:((IntKind.u64.wrap ((n:Int) + ((j:Int) + 1))).tmod 64 != 56) = false:=by
        rw [IntKind.wrap_u64,Int.tmod_eq_emod_of_nonneg (by omega),bne_eq_false_iff_eq];have:=HK.out;omega
      clear hlt hj
      go_wp2
      go_loopw [3,5] (fun v i wr => ∃ q:Nat,q ≤ 8 ∧ i = .int .i64 q ∧ RpInv w (128#8 :: List.replicate j 0 ++ tl8 B q) v wr) (fun _ i _ => 8 - (intOf i).toNat)
      case atStart => exact ⟨0,by omega,rfl,by simpa [tl8] using HI.out⟩
      case round =>
        clear HI
        obtain ⟨q,hq,rfl,hI⟩:=hrel
        have HJ:Hid (j < 64):=hk
        have HI:Hid (RpInv w (128#8 :: List.replicate j 0 ++ tl8 B q) u3 wr):=hI
        clear hI
        by_cases hlt:q < 8
        · go_wp2_with (at_builtin;refine wpList_appendB rfl (.tmp 25) (.tmp 33) rfl w.heap.size _ (128#8 :: List.replicate j 0 ++ tl8 B q) rfl (HI.out.own.below ((Below.refl _ _).alloc (Nat.le_refl _) _) (Nat.le_refl _)) _ [BitVec.ofNat 8 (B / 2 ^ (56 - 8 * q))] rfl (reads_val wr _ _ ?_) (by have:=HJ.out;simp [tl8];omega) (by have:=HI.out.bel.size;simp;omega) ?_;simp;intro v2 w2 hown2 hb2 _)
          have hJ:RpInv w (128#8 :: List.replicate j 0 ++ tl8 B (q + 1)) v2 w2:=⟨by rw [List.append_assoc] at hown2;unfold tl8 at hown2 ⊢;rw [List.range_succ,List.map_append];exact hown2,HI.out.bel.trans (((Below.refl _ _).alloc HI.out.bel.size _).trans hb2)⟩
          clear hown2 hb2 HI
          go_wp2
          go_roundw
          case rel => exact ⟨q + 1,by omega,by go_num,hJ⟩
          case measure => simp [intOf];omega
        · have hq8:q = 8:=by omega
          subst hq8
          have HR:Hid (Reads wr u3 (pad n)):=by show Reads _ _ _;rw [HP.out];exact HI.out.own.reads
          have hbel:=HI.out.bel
          clear HI
          go_wp2
          go_ret
          exact ⟨_,rfl,HR.out,hbel⟩
end Go.Proofs.YtphmmnffgknkcaaGreatDoor
namespace Go.Proofs.YtphmmnffgknkcaaGreatDoor
open Go.RowKit
set_option maxRecDepth 100000
def strB (l:List (BitVec 8)):ByteArray:=strOfNums (l.map fun b => (b.toNat:Int))
theorem conv_reads {w:World} {v:Value} {l:List (BitVec 8)} (h:Reads w v l):(convert 48 9 v).run Tryz.prog w = .ok (.string (strB l)) w:=by
  obtain ⟨ad,cap,rfl,hcap,hnn,hpos⟩:=h
  have key:∀ a:Addr,ad = some a → (loadCells a l.length).run Tryz.prog w = .ok ((l.map fun b => (b.toNat:Int)).map (Value.int .u8)).toArray w:=by
    intro a ha
    have hh:=run_loadCells_list (P:=Tryz.prog) w a ((l.map fun b => (b.toNat:Int)).map (Value.int .u8)) (fun j u hj => by
      have hjl:j < l.length:=by have:=(List.getElem?_eq_some_iff.1 hj).1;simpa using this
      obtain ⟨b,off,h1,h2⟩:=hpos (by omega)
      rw [ha] at h1
      cases h1
      rw [Addr.add_mid,h2 j hjl,← hj]
      simp [hjl])
    simpa using hh
  rw [run_convert_bytes_string w 48 9 5 _ _ _ Tryz.underlying48 Tryz.underlying5 Tryz.underlying9]
  cases ad with
  | some a =>
    rw [run_bytesToString w a l.length cap _ (key a rfl),foldl_push_bytes]
    simp [strB,strOfNums]
  | none =>
    have h0:l = []:=by
      cases l with
      | nil => rfl
      | cons b r => obtain ⟨b,off,h1,_⟩:=hpos (by simp);cases h1
    subst h0
    simp [Conv.bytesToString,strB,strOfNums]
    rfl
theorem strB_inj (a b:List (BitVec 8)):((strB a).toList == (strB b).toList) = decide (a = b):=by
  rw [ByteArray.toList_eq,ByteArray.toList_eq]
  unfold strB
  rw [strOfNums_data,strOfNums_data,List.map_map,List.map_map]
  by_cases h:a = b
  · subst h;simp
  · have hinj:∀ x y:BitVec 8,UInt8.ofNat ((x.toNat:Int)).toNat = UInt8.ofNat ((y.toNat:Int)).toNat → x = y:=by
      intro x y hxy
      have h2:=congrArg UInt8.toNat hxy
      have hx:=x.isLt
      have hy:=y.isLt
      simp at h2
      exact BitVec.eq_of_toNat_eq (by omega)
    have hne:∀ a b:List (BitVec 8),a.map ((fun n:Int => UInt8.ofNat n.toNat) ∘ fun b => (b.toNat:Int)) = b.map ((fun n:Int => UInt8.ofNat n.toNat) ∘ fun b => (b.toNat:Int)) → a = b:=by
      intro a
      induction a with
      | nil => intro b hb;cases b with
        | nil => rfl
        | cons y b => simp at hb
      | cons x a ih => intro b hb;cases b with
        | nil => simp at hb
        | cons y b =>
          rw [List.map_cons,List.map_cons,List.cons.injEq] at hb
          rw [hinj x y hb.1,ih b hb.2]
    rw [decide_eq_false h,beq_eq_false_iff_ne]
    exact fun he => h (hne a b he)
end Go.Proofs.YtphmmnffgknkcaaGreatDoor
namespace Go.Proofs.YtphmmnffgknkcaaGreatDoor
open Go.RowKit
set_option maxRecDepth 100000
theorem len_dig' (bs:List (BitVec 8)):(dig bs).length = 32:=by unfold dig;exact len_outB _ _
end Go.Proofs.YtphmmnffgknkcaaGreatDoor
namespace Go.Proofs.YtphmmnffgknkcaaGreatDoor
open Go.RowKit
set_option maxRecDepth 100000
def rw1 (b:List (BitVec 8)):Nat → List (BitVec 32)
  | 0 => z64
  | i + 1 => (rw1 b i).set (i / 4) ((rw1 b i).getD (i / 4) 0 * 256 + (b.getD i 0).setWidth 32)
theorem len_rw1 (b:List (BitVec 8)) (k:Nat):(rw1 b k).length = 64:=by
  induction k with
  | zero => rfl
  | succ k ih => simp [rw1,ih]
theorem word_sum (b0 b1 b2 b3:BitVec 8):((((0:BitVec 32) * (256:BitVec 32) + b0.setWidth 32) * (256:BitVec 32) + b1.setWidth 32) * (256:BitVec 32) + b2.setWidth 32) * (256:BitVec 32) + b3.setWidth 32 =
    b0.setWidth 32 <<< 24 ||| b1.setWidth 32 <<< 16 ||| b2.setWidth 32 <<< 8 ||| b3.setWidth 32:=by
  apply BitVec.eq_of_toNat_eq
  have h0:=b0.isLt
  have h1:=b1.isLt
  have h2:=b2.isLt
  have h3:=b3.isLt
  have o1:=Nat.two_pow_add_eq_or_of_lt (i:=24) (b:=b1.toNat * 65536) (by omega) b0.toNat
  have o2:=Nat.two_pow_add_eq_or_of_lt (i:=16) (b:=b2.toNat * 256) (by omega) (b0.toNat * 256 + b1.toNat)
  have o3:=Nat.two_pow_add_eq_or_of_lt (i:=8) (b:=b3.toNat) (by omega) (b0.toNat * 65536 + b1.toNat * 256 + b2.toNat)
  have e0:(b0.setWidth 32 <<< 24).toNat = 2 ^ 24 * b0.toNat:=by simp [BitVec.toNat_shiftLeft,Nat.shiftLeft_eq];omega
  have e1:(b1.setWidth 32 <<< 16).toNat = b1.toNat * 65536:=by simp [BitVec.toNat_shiftLeft,Nat.shiftLeft_eq];omega
  have e2:(b2.setWidth 32 <<< 8).toNat = b2.toNat * 256:=by simp [BitVec.toNat_shiftLeft,Nat.shiftLeft_eq];omega
  have e3:(b3.setWidth 32).toNat = b3.toNat:=by simp;omega
  rw [BitVec.toNat_or,BitVec.toNat_or,BitVec.toNat_or,e0,e1,e2,e3,← o1,
    show 2 ^ 24 * b0.toNat + b1.toNat * 65536 = 2 ^ 16 * (b0.toNat * 256 + b1.toNat) by omega,← o2,
    show 2 ^ 16 * (b0.toNat * 256 + b1.toNat) + b2.toNat * 256 = 2 ^ 8 * (b0.toNat * 65536 + b1.toNat * 256 + b2.toNat) by omega,← o3]
  simp [BitVec.toNat_add,BitVec.toNat_mul]
  omega
theorem sched1_rest (b:List (BitVec 8)) (t j:Nat) (h:t ≤ j):(sched1 b t).getD j 0 = 0:=by
  induction t with
  | zero => rw [sched1,List.getD_eq_getElem?_getD,List.getElem?_replicate];split <;> rfl
  | succ t ih =>
    rw [sched1,List.getD_eq_getElem?_getD,List.getElem?_set_ne (by omega),← List.getD_eq_getElem?_getD]
    exact ih (by omega)
theorem getD_set_self (l:List (BitVec 32)) (i:Nat) (v:BitVec 32) (h:i < l.length):(l.set i v).getD i 0 = v:=by simp [h]
theorem rw1_eq (b:List (BitVec 8)) (t:Nat) (ht:t ≤ 16):rw1 b (4 * t) = sched1 b t:=by
  induction t with
  | zero => rfl
  | succ t ih =>
    have h0:=ih (by omega)
    have hl:t < (sched1 b t).length:=by rw [len_sched1];omega
    have hz:=sched1_rest b t t (Nat.le_refl _)
    have s1:rw1 b (4 * t + 1) = (sched1 b t).set t (0 * 256 + (b.getD (4 * t) 0).setWidth 32):=by
      rw [rw1,h0,show 4 * t / 4 = t by omega,hz]
    have s2:rw1 b (4 * t + 2) = (sched1 b t).set t ((0 * 256 + (b.getD (4 * t) 0).setWidth 32) * 256 + (b.getD (4 * t + 1) 0).setWidth 32):=by
      rw [rw1,s1,show (4 * t + 1) / 4 = t by omega,getD_set_self _ _ _ hl,List.set_set]
    have s3:rw1 b (4 * t + 3) = (sched1 b t).set t (((0 * 256 + (b.getD (4 * t) 0).setWidth 32) * 256 + (b.getD (4 * t + 1) 0).setWidth 32) * 256 + (b.getD (4 * t + 2) 0).setWidth 32):=by
      rw [rw1,s2,show (4 * t + 2) / 4 = t by omega,getD_set_self _ _ _ hl,List.set_set]
    rw [show 4 * (t + 1) = 4 * t + 3 + 1 by omega,rw1,s3,show (4 * t + 3) / 4 = t by omega,getD_set_self _ _ _ hl,List.set_set,word_sum]
    rfl
theorem byte_sum (y:BitVec 32) (x:BitVec 8):(y.toNat:Int) * 256 % 4294967296 + (x.toNat:Int) = ((y * 256 + x.setWidth 32).toNat:Int):=by
  have:=x.isLt
  simp [BitVec.toNat_add,BitVec.toNat_mul]
  omega
structure RwInv (w:World) (l:List (BitVec 32)) (wr:World):Prop where
  res:Blk wr w.heap.size (cw z64) 123
  wds:Blk wr (w.heap.size + 1) (cw l) 123
  bel:Below w.heap.size w wr
theorem RwInv.store {w wr:World} {l:List (BitVec 32)} (h:RwInv w l wr) (k:Nat) (v:BitVec 32) :
    RwInv w (l.set k v) ((wr.setCell ⟨w.heap.size + 1,k,none⟩ (.int .u32 (v.toNat:Int))).drew):=
  ⟨(h.res.other _ _ (by simp)).drew,by have:=(h.wds.set k (.int .u32 (v.toNat:Int))).drew;rw [cw_set] at this;exact this,(h.bel.setCell (by simp) _).drew⟩
theorem RwInv.drewN {w wr:World} {l:List (BitVec 32)} (h:RwInv w l wr) (n:Nat):RwInv w l (wr.drewN n):=⟨h.res,h.wds,⟨h.bel.os,h.bel.tape,h.bel.output,h.bel.size,h.bel.block⟩⟩
theorem RwInv.at {w wr:World} {l:List (BitVec 32)} (h:RwInv w l wr) (j:Nat) (hj:j < l.length):wr.cell? ⟨w.heap.size + 1,j,none⟩ = some (.int .u32 ((l.getD j 0).toNat:Int)):=by
  rw [h.wds.cell,cw_get l j hj]
set_option maxRecDepth 100000 in
set_option maxHeartbeats 1000000 in
theorem rwords_any (b:List (BitVec 8)) (v:Value) (w:World) (hb:b.length = 64) (hR:Reads w v b) :
    Calls Tryz.prog 76 #[v] w fun e w' => e = .returned (.agg (cw (sched2 b 48)).toArray) ∧ Below w.heap.size w w':=by
  obtain ⟨ad,cap,rfl,hcap,_,hpos⟩:=hR
  obtain ⟨bb,off,rfl,hsrc⟩:=hpos (by omega)
  rw [hb] at hcap hsrc ⊢
  have HS:Hid (∀ wr,Below w.heap.size w wr → ∀ j,j < 64 → wr.cell? ⟨bb,off + j,none⟩ = some (.int .u8 ((b.getD j 0).toNat:Int))):=by
    intro wr hbl j hj
    rw [hbl.cell (p:=⟨bb,off + j,none⟩) (block_lt_of_cell (hsrc j hj))];exact hsrc j hj
  clear hpos hsrc
  go_enter Tryz.func76,Tryz.ntmps76
  go_wp2
  go_loopw [4] (fun i wr => ∃ k:Nat,k ≤ 64 ∧ i = .int .i64 k ∧ RwInv w (rw1 b k) wr) (fun i _ => 64 - (intOf i).toNat)
  case atStart =>
    refine ⟨0,by omega,rfl,?_,?_,?_⟩
    · exact (Blk.new w (cw z64) 123).alloc _
    · exact Blk.new_at (w:=w.alloc (.cells (cw z64).toArray 123)) (by simp) (cw z64) 123
    · exact ((Below.refl _ _).alloc (Nat.le_refl _) _).alloc (by simp) _
  case round =>
    obtain ⟨k,hk,rfl,hI⟩:=hrel
    by_cases hlt:k < 64
    · obtain ⟨x,HX⟩:∃ x,Hid (x = b.getD k 0):=⟨_,rfl⟩
      obtain ⟨y,HY⟩:∃ y,Hid (y = (rw1 b k).getD (k / 4) 0):=⟨_,rfl⟩
      have cx:wr.cell? ⟨bb,off + k,none⟩ = some (.int .u8 (x.toNat:Int)):=by rw [HX.out];exact HS.out wr hI.bel k hlt
      have cy:wr.cell? ⟨w.heap.size + 1,k / 4,none⟩ = some (.int .u32 (y.toNat:Int)):=by rw [HY.out];exact hI.at _ (by rw [len_rw1];omega)
      have fy:wr.frozen? ⟨w.heap.size + 1,k / 4,none⟩ = false:=hI.wds.frozen _
      have gx:(x.toNat:Int) < 256:=by have:=x.isLt;omega
      go_wp2
      go_region
      go_wp2
      go_roundw
      case rel =>
        refine ⟨k + 1,by omega,by go_num,?_⟩
        have:=hI.store (k / 4) (y * 256 + x.setWidth 32)
        rw [← byte_sum] at this
        rw [rw1,← HX.out,← HY.out]
        exact this
      case measure => simp [intOf];omega
    · have hk64:k = 64:=by omega
      subst hk64
      rw [show (64:Nat) = 4 * 16 from rfl,rw1_eq b 16 (Nat.le_refl _)] at hI
      go_wp2
      go_loopw [5] (fun i wr => ∃ k:Nat,k ≤ 48 ∧ i = .int .i64 ((k:Int) + 16) ∧ RwInv w (sched2 b k) wr) (fun i _ => 64 - (intOf i).toNat)
      case atStart => exact ⟨0,by omega,rfl,hI⟩
      case round =>
        clear hI hlt hk HS
        obtain ⟨k,hk,rfl,hI⟩:=hrel
        by_cases hlt:k < 48
        · obtain ⟨x0,H0⟩:∃ x,Hid (x = (sched2 b k).getD k 0):=⟨_,rfl⟩
          obtain ⟨x1,H1⟩:∃ x,Hid (x = (sched2 b k).getD (k + 1) 0):=⟨_,rfl⟩
          obtain ⟨x9,H9⟩:∃ x,Hid (x = (sched2 b k).getD (k + 9) 0):=⟨_,rfl⟩
          obtain ⟨x14,H14⟩:∃ x,Hid (x = (sched2 b k).getD (k + 14) 0):=⟨_,rfl⟩
          have HC:Hid (∀ wx,RwInv w (sched2 b k) wx → wx.cell? ⟨w.heap.size + 1,k,none⟩ = some (.int .u32 (x0.toNat:Int)) ∧ wx.cell? ⟨w.heap.size + 1,k + 1,none⟩ = some (.int .u32 (x1.toNat:Int)) ∧
              wx.cell? ⟨w.heap.size + 1,k + 9,none⟩ = some (.int .u32 (x9.toNat:Int)) ∧ wx.cell? ⟨w.heap.size + 1,k + 14,none⟩ = some (.int .u32 (x14.toNat:Int)) ∧
              (∃ o,wx.cell? ⟨w.heap.size + 1,k + 16,none⟩ = some o) ∧ wx.frozen? ⟨w.heap.size + 1,k + 16,none⟩ = false):=by
            intro wx hx
            have hl:=len_sched2 b k
            rw [H0.out,H1.out,H9.out,H14.out]
            exact ⟨hx.at _ (by omega),hx.at _ (by omega),hx.at _ (by omega),hx.at _ (by omega),⟨_,hx.at _ (by omega)⟩,hx.wds.frozen _⟩
          obtain ⟨c0,c1,c9,c14,⟨o,cT⟩,fT⟩:=HC.out wr hI
          go_wp2
          go_quiet ((go_at_call 78;exact Calls.quiet_of_same (turn_any _ _ _ (by omega) (by omega))))
          have hI2:=hI.drewN nq
          clear hI c0 c1 c9 c14 cT fT
          generalize wr.drewN nq = wq at *
          obtain ⟨c0,c1,c9,c14,⟨o,cT⟩,fT⟩:=HC.out wq hI2
          go_wp2
          go_quiet ((go_at_call 78;exact Calls.quiet_of_same (turn_any _ _ _ (by omega) (by omega))))
          have hI:=hI2.drewN nq
          clear hI2 c0 c1 c9 c14 cT fT
          generalize wq.drewN nq = wp at *
          obtain ⟨c0,c1,c9,c14,⟨o,cT⟩,fT⟩:=HC.out wp hI
          go_wp2
          go_region
          go_wp2
          go_roundw
          case rel =>
            refine ⟨k + 1,by omega,by go_num,?_⟩
            have:=hI.store (k + 16) (x0 + sig0 x1 + x9 + sig1 x14)
            rw [← u32_add4,← sig0_eq,← sig1_eq] at this
            rw [sched2,← H0.out,← H1.out,← H9.out,← H14.out]
            exact this
          case measure => simp [intOf];omega
        · have hk48:k = 48:=by omega
          subst hk48
          obtain ⟨cs,HCS⟩:∃ x,Hid (x = cw (sched2 b 48)):=⟨_,rfl⟩
          have HL:Hid (cs.length = 64):=by show _ = _;rw [HCS.out,cw_len,len_sched2]
          have HZ:Hid ((Tryz.prog.info? 123).map (·.size) = some cs.length):=by show _ = _;rw [HL.out];exact Tryz.info123
          have H1:Hid (∀ v ∈ cs,v.oneCell' = true):=by show ∀ _,_;rw [HCS.out];exact cw_one _
          have HW:Hid (Blk wr (w.heap.size + 1) cs 123):=by show Blk _ _ _ _;rw [HCS.out];exact hI.wds
          have HR:Hid (Blk wr w.heap.size (cw z64) 123):=hI.res
          have hbel:=hI.bel
          clear hI
          go_wp2_with (first
            | (refine wpList_load_mid rfl 123 _ rfl (w.heap.size + 1) 0 rfl cs _ HW.out.range Tryz.underlying123 rfl HZ.out ?_)
            | (refine wpList_store_mid rfl 123 _ _ rfl w.heap.size 0 cs.toArray rfl rfl (HR.out.there 0 _ (by rw [List.size_toArray,HL.out,cw_len,len_z64];omega)) (by simpa using HZ.out) (all_oneCell_toArray H1.out) ?_))
          have hB:=HR.out.whole cs (by rw [HL.out,cw_len,len_z64])
          refine bodyPost_ret (v:=.agg cs.toArray) (results_cell_row (by rfl) _ _ w.heap.size 123 _ (0,0) _ rfl hB Tryz.underlying123 rfl (by simpa using HZ.out)) rfl ⟨by rw [HCS.out],Below.setCells _ (Nat.le_refl _) _ _ _ hbel⟩
end Go.Proofs.YtphmmnffgknkcaaGreatDoor
namespace Go.Proofs.YtphmmnffgknkcaaGreatDoor
open Go.RowKit
set_option maxRecDepth 100000
set_option maxHeartbeats 400000 in
theorem rfirst_any (w:World):Calls Tryz.prog 48 #[] w fun e w' => e = .returned (.agg (cw st0.l).toArray) ∧ Below w.heap.size w w':=by
  go_enter Tryz.func48,Tryz.ntmps48
  go_wp2_with (first
    | (refine wpList_build8 rfl 92 _ _ _ _ _ _ _ _ rfl _ _ _ _ _ _ _ _ rfl rfl rfl rfl rfl rfl rfl rfl (built8 _ _ _ _ _ _ _ _) ?_)
    | (refine wpList_store8 rfl 92 _ _ rfl _ _ _ _ _ _ _ _ _ rfl rfl ((Blk.new w (cw z8) 92).there 0 8 (by simp [cw_len,len_z8])) Tryz.info92 ?_))
  have hB:=(Blk.new w (cw z8) 92).whole [Value.int .u32 1779033703,Value.int .u32 3144134277,Value.int .u32 1013904242,Value.int .u32 2773480762,Value.int .u32 1359893119,Value.int .u32 2600822924,Value.int .u32 528734635,Value.int .u32 1541459225] (by rw [cw_len,len_z8];rfl)
  refine bodyPost_ret (v:=.agg #[Value.int .u32 1779033703,Value.int .u32 3144134277,Value.int .u32 1013904242,Value.int .u32 2773480762,Value.int .u32 1359893119,Value.int .u32 2600822924,Value.int .u32 528734635,Value.int .u32 1541459225]) (results_cell_row (by rfl) _ _ w.heap.size 92 _ (0,0) _ rfl hB Tryz.underlying92 rfl Tryz.info92) rfl ⟨by rw [← st0_cells],Below.setCells _ (Nat.le_refl _) _ _ _ ((Below.refl _ _).alloc (Nat.le_refl _) _)⟩
def kcs:List Value:=cw kw
theorem len_kcs:kcs.length = 64:=rfl
theorem one_kcs:∀ v ∈ kcs,v.oneCell' = true:=cw_one _
theorem kcs_get (j:Nat) (h:j < 64):kcs[j]? = some (.int .u32 ((kw.getD j 0).toNat:Int)):=cw_get kw j h
set_option maxRecDepth 100000 in
set_option maxHeartbeats 400000 in
theorem rround_any (w:World):Calls Tryz.prog 77 #[] w fun e w' => e = .returned (.agg kcs.toArray) ∧ Below w.heap.size w w':=by
  have HZ:Hid ((Tryz.prog.info? 123).map (·.size) = some kcs.length):=Tryz.info123
  go_enter Tryz.func77,Tryz.ntmps77
  go_wp2_with (first
    | (refine wpList_buildc rfl 123 _ rfl kcs.toArray (fun _ => by kernel_rfl) ?_)
    | (refine wpList_store_mid rfl 123 _ _ rfl w.heap.size 0 kcs.toArray rfl rfl ((Blk.new w (cw z64) 123).there 0 _ (by rw [List.size_toArray,len_kcs,cw_len,len_z64];omega)) (by simpa using HZ.out) (all_oneCell_toArray one_kcs) ?_))
  have hB:=(Blk.new w (cw z64) 123).whole kcs (by rw [len_kcs,cw_len,len_z64])
  refine bodyPost_ret (v:=.agg kcs.toArray) (results_cell_row (by rfl) _ _ w.heap.size 123 _ (0,0) _ rfl hB Tryz.underlying123 rfl (by simpa using HZ.out)) rfl ⟨rfl,Below.setCells _ (Nat.le_refl _) _ _ _ ((Below.refl _ _).alloc (Nat.le_refl _) _)⟩
structure Rb1 (w:World) (s:St) (ws:List (BitVec 32)) (g5:Nat) (wr:World):Prop where
  box:Blk wr w.heap.size (cw s.l) 92
  res:Blk wr (w.heap.size + 1) (cw z8) 92
  sch:Blk wr g5 (cw ws) 123
  bel:Below w.heap.size w wr
  lt5:w.heap.size + 1 < g5
theorem Rb1.start {w w1:World} {s:St} {ws:List (BitVec 32)} (hl:ws.length = 64)
    (h:Below (w.heap.size + 1 + 1) ((w.alloc (.cells (cw s.l).toArray 92)).alloc (.cells (cw z8).toArray 92)) w1) :
    Rb1 w s ws w1.heap.size ((w1.alloc (.cells (cw z64).toArray 123)).setCells w1.heap.size 0 (cw ws)):=by
  have h1:=h.size
  simp at h1
  have b0:Below w.heap.size w ((w.alloc (.cells (cw s.l).toArray 92)).alloc (.cells (cw z8).toArray 92)):=((Below.refl _ _).alloc (Nat.le_refl _) _).alloc (by simp) _
  have b1:Below w.heap.size w w1:=b0.trans (h.mono (by omega))
  refine ⟨?_,?_,?_,Below.setCells _ (by omega) _ _ _ (b1.alloc (by omega) _),by omega⟩
  · exact Blk.others _ _ _ _ ((Blk.below ((Blk.new w (cw s.l) _).alloc _) h (by omega)).alloc _) (by omega)
  · exact Blk.others _ _ _ _ ((Blk.below (Blk.new_at (by simp) (cw z8) _) h (by omega)).alloc _) (by omega)
  · exact (Blk.new w1 _ _).whole _ (by simp [cw_len,hl,len_z64])
theorem Rb1.below {w w1 w2:World} {s:St} {ws:List (BitVec 32)} {g5:Nat} (h:Rb1 w s ws g5 w1) (hb:Below w1.heap.size w1 w2):Rb1 w s ws g5 w2:=
  ⟨h.box.below hb h.box.lt,h.res.below hb h.res.lt,h.sch.below hb h.sch.lt,h.bel.trans (hb.mono h.bel.size),h.lt5⟩
structure Rb2 (w:World) (s:St) (ws:List (BitVec 32)) (g5 g6:Nat) (wr:World):Prop where
  one:Rb1 w s ws g5 wr
  kks:Blk wr g6 kcs 123
  lt6:g5 < g6
theorem Rb2.start {w w1 w2:World} {s:St} {ws:List (BitVec 32)} {g5:Nat} (h:Rb1 w s ws g5 w1) (hb:Below w1.heap.size w1 w2) :
    Rb2 w s ws g5 w2.heap.size ((w2.alloc (.cells (cw z64).toArray 123)).setCells w2.heap.size 0 kcs):=by
  have h2:=h.below hb
  have hlt:=h2.sch.lt
  refine ⟨⟨?_,?_,?_,Below.setCells _ h2.bel.size _ _ _ (h2.bel.alloc h2.bel.size _),h2.lt5⟩,(Blk.new w2 _ _).whole _ (by rw [cw_len,len_z64,len_kcs]),hlt⟩
  · exact Blk.others _ _ _ _ (h2.box.alloc _) (by have:=h2.box.lt;omega)
  · exact Blk.others _ _ _ _ (h2.res.alloc _) (by have:=h2.res.lt;omega)
  · exact Blk.others _ _ _ _ (h2.sch.alloc _) (by omega)
structure Rb3 (w:World) (s:St) (ws:List (BitVec 32)) (g5 g6 g7:Nat) (q:St) (wr:World):Prop where
  two:Rb2 w s ws g5 g6 wr
  stt:Blk wr g7 (cw q.l) 92
  lt7:g6 < g7
theorem Rb3.start {w w1:World} {s:St} {ws:List (BitVec 32)} {g5 g6:Nat} (h:Rb2 w s ws g5 g6 w1) :
    Rb3 w s ws g5 g6 w1.heap.size s ((w1.alloc (.cells (cw z8).toArray 92)).setCells w1.heap.size 0 (cw s.l)):=by
  have hlt:=h.kks.lt
  refine ⟨⟨⟨?_,?_,?_,Below.setCells _ h.one.bel.size _ _ _ (h.one.bel.alloc h.one.bel.size _),h.one.lt5⟩,?_,h.lt6⟩,(Blk.new w1 _ _).whole _ rfl,hlt⟩
  · exact Blk.others _ _ _ _ (h.one.box.alloc _) (by have:=h.one.box.lt;omega)
  · exact Blk.others _ _ _ _ (h.one.res.alloc _) (by have:=h.one.res.lt;omega)
  · exact Blk.others _ _ _ _ (h.one.sch.alloc _) (by have:=h.one.sch.lt;omega)
  · exact Blk.others _ _ _ _ (h.kks.alloc _) (by omega)
theorem Rb3.drewN {w wr:World} {s q:St} {ws:List (BitVec 32)} {g5 g6 g7:Nat} (h:Rb3 w s ws g5 g6 g7 q wr) (n:Nat):Rb3 w s ws g5 g6 g7 q (wr.drewN n):=
  ⟨⟨⟨h.two.one.box,h.two.one.res,h.two.one.sch,⟨h.two.one.bel.os,h.two.one.bel.tape,h.two.one.bel.output,h.two.one.bel.size,h.two.one.bel.block⟩,h.two.one.lt5⟩,h.two.kks,h.two.lt6⟩,h.stt,h.lt7⟩
theorem Rb3.store {w wr:World} {s q:St} {ws:List (BitVec 32)} {g5 g6 g7:Nat} (h:Rb3 w s ws g5 g6 g7 q wr) (q':St):Rb3 w s ws g5 g6 g7 q' (wr.setCells g7 0 (cw q'.l)):=by
  have h5:=h.two.one.lt5
  have h6:=h.two.lt6
  have h7:=h.lt7
  have hb:=h.two.one.bel
  refine ⟨⟨⟨?_,?_,?_,Below.setCells _ (by omega) _ _ _ hb,h5⟩,?_,h6⟩,h.stt.whole _ rfl,h7⟩
  · exact Blk.others _ _ _ _ h.two.one.box (by omega)
  · exact Blk.others _ _ _ _ h.two.one.res (by omega)
  · exact Blk.others _ _ _ _ h.two.one.sch (by omega)
  · exact Blk.others _ _ _ _ h.two.kks (by omega)
theorem Rb3.words {w wr:World} {s q:St} {ws:List (BitVec 32)} {g5 g6 g7:Nat} (h:Rb3 w s ws g5 g6 g7 q wr) :
    wr.cell? ⟨g7,0,none⟩ = some (.int .u32 (q.a.toNat:Int)) ∧ wr.cell? ⟨g7,1,none⟩ = some (.int .u32 (q.b.toNat:Int)) ∧
    wr.cell? ⟨g7,2,none⟩ = some (.int .u32 (q.c.toNat:Int)) ∧ wr.cell? ⟨g7,3,none⟩ = some (.int .u32 (q.d.toNat:Int)) ∧
    wr.cell? ⟨g7,4,none⟩ = some (.int .u32 (q.e.toNat:Int)) ∧ wr.cell? ⟨g7,5,none⟩ = some (.int .u32 (q.f.toNat:Int)) ∧
    wr.cell? ⟨g7,6,none⟩ = some (.int .u32 (q.g.toNat:Int)) ∧ wr.cell? ⟨g7,7,none⟩ = some (.int .u32 (q.h.toNat:Int)):=by
  simp only [h.stt.cell]
  exact ⟨rfl,rfl,rfl,rfl,rfl,rfl,rfl,rfl⟩
theorem rnd_cells (q:St) (y x:BitVec 32) :
    [Value.int .u32 (((q.h.toNat:Int) + ((big1 q.e).toNat:Int) + ((cho q.e q.f q.g).toNat:Int) + (y.toNat:Int) + (x.toNat:Int) + ((big0 q.a).toNat:Int) + ((maj q.a q.b q.c).toNat:Int)) % 4294967296),
      Value.int .u32 (q.a.toNat:Int),Value.int .u32 (q.b.toNat:Int),Value.int .u32 (q.c.toNat:Int),
      Value.int .u32 (((q.d.toNat:Int) + ((q.h.toNat:Int) + ((big1 q.e).toNat:Int) + ((cho q.e q.f q.g).toNat:Int) + (y.toNat:Int) + (x.toNat:Int))) % 4294967296),
      Value.int .u32 (q.e.toNat:Int),Value.int .u32 (q.f.toNat:Int),Value.int .u32 (q.g.toNat:Int)] = cw (rnd q y x).l:=by
  have e1:((q.h.toNat:Int) + ((big1 q.e).toNat:Int) + ((cho q.e q.f q.g).toNat:Int) + (y.toNat:Int) + (x.toNat:Int) + ((big0 q.a).toNat:Int) + ((maj q.a q.b q.c).toNat:Int)) % 4294967296 =
      ((q.h + big1 q.e + cho q.e q.f q.g + y + x + (big0 q.a + maj q.a q.b q.c)).toNat:Int):=by
    rw [← sum_a];omega
  have e2:((q.d.toNat:Int) + ((q.h.toNat:Int) + ((big1 q.e).toNat:Int) + ((cho q.e q.f q.g).toNat:Int) + (y.toNat:Int) + (x.toNat:Int))) % 4294967296 =
      ((q.d + (q.h + big1 q.e + cho q.e q.f q.g + y + x)).toNat:Int):=by
    rw [← sum_e];omega
  rw [e1,e2];rfl
def plusL (s q:St):Nat → List (BitVec 32)
  | 0 => s.l
  | k + 1 => (plusL s q k).set k ((plusL s q k).getD k 0 + q.l.getD k 0)
theorem len_plusL (s q:St) (k:Nat):(plusL s q k).length = 8:=by
  induction k with
  | zero => rfl
  | succ k ih => simp [plusL,ih]
theorem plusL_eq (s q:St):plusL s q 8 = (s.plus q).l:=rfl
structure Rb4 (w:World) (s q:St) (g7 k:Nat) (wr:World):Prop where
  box:Blk wr w.heap.size (cw (plusL s q k)) 92
  res:Blk wr (w.heap.size + 1) (cw z8) 92
  stt:Blk wr g7 (cw q.l) 92
  bel:Below w.heap.size w wr
  lt7:w.heap.size + 1 < g7
theorem Rb4.start {w wr:World} {s q:St} {ws:List (BitVec 32)} {g5 g6 g7:Nat} (h:Rb3 w s ws g5 g6 g7 q wr):Rb4 w s q g7 0 wr:=
  ⟨h.two.one.box,h.two.one.res,h.stt,h.two.one.bel,by have:=h.two.one.lt5;have:=h.two.lt6;have:=h.lt7;omega⟩
theorem Rb4.store {w wr:World} {s q:St} {g7 k':Nat} (h:Rb4 w s q g7 k' wr) (k:Nat) (v:BitVec 32) (hv:v = (plusL s q k').getD k 0 + q.l.getD k 0) (hk:k = k':=by rfl) :
    Rb4 w s q g7 (k' + 1) ((wr.setCell ⟨w.heap.size,k,none⟩ (.int .u32 (v.toNat:Int))).drew):=by
  subst hk
  subst hv
  have h7:=h.lt7
  refine ⟨?_,(h.res.other _ _ (by simp)).drew,(h.stt.other _ _ (by simp;omega)).drew,(h.bel.setCell (by simp) _).drew,h7⟩
  have:=(h.box.set k (.int .u32 (((plusL s q k).getD k 0 + q.l.getD k 0).toNat:Int))).drew
  rw [cw_set] at this
  exact this
set_option maxRecDepth 100000 in
set_option maxHeartbeats 1000000 in
theorem rblock_any (s:St) (b:List (BitVec 8)) (v:Value) (w:World) (hb:b.length = 64) (hR:Reads w v b) :
    Calls Tryz.prog 49 #[.agg (cw s.l).toArray,v] w fun e w' => e = .returned (.agg (cw (compress s b).l).toArray) ∧ Below w.heap.size w w':=by
  obtain ⟨r,HR⟩:∃ r,Hid (compress s b = r):=⟨_,rfl⟩
  rw [HR.out]
  have HRd:Hid (Reads w v b):=hR
  have HN:Hid (b.length = 64):=hb
  clear hR hb
  go_enter Tryz.func49,Tryz.ntmps49
  go_wp2_with fail
  generalize h0:Obj.cells #[.int .u32 0,_,_,_,_,_,_,_] 92 = o8
  have ho:o8 = Obj.cells (cw z8).toArray 92:=h0.symm
  clear h0
  subst ho
  refine (rwords_any b v _ HN.out (HRd.out.below (((Below.refl _ _).alloc (Nat.le_refl _) _).alloc (by simp) _))).mono ?_
  rintro e w1 ⟨rfl,hb1⟩
  have h2:=hb1.mono (B':=w.heap.size + 1 + 1) (by simp)
  clear hb1 HRd HN
  have HL:Hid ((sched2 b 48).length = 64):=len_sched2 b 48
  generalize hws:sched2 b 48 = ws at *
  have HW:Hid (sched2 b 48 = ws):=hws
  clear hws
  have HZ:Hid ((Tryz.prog.info? 123).map (·.size) = some (cw ws).length):=by rw [cw_len,HL.out];exact Tryz.info123
  go_wp2_with (refine wpList_store_mid rfl 123 _ _ rfl _ 0 (cw ws).toArray rfl rfl ?_ (by simpa using HZ.out) (all_oneCell_toArray (cw_one _)) ?_;exact Blk.there (Blk.new_at rfl (cw z64) _) _ _ (by simp [cw_len,HL.out,len_z64]);refine Hid.out ?_)
  generalize h0:Obj.cells _ 123 = o64
  have ho:o64 = Obj.cells (cw z64).toArray 123:=h0.symm
  clear h0
  subst ho
  have hI:=Rb1.start (ws:=ws) HL.out h2
  clear h2 HZ
  generalize World.setCells _ _ _ _ = w2 at *
  generalize w1.heap.size = g5 at *
  unfold Hid
  as_aux_lemma =>
    go_wp2_with fail
    refine (rround_any _).mono ?_
    rintro e w3 ⟨rfl,hb3⟩
    have HK:Hid ((Tryz.prog.info? 123).map (·.size) = some kcs.length):=Tryz.info123
    go_wp2_with (refine wpList_store_mid rfl 123 _ _ rfl _ 0 kcs.toArray rfl rfl ?_ (by simpa using HK.out) (all_oneCell_toArray one_kcs) ?_;exact Blk.there (Blk.new_at rfl (cw z64) _) _ _ (by rw [List.size_toArray,len_kcs,cw_len,len_z64];omega);refine Hid.out ?_)
    generalize h0:Obj.cells _ 123 = o64
    have ho:o64 = Obj.cells (cw z64).toArray 123:=h0.symm
    clear h0
    subst ho
    have hJ:=Rb2.start hI hb3
    clear hI hb3 HK
    generalize World.setCells _ _ _ _ = w4 at *
    generalize w3.heap.size = g6 at *
    unfold Hid
    as_aux_lemma =>
      go_wp2_with (first
        | (refine wpList_load_mid rfl 92 _ rfl w.heap.size 0 rfl (cw s.l) _ hJ.one.box.range Tryz.underlying92 rfl Tryz.info92 ?_)
        | (refine wpList_store_mid rfl 92 _ _ rfl _ 0 (cw s.l).toArray rfl rfl ?_ Tryz.info92 (all_oneCell_toArray (cw_one _)) ?_;exact Blk.there (Blk.new_at rfl (cw z8) _) _ _ (Nat.le_refl 8);refine Hid.out ?_))
      generalize h0:Obj.cells #[.int .u32 0,_,_,_,_,_,_,_] 92 = o8
      have ho:o8 = Obj.cells (cw z8).toArray 92:=h0.symm
      clear h0
      subst ho
      have hI:=Rb3.start hJ
      clear hJ
      generalize World.setCells _ _ _ _ = w5 at *
      generalize w4.heap.size = g7 at *
      unfold Hid
      as_aux_lemma =>
        go_wp2
        go_loopw [8] (fun i wr => ∃ k:Nat,k ≤ 64 ∧ i = .int .i64 k ∧ Rb3 w s ws g5 g6 g7 (rounds ws s k) wr) (fun i _ => 64 - (intOf i).toNat)
        case atStart => exact ⟨0,by omega,rfl,hI⟩
        case round =>
          clear hI
          obtain ⟨k,hk,rfl,hI⟩:=hrel
          by_cases hlt:k < 64
          · obtain ⟨x,y,HXY,HS⟩:∃ x y:BitVec 32,Hid (∀ wx q,Rb3 w s ws g5 g6 g7 q wx → wx.cell? ⟨g5,k,none⟩ = some (.int .u32 (x.toNat:Int)) ∧ wx.cell? ⟨g6,k,none⟩ = some (.int .u32 (y.toNat:Int))) ∧ Hid (rounds ws s (k + 1) = rnd (rounds ws s k) y x):=
              ⟨ws.getD k 0,kw.getD k 0,(fun wx q hx => ⟨by rw [hx.two.one.sch.cell,cw_get ws k (by have:=HL.out;omega)],by rw [hx.two.kks.cell,kcs_get k hlt]⟩),rounds_succ' ws s k⟩
            clear HL HW HR
            generalize rounds ws s k = q at *
            obtain ⟨c0,c1,c2,c3,c4,c5,c6,c7⟩:=hI.words
            go_wp2
            go_quiet ((go_at_call 78;exact Calls.quiet_of_same (turn_any _ _ _ (by omega) (by omega))))
            have hJ:=hI.drewN nq
            clear hI c0 c1 c2 c3 c4 c5 c6 c7
            generalize wr.drewN nq = wq at *
            obtain ⟨c0,c1,c2,c3,c4,c5,c6,c7⟩:=hJ.words
            obtain ⟨cx,cy⟩:=HXY.out wq q hJ
            go_wp2
            go_quiet (fail)
            have hI:=hJ.drewN nq
            clear hJ c0 c1 c2 c3 c4 c5 c6 c7 cx cy
            generalize wq.drewN nq = wp at *
            obtain ⟨c0,c1,c2,c3,c4,c5,c6,c7⟩:=hI.words
            go_wp2
            go_quiet ((go_at_call 78;exact Calls.quiet_of_same (turn_any _ _ _ (by omega) (by omega))))
            have hJ:=hI.drewN nq
            clear hI c0 c1 c2 c3 c4 c5 c6 c7
            generalize wp.drewN nq = wq at *
            obtain ⟨c0,c1,c2,c3,c4,c5,c6,c7⟩:=hJ.words
            go_wp2_with (refine wpList_build8 rfl 92 _ _ _ _ _ _ _ _ rfl _ _ _ _ _ _ _ _ rfl rfl rfl rfl rfl rfl rfl rfl (built8 _ _ _ _ _ _ _ _) ?_;refine Hid.out ?_)
            unfold Hid
            simp only [big1_eq,cho_ref,big0_eq,maj_eq]
            refine wpList_store8 rfl 92 (.tmp 7) (.tmp 109) rfl g7 _ _ _ _ _ _ _ _ rfl rfl (hJ.stt.there 0 8 (Nat.le_refl 8)) Tryz.info92 ?_
            have hK:=hJ.store (rnd q y x)
            rw [← rnd_cells] at hK
            clear hJ c0 c1 c2 c3 c4 c5 c6 c7
            generalize World.setCells _ _ _ _ = wz at *
            simp only [Act.put]
            go_wp2
            go_roundw
            case rel => exact ⟨k + 1,by omega,by go_num,by rw [HS.out];exact hK⟩
            case measure => simp [intOf];omega
          · have hk64:k = 64:=by omega
            subst hk64
            have HC:Hid (r = s.plus (rounds ws s 64)):=by have:=HR.out;rw [compress_eq,HW.out] at this;exact this.symm
            clear HW HR
            generalize rounds ws s 64 = q at *
            as_aux_lemma =>
              go_wp2
              go_loopw [14] (fun i wr => ∃ k:Nat,k ≤ 8 ∧ i = .int .i64 k ∧ Rb4 w s q g7 k wr) (fun i _ => 8 - (intOf i).toNat)
              case atStart => exact ⟨0,by omega,rfl,Rb4.start hI⟩
              case round =>
                clear hI hlt hk
                obtain ⟨k,hk,rfl,hI⟩:=hrel
                by_cases hlt:k < 8
                · obtain ⟨x,HX⟩:∃ x,Hid (x = (plusL s q k).getD k 0):=⟨_,rfl⟩
                  obtain ⟨y,HY⟩:∃ y,Hid (y = q.l.getD k 0):=⟨_,rfl⟩
                  have cx:wr.cell? ⟨w.heap.size,k,none⟩ = some (.int .u32 (x.toNat:Int)):=by rw [hI.box.cell,cw_get _ k (by rw [len_plusL];omega),HX.out]
                  have cy:wr.cell? ⟨g7,k,none⟩ = some (.int .u32 (y.toNat:Int)):=by rw [hI.stt.cell,cw_get q.l k hlt,HY.out]
                  have fx:wr.frozen? ⟨w.heap.size,k,none⟩ = false:=hI.box.frozen _
                  go_wp2
                  go_region
                  go_wp2
                  go_roundw
                  case rel =>
                    refine ⟨k + 1,by omega,by go_num,?_⟩
                    have:=hI.store k (x + y) (by rw [HX.out,HY.out])
                    rw [← u32_add] at this
                    exact this
                  case measure => simp [intOf];omega
                · have hk8:k = 8:=by omega
                  subst hk8
                  have HB:Hid (Blk wr w.heap.size (cw r.l) 92):=by show Blk _ _ _ _;rw [HC.out,← plusL_eq];exact hI.box
                  have HRs:Hid (Blk wr (w.heap.size + 1) (cw z8) 92):=hI.res
                  have hbel:=hI.bel
                  clear hI HC
                  go_wp2_with (first
                    | (refine wpList_load_mid rfl 92 _ rfl w.heap.size 0 rfl (cw r.l) _ HB.out.range Tryz.underlying92 rfl Tryz.info92 ?_)
                    | (refine wpList_store_mid rfl 92 _ _ rfl (w.heap.size + 1) 0 (cw r.l).toArray rfl rfl (HRs.out.there 0 8 (Nat.le_refl 8)) Tryz.info92 (all_oneCell_toArray (cw_one _)) ?_))
                  have hB:=HRs.out.whole (cw r.l) rfl
                  refine bodyPost_ret (v:=.agg (cw r.l).toArray) (results_cell_row (by rfl) _ _ (w.heap.size + 1) 92 _ (0,0) _ rfl hB Tryz.underlying92 rfl Tryz.info92) rfl ⟨rfl,Below.setCells _ (by omega) _ _ _ hbel⟩
end Go.Proofs.YtphmmnffgknkcaaGreatDoor
namespace Go.Proofs.YtphmmnffgknkcaaGreatDoor
open Go.RowKit
set_option maxRecDepth 100000
structure RsInv (w:World) (g4:Nat) (m:List (BitVec 8)) (va:Value) (q:St) (wr:World):Prop where
  res:Blk wr w.heap.size (cb zb32) 39
  hh:Blk wr g4 (cw q.l) 92
  rd:Bytes wr g4 va m
  bel:Below w.heap.size w wr
  lt:w.heap.size < g4
structure OsInv (w:World) (g4 g6:Nat) (q:St) (k:Nat) (wr:World):Prop where
  res:Blk wr w.heap.size (cb zb32) 39
  hh:Blk wr g4 (cw q.l) 92
  out:Blk wr g6 (cb (outB q.l k)) 39
  bel:Below w.heap.size w wr
  lt4:w.heap.size < g4
  lt6:g4 < g6
theorem OsInv.store {w wr:World} {g4 g6:Nat} {q:St} {k:Nat} (h:OsInv w g4 g6 q k wr) (v:Int) (hv:v = (((q.l.getD (k / 4) 0 >>> (24 - 8 * (k % 4))).setWidth 8).toNat:Int)) :
    OsInv w g4 g6 q (k + 1) (wr.setCell ⟨g6,k,none⟩ (.int .u8 v)):=by
  subst hv
  have h4:=h.lt4
  have h6:=h.lt6
  exact ⟨h.res.other _ _ (by simp;omega),h.hh.other _ _ (by simp;omega),by have:=h.out.set k (.int .u8 (((q.l.getD (k / 4) 0 >>> (24 - 8 * (k % 4))).setWidth 8).toNat:Int));rw [cb_set] at this;exact this,h.bel.setCell (by simp;omega) _,h4,h6⟩
theorem wpStill_val {P:Program} {ops:Array Oper} {w:World} {Q:Act → Prop} {o:Oper} {rest:List Oper} {a:Act} (hgd:o.guard = none) (v:Value) (hr:(execOp a.eval o).run P w = .ok (.value v) w)
    (h:wpStill P ops w Q rest (a.put o.dst v)):wpStill P ops w Q (o :: rest) a:=by
  have hw:Region.wanted o (yielded ops a.tmps) = true:=by simp [Region.wanted,hgd]
  rw [wpStill,if_pos hw]
  unfold Oper.still
  rw [hr]
  exact ⟨rfl,h⟩
theorem slice_mid (ga off N cap k:Nat) (h1:64 * k + 64 ≤ N) (h2:N ≤ cap) (w:World) :
    (Instr.sliceAt 48 (.slice (some ⟨ga,off,none⟩) N cap) (some (.int .i64 (64 * (k:Int)))) (some (.int .i64 (64 * (k:Int) + 64))) none).run Tryz.prog w = .ok (.slice (some ⟨ga,off + 64 * k,none⟩) 64 (cap - 64 * k)) w:=by
  have e1:(64 * (k:Int) + 64).toNat = 64 * k + 64:=by omega
  have e2:(64 * (k:Int)).toNat = 64 * k:=by omega
  have hs:(sizeOf 5).run Tryz.prog w = .ok 1 w:=by kernel_rfl
  rw [run_sliceAt_slice w 48 _ _ _ _ (by kernel_rfl),run_slice_lh w 48 _ _ _ (by kernel_rfl) .i64 .i64 _ _ (by omega) (by omega) (by omega)]
  rw [show Tryz.prog.elem 48 = 5 from by kernel_rfl,hs]
  simp only [Result.andThen_ok,sliced,e1,e2,Nat.mul_one]
  rw [if_neg (by omega)]
  simp [Addr.add_mid]
theorem reads_mid {w:World} {g ga off N cap k:Nat} {m:List (BitVec 8)} (h:Bytes w g (.slice (some ⟨ga,off,none⟩) N cap) m) (hN:N = m.length) (hk:64 * k + 64 ≤ N) :
    Reads w (.slice (some ⟨ga,off + 64 * k,none⟩) 64 (cap - 64 * k)) ((m.drop (64 * k)).take 64):=by
  obtain ⟨ad,cap',hv,hcap,hx⟩:=h
  simp only [Value.slice.injEq] at hv
  obtain ⟨rfl,_,rfl⟩:=hv
  have hl:((m.drop (64 * k)).take 64).length = 64:=by simp;omega
  refine ⟨some ⟨ga,off + 64 * k,none⟩,cap - 64 * k,by rw [hl],by rw [hl];omega,(fun h => by cases h),fun _ => ⟨ga,off + 64 * k,rfl,fun j hj => ?_⟩⟩
  rw [hl] at hj
  obtain ⟨b',off',e1,e2,e3⟩:=hx (by omega)
  simp only [Option.some.injEq,Addr.mk.injEq,and_true] at e1
  obtain ⟨rfl,rfl⟩:=e1
  have:=e3 (64 * k + j) (by omega)
  rw [show off + 64 * k + j = off + (64 * k + j) by omega,this]
  congr 3
  simp [List.getElem?_take_of_lt hj]
set_option maxRecDepth 100000 in
set_option maxHeartbeats 2000000 in
theorem rsum_big (v:Value) (bs:List (BitVec 8)) (w:World) (hR:Reads w v bs) (hl:bs.length < 140737488355000) :
    Calls Tryz.prog 30 #[v] w fun e w' => e = .returned (.agg (cb (dig bs)).toArray) ∧ Below w.heap.size w w':=by
  have HR:Hid (Reads w v bs):=hR
  obtain ⟨ad,cap,hv,_,_,_⟩:=hR
  obtain ⟨n,HNN⟩:∃ n,Hid (n = bs.length):=⟨_,rfl⟩
  rw [← HNN.out] at hv hl
  subst hv
  go_enter Tryz.func30,Tryz.ntmps30
  go_wp2_with (at_builtin;refine wpList_appendB rfl (.tmp 8) (.tmp 9) rfl (w.heap.size + 1) _ [] rfl (OwnB.nil _ _) _ bs rfl (HR.out.below ((Below.refl _ _).alloc (Nat.le_refl _) _)) (by rw [← HNN.out];simp;omega) (by simp) ?_;intro v1 w1 hown1 hb1 _;refine Hid.out ?_)
  generalize h0:Obj.cells _ 39 = o32 at *
  have ho:o32 = Obj.cells (cb zb32).toArray 39:=h0.symm
  clear h0
  subst ho
  have HB1:Hid (Below w.heap.size w w1):=((Below.refl _ _).alloc (Nat.le_refl _) _).trans (hb1.mono (by omega))
  have HR1:Hid (Blk w1 w.heap.size (cb zb32) 39):=(Blk.new w (cb zb32) 39).below hb1 (by omega)
  have HO1:Hid (OwnB w1 (w.heap.size + 1) v1 bs):=by show OwnB _ _ _ _;simpa using hown1
  have hs1:w.heap.size + 1 ≤ w1.heap.size:=by have:=hb1.size;simp at this;omega
  clear hown1 hb1 HR
  unfold Hid
  go_wp2_with fail
  refine (rpad_any n _).mono ?_
  rintro e w2 ⟨v2,rfl,hr2,hb2⟩
  have hp9:(pad n).length < 80:=by rw [len_pad];unfold padN;omega
  go_wp2_with (at_builtin;refine wpList_appendB rfl (.tmp 11) (.tmp 15) rfl (w.heap.size + 1) _ bs rfl (HO1.out.below hb2 (Nat.le_refl _)) _ (pad n) rfl hr2 (by rw [← HNN.out];omega) (by have:=hb2.size;omega) ?_;intro v3 w3 hown3 hb3 _;refine Hid.out ?_)
  have HB3:Hid (Below w.heap.size w w3):=HB1.out.trans ((hb2.mono HB1.out.size).trans (hb3.mono (by omega)))
  have HR3:Hid (Blk w3 w.heap.size (cb zb32) 39):=(HR1.out.below hb2 HR1.out.lt).below hb3 (by omega)
  have HO3:Hid (OwnB w3 (w.heap.size + 1) v3 (bs ++ pad n)):=hown3
  have hs3:w.heap.size + 1 ≤ w3.heap.size:=by have:=hb2.size;have:=hb3.size;omega
  clear hown3 hb3 hb2 hr2 HO1 HR1 HB1 hs1
  unfold Hid
  go_wp2_with fail
  refine (rfirst_any _).mono ?_
  rintro e w4 ⟨rfl,hb4⟩
  go_wp2_with (refine wpList_store_mid rfl 92 _ _ rfl _ 0 (cw st0.l).toArray rfl rfl ?_ Tryz.info92 (all_oneCell_toArray (cw_one _)) ?_;exact Blk.there (Blk.new_at rfl (cw z8) _) _ _ (Nat.le_refl 8);refine Hid.out ?_)
  generalize h0:Obj.cells #[.int .u32 0,_,_,_,_,_,_,_] 92 = o8
  have ho:o8 = Obj.cells (cw z8).toArray 92:=h0.symm
  clear h0
  subst ho
  have hI:RsInv w w4.heap.size (bs ++ pad n) v3 st0 ((w4.alloc (.cells (cw z8).toArray 92)).setCells w4.heap.size 0 (cw st0.l)):=by
    have hs4:=hb4.size
    have b5:Below w4.heap.size w4 ((w4.alloc (.cells (cw z8).toArray 92)).setCells w4.heap.size 0 (cw st0.l)):=Below.setCells _ (Nat.le_refl _) _ _ _ ((Below.refl _ _).alloc (Nat.le_refl _) _)
    have hR4:=HR3.out.below hb4 HR3.out.lt
    refine ⟨hR4.below b5 hR4.lt,(Blk.new w4 _ _).whole _ rfl,?_,HB3.out.trans ((hb4.mono HB3.out.size).trans (b5.mono (by omega))),by omega⟩
    exact ((HO3.out.reads.below hb4).bytes (Nat.le_refl _)).below b5
  clear HB3 HR3 HO3 hs3 hb4
  generalize World.setCells _ _ _ _ = w5 at *
  generalize w4.heap.size = g4 at *
  unfold Hid
  as_aux_lemma =>
    have HD:Hid (∀ q,q = blocks ((bs ++ pad n).length / 64) st0 (bs ++ pad n) → outB q.l 32 = dig bs):=by
      intro q hq
      rw [dig,← HNN.out,← hq]
    have HM:Hid ((bs ++ pad n).length % 64 = 0):=by
      show _ = _
      rw [List.length_append,len_pad,← HNN.out];unfold padN;omega
    have HLm:Hid ((bs ++ pad n).length < 140737488360000 ∧ 0 < (bs ++ pad n).length):=by
      show _ ∧ _
      rw [List.length_append,← HNN.out,len_pad] at *;omega
    generalize bs ++ pad n = m at *
    obtain ⟨N,HNm⟩:∃ N,Hid (N = m.length):=⟨_,rfl⟩
    obtain ⟨ad3,cap3,hv3,hcap3,hpos3⟩:=hI.rd
    obtain ⟨ga,offa,rfl,_,_⟩:=hpos3 HLm.out.2
    rw [← HNm.out] at hv3 hcap3
    subst hv3
    have hN:=HLm.out
    rw [← HNm.out] at hN
    have hN0:N % 64 = 0:=by rw [HNm.out];exact HM.out
    clear hpos3 HLm HM hp9 hl
    go_wp2
    go_loopw [5] (fun i wr => ∃ k:Nat,64 * k ≤ N ∧ i = .int .i64 (64 * (k:Int)) ∧ RsInv w g4 m (.slice (some ⟨ga,offa,none⟩) N cap3) (blocks k st0 m) wr) (fun i _ => N - (intOf i).toNat)
    case atStart => exact ⟨0,by omega,rfl,hI⟩
    case round =>
      clear hI
      obtain ⟨k,hk,rfl,hI⟩:=hrel
      by_cases hlt:64 * k + 64 ≤ N
      · have HBl:Hid (blocks (k + 1) st0 m = compress (blocks k st0 m) ((m.drop (64 * k)).take 64)):=blocks_last k st0 m
        generalize blocks k st0 m = q at *
        have HRd:Hid (∀ wx,Bytes wx g4 (.slice (some ⟨ga,offa,none⟩) N cap3) m → Reads wx (.slice (some ⟨ga,offa + 64 * k,none⟩) 64 (cap3 - 64 * k)) ((m.drop (64 * k)).take 64)):=fun wx hx => reads_mid hx HNm.out hlt
        have H64:Hid (((m.drop (64 * k)).take 64).length = 64):=by show _ = _;have:=HNm.out;simp;omega
        have hsl:=slice_mid ga offa N cap3 k (by omega) (by omega)
        have hwr:IntKind.i64.wrap (64 * (k:Int) + 64) = 64 * (k:Int) + 64:=by rw [IntKind.wrap_i64];omega
        generalize (m.drop (64 * k)).take 64 = bk at *
        go_wp2
        refine wp_region_still_tail 6 (by kernel_rfl) (by kernel_rfl) ?_
        simp only [List.take_succ_cons,List.take_zero,List.drop_succ_cons,List.drop_zero]
        refine wpStill_load rfl 92 _ rfl g4 0 rfl (cw q.l) _ hI.hh.drew.range Tryz.underlying92 rfl Tryz.info92 ?_
        simp only [Act.put,List.setIfInBounds_toArray,List.set_cons_zero,List.set_cons_succ]
        refine wpStill_val rfl (.slice (some ⟨ga,offa,none⟩) N cap3) (by simp [go_sem]) ?_
        simp only [Act.put,List.setIfInBounds_toArray,List.set_cons_zero,List.set_cons_succ]
        refine wpStill_val rfl (.int .i64 (64 * (k:Int))) (by simp [go_sem]) ?_
        simp only [Act.put,List.setIfInBounds_toArray,List.set_cons_zero,List.set_cons_succ]
        refine wpStill_val rfl (.int .i64 (64 * (k:Int))) (by simp [go_sem]) ?_
        simp only [Act.put,List.setIfInBounds_toArray,List.set_cons_zero,List.set_cons_succ]
        refine wpStill_val rfl (.int .i64 (64 * (k:Int) + 64)) (by simp [go_sem,hwr]) ?_
        simp only [Act.put,List.setIfInBounds_toArray,List.set_cons_zero,List.set_cons_succ]
        refine wpStill_val rfl (.slice (some ⟨ga,offa + 64 * k,none⟩) 64 (cap3 - 64 * k)) (by simp [execOp,Act.eval,hsl]) ?_
        simp only [Act.put,List.setIfInBounds_toArray,List.set_cons_zero,List.set_cons_succ]
        refine wpStill_nil ?_
        clear hsl hwr
        go_wp2_with fail
        refine (rblock_any q bk _ _ H64.out (HRd.out _ (by exact hI.rd))).mono ?_
        rintro e w6 ⟨rfl,hb6⟩
        have hb6':Below wr.heap.size wr w6:=⟨hb6.os,hb6.tape,hb6.output,hb6.size,hb6.block⟩
        have hh6:=hI.hh.below hb6' hI.hh.lt
        have hK:RsInv w g4 m (.slice (some ⟨ga,offa,none⟩) N cap3) (compress q bk) (w6.setCells g4 0 (cw (compress q bk).l)):=by
          have hlt4:=hI.lt
          exact ⟨Blk.others _ _ _ _ (hI.res.below hb6' hI.res.lt) (by omega),hh6.whole _ ((len_l _).trans (len_l _).symm),(hI.rd.below hb6').only (Only.setCells _ _ _ (Only.refl _ _)),Below.setCells _ (by omega) _ _ _ (hI.bel.trans (hb6'.mono hI.bel.size)),hlt4⟩
        generalize compress q bk = q' at *
        go_wp2_with (refine wpList_store_mid rfl 92 _ _ rfl g4 0 (cw q'.l).toArray rfl rfl (hh6.there 0 8 (Nat.le_refl 8)) Tryz.info92 (all_oneCell_toArray (cw_one _)) ?_;refine Hid.out ?_)
        clear hI hh6 hb6 hb6'
        generalize World.setCells _ _ _ _ = w7 at *
        unfold Hid
        go_wp2
        go_roundw
        case rel => exact ⟨k + 1,by omega,by go_num,by rw [HBl.out];exact hK⟩
        case measure => simp [intOf];omega
      · have hkN:N = 64 * k:=by omega
        have HQ:Hid (outB (blocks k st0 m).l 32 = dig bs):=HD.out _ (by rw [← HNm.out,hkN];congr 1;omega)
        clear HD HNm HNN
        subst hkN
        generalize blocks k st0 m = q at *
        have hJ:OsInv w g4 wr.heap.size q 0 (wr.alloc (.cells (cb zb32).toArray 39)):=
          ⟨hI.res.alloc _,hI.hh.alloc _,Blk.new wr (cb zb32) _,hI.bel.alloc hI.bel.size _,hI.lt,hI.hh.lt⟩
        have hwr:IntKind.i64.wrap (64 * (k:Int) + 64) = 64 * (k:Int) + 64:=by rw [IntKind.wrap_i64];omega
        have hN1:¬ (64 * (k:Int) + 64 ≤ ((64 * k:Nat):Int)):=by omega
        have hN2:¬ (64 * (k:Int) + 64 ≤ 64 * (k:Int)):=by omega
        clear hI hN0 hlt hk hN hcap3
        as_aux_lemma =>
          go_wp2
          generalize h0:Obj.cells _ 39 = o32
          have ho:o32 = Obj.cells (cb zb32).toArray 39:=h0.symm
          clear h0
          subst ho
          clear hN1 hN2 hwr
          generalize World.alloc wr _ = w8 at *
          generalize wr.heap.size = g6 at *
          go_loopw [7] (fun i wx => ∃ j:Nat,j ≤ 32 ∧ i = .int .i64 j ∧ OsInv w g4 g6 q j wx) (fun i _ => 32 - (intOf i).toNat)
          case atStart => exact ⟨0,by omega,rfl,hJ⟩
          case round =>
            clear hJ
            obtain ⟨j,hj,rfl,hI⟩:=hrel
            by_cases hlj:j < 32
            · obtain ⟨x,HX⟩:∃ x,Hid (x = q.l.getD (j / 4) 0):=⟨_,rfl⟩
              have cx:wr.cell? ⟨g4,j / 4,none⟩ = some (.int .u32 (x.toNat:Int)):=by rw [hI.hh.cell,cw_get q.l _ (show j / 4 < 8 by omega),HX.out]
              obtain ⟨o,cT⟩:∃ o,wr.cell? ⟨g6,j,none⟩ = some o:=⟨_,by rw [hI.out.cell,cb_get _ _ (by rw [len_outB];omega)]⟩
              have fT:wr.frozen? ⟨g6,j,none⟩ = false:=hI.out.frozen _
              obtain ⟨d,s,hd,hs,hjd⟩:∃ d s,d < 8 ∧ s < 4 ∧ j = 4 * d + s:=⟨j / 4,j % 4,by omega,by omega,by omega⟩
              have hj4:j / 4 = d:=by omega
              have e1:(j:Int).tdiv 4 = (d:Int):=by rw [Int.tdiv_eq_ediv_of_nonneg (by omega)];omega
              have e2:(j:Int).tmod 4 = (s:Int):=by rw [Int.tmod_eq_emod_of_nonneg (by omega)];omega
              have e3:IntKind.i64.wrap (d:Int) = (d:Int):=by rw [IntKind.wrap_i64];omega
              have e4:IntKind.i64.wrap (8 * (s:Int)) = 8 * (s:Int):=by rw [IntKind.wrap_i64];omega
              have e5:IntKind.i64.wrap (24 - 8 * (s:Int)) = 24 - 8 * (s:Int):=by rw [IntKind.wrap_i64];omega
              have e6:IntKind.u64.wrap (24 - 8 * (s:Int)) = 24 - 8 * (s:Int):=by rw [IntKind.wrap_u64];omega
              have e7:(24 - 8 * (s:Int)).toNat = 24 - 8 * s:=by omega
              rw [hj4] at cx
              have HJ:Hid (j = 4 * d + s ∧ s < 4 ∧ d < 8):=⟨hjd,hs,hd⟩
              have HI:Hid (OsInv w g4 g6 q j wr):=hI
              have HX':Hid (x = q.l.getD d 0):=by rw [← hj4];exact HX
              clear hI hjd hj4
              clear HX HQ
              go_wp2_with fail
              refine ⟨⟨j + 1,by omega,by go_num,?_⟩,by simp [intOf];omega⟩
              refine HI.out.store _ ?_
              have hh:=HJ.out
              rw [show j / 4 = d by omega,show j % 4 = s by omega,← HX'.out,shr_byte]
            · have hj8:j = 32:=by omega
              subst hj8
              obtain ⟨cs,HC⟩:∃ x,Hid (x = cb (outB q.l 32)):=⟨_,rfl⟩
              have HO:Hid (Blk wr g6 cs 39):=by rw [HC.out];exact hI.out
              have HL:Hid (cs.length = 32):=by show _ = _;rw [HC.out,cb_len,len_outB]
              have HZ:Hid ((Tryz.prog.info? 39).map (·.size) = some cs.length):=by show _ = _;rw [HL.out];exact Tryz.info39
              have H1:Hid (∀ v ∈ cs,v.oneCell' = true):=by show ∀ _,_;rw [HC.out];exact cb_one _
              have HR:Hid (Blk wr w.heap.size (cb zb32) 39):=hI.res
              have hbel:=hI.bel
              clear hI
              go_wp2_with (first
                | (refine wpList_load_mid rfl 39 _ rfl g6 0 rfl cs _ HO.out.range Tryz.underlying39 rfl HZ.out ?_)
                | (refine wpList_store_mid rfl 39 _ _ rfl w.heap.size 0 cs.toArray rfl rfl (HR.out.there 0 _ (by rw [List.size_toArray,HL.out,cb_len,len_zb32];omega)) (by simpa using HZ.out) (all_oneCell_toArray H1.out) ?_))
              have hB:=HR.out.whole cs (by rw [HL.out,cb_len,len_zb32])
              refine bodyPost_ret (v:=.agg cs.toArray) (results_cell_row (by rfl) _ _ w.heap.size 39 _ (0,0) _ rfl hB Tryz.underlying39 rfl (by simpa using HZ.out)) rfl ⟨by rw [HC.out,HQ.out],Below.setCells _ (Nat.le_refl _) _ _ _ hbel⟩
end Go.Proofs.YtphmmnffgknkcaaGreatDoor
namespace Go.Proofs.YtphmmnffgknkcaaGreatDoor
open Go.RowKit
set_option maxRecDepth 100000
theorem Blk.reads {w:World} {g:Nat} {bs:List (BitVec 8)} {t:TypeId} (h:Blk w g (cb bs) t) {n c:Nat} (hn:n = bs.length) (hc:bs.length ≤ c):Reads w (.slice (some ⟨g,0,none⟩) n c) bs:=by
  subst hn
  exact ⟨_,_,rfl,hc,(fun h => by cases h),fun _ => ⟨g,0,rfl,fun j hj => by rw [h.cell,Nat.zero_add,cb_get _ j hj]⟩⟩
end Go.Proofs.YtphmmnffgknkcaaGreatDoor
namespace Go.Proofs.YtphmmnffgknkcaaGreatDoor
open Go.RowKit
set_option maxRecDepth 100000
def ReadsL (w:World) (v:Value) (ls:List (List (BitVec 8))):Prop:=
  ∃ ad cap,v = .slice ad ls.length cap ∧ ls.length ≤ cap ∧ (ad = none → cap = 0) ∧ (0 < ls.length → ∃ b off,ad = some ⟨b,off,none⟩ ∧ ∀ j,j < ls.length → ∃ vj,w.cell? ⟨b,off + j,none⟩ = some vj ∧ Reads w vj (ls.getD j []))
theorem ReadsL.below {w w':World} {v:Value} {ls:List (List (BitVec 8))} (h:ReadsL w v ls) (hb:Below w.heap.size w w'):ReadsL w' v ls:=by
  obtain ⟨ad,cap,hv,hc,hn,hx⟩:=h
  refine ⟨ad,cap,hv,hc,hn,fun hp => ?_⟩
  obtain ⟨b,off,h1,h2⟩:=hx hp
  refine ⟨b,off,h1,fun j hj => ?_⟩
  obtain ⟨vj,h3,h4⟩:=h2 j hj
  exact ⟨vj,by rw [hb.cell (p:=⟨b,off + j,none⟩) (block_lt_of_cell h3)];exact h3,h4.below hb⟩
theorem flat_take (ls:List (List (BitVec 8))) (k:Nat) (h:k < ls.length):(ls.take (k + 1)).flatten = (ls.take k).flatten ++ ls.getD k []:=by
  rw [List.take_add_one,List.getElem?_eq_getElem h,List.flatten_append]
  simp [h]
theorem flat_le (ls:List (List (BitVec 8))) (k:Nat):(ls.take k).flatten.length ≤ ls.flatten.length:=by
  have:=congrArg (fun l => (List.flatten l).length) (List.take_append_drop k ls)
  simp only [List.flatten_append,List.length_append] at this
  omega
set_option maxHeartbeats 400000 in
theorem rjoin_any (v:Value) (ls:List (List (BitVec 8))) (w:World) (hR:ReadsL w v ls) (hl:ls.flatten.length ≤ 140737488355328) (hn:ls.length < 4611686018427387904) :
    Calls Tryz.prog 46 #[v] w fun e w' => ∃ v',e = .returned v' ∧ Reads w' v' ls.flatten ∧ Below w.heap.size w w':=by
  have HR:Hid (ReadsL w v ls):=hR
  obtain ⟨ad,cap,hv,hcap,_,_⟩:=hR
  obtain ⟨n,HNN⟩:∃ n,Hid (n = ls.length):=⟨_,rfl⟩
  rw [← HNN.out] at hv hcap hn
  subst hv
  go_enter Tryz.func46,Tryz.ntmps46
  go_wp2
  go_loopw [3,4] (fun u i wr => ∃ k:Nat,k ≤ n ∧ i = .int .i64 k ∧ RpInv w (ls.take k).flatten u wr) (fun _ i _ => n - (intOf i).toNat)
  case atStart => exact ⟨0,by omega,rfl,OwnB.nil _ _,Below.refl _ _⟩
  case round =>
    obtain ⟨k,hk,rfl,hI⟩:=hrel
    have HI:Hid (RpInv w (ls.take k).flatten u3 wr):=hI
    by_cases hlt:k < n
    · obtain ⟨ad',cap',hv',_,_,hx⟩:=HR.out.below hI.bel
      rw [← HNN.out] at hv' hx
      simp only [Value.slice.injEq,true_and] at hv'
      obtain ⟨rfl,rfl⟩:=hv'
      obtain ⟨b,off,rfl,hx2⟩:=hx (by omega)
      obtain ⟨vj,cj,hj⟩:=hx2 k hlt
      have HJ:Hid (Reads wr vj (ls.getD k [])):=hj
      have HF:Hid ((ls.take (k + 1)).flatten = (ls.take k).flatten ++ ls.getD k []):=flat_take ls k (by rw [← HNN.out];exact hlt)
      have HL:Hid ((ls.take k).flatten.length + (ls.getD k []).length ≤ 140737488355328):=by
        have h1:=flat_le ls (k + 1)
        rw [HF.out,List.length_append] at h1
        exact Nat.le_trans h1 hl
      clear hx hx2 hj hI
      go_wp2_with (at_builtin;refine wpList_appendB rfl (.tmp 11) (.tmp 15) rfl w.heap.size _ (ls.take k).flatten rfl HI.out.own _ (ls.getD k []) rfl HJ.out HL.out HI.out.bel.size ?_;intro v2 w2 hown2 hb2 _)
      have hJ:RpInv w (ls.take (k + 1)).flatten v2 w2:=⟨by rw [HF.out];exact hown2,HI.out.bel.trans hb2⟩
      clear hown2 hb2 HI
      go_roundw
      case rel => exact ⟨k + 1,by omega,by go_num,hJ⟩
      case measure => simp [intOf];omega
    · have hkn:k = n:=by omega
      subst hkn
      have HV:Hid (Reads wr u3 ls.flatten):=by
        have:=hI.own.reads
        rw [HNN.out,List.take_of_length_le (Nat.le_refl _)] at this
        exact this
      have hbel:=hI.bel
      clear hI HI HR
      go_wp2
      go_ret
      exact ⟨_,rfl,HV.out,hbel⟩
end Go.Proofs.YtphmmnffgknkcaaGreatDoor
namespace Go.Proofs.YtphmmnffgknkcaaGreatDoor
open Go.RowKit
set_option maxRecDepth 100000
theorem HashIs.only {t:TypeId} {w w':World} {g g':Nat} {m:List (BitVec 8)} (h:HashIs t w g m) (ho:Only g' w w') (hne:g ≠ g'):HashIs t w' g m:=by
  obtain ⟨s,blk,h1,h2⟩:=h
  exact ⟨s,blk,h1.only ho hne,h2⟩
theorem readsL_two {w:World} {va vb:Value} {la lb:List (BitVec 8)} (ha:Reads w va la) (hb:Reads w vb lb) :
    ReadsL (w.alloc (.cells #[va,vb] 48)) (.slice (some ⟨w.heap.size,0,none⟩) 2 2) [la,lb]:=by
  have hbl:Below w.heap.size w (w.alloc (.cells #[va,vb] 48)):=(Below.refl _ _).alloc (Nat.le_refl _) _
  refine ⟨_,_,rfl,Nat.le_refl _,(fun h => by cases h),fun _ => ⟨w.heap.size,0,rfl,fun j hj => ?_⟩⟩
  match j,hj with
  | 0,_ => exact ⟨va,by rw [World.cell?_alloc_mark];rfl,ha.below hbl⟩
  | 1,_ => exact ⟨vb,by rw [World.cell?_alloc_mark];rfl,hb.below hbl⟩
theorem readsL_three {w:World} {va vb vc:Value} {la lb lc:List (BitVec 8)} (ha:Reads w va la) (hb:Reads w vb lb) (hc:Reads w vc lc) :
    ReadsL (w.alloc (.cells #[va,vb,vc] 48)) (.slice (some ⟨w.heap.size,0,none⟩) 3 3) [la,lb,lc]:=by
  have hbl:Below w.heap.size w (w.alloc (.cells #[va,vb,vc] 48)):=(Below.refl _ _).alloc (Nat.le_refl _) _
  refine ⟨_,_,rfl,Nat.le_refl _,(fun h => by cases h),fun _ => ⟨w.heap.size,0,rfl,fun j hj => ?_⟩⟩
  match j,hj with
  | 0,_ => exact ⟨va,by rw [World.cell?_alloc_mark];rfl,ha.below hbl⟩
  | 1,_ => exact ⟨vb,by rw [World.cell?_alloc_mark];rfl,hb.below hbl⟩
  | 2,_ => exact ⟨vc,by rw [World.cell?_alloc_mark];rfl,hc.below hbl⟩
theorem below_alloc (w:World) (o:Obj):Below w.heap.size w (w.alloc o):=(Below.refl _ _).alloc (Nat.le_refl _) _
end Go.Proofs.YtphmmnffgknkcaaGreatDoor
namespace Go.Proofs.YtphmmnffgknkcaaGreatDoor
open Go.RowKit
set_option maxRecDepth 100000
end Go.Proofs.YtphmmnffgknkcaaGreatDoor
namespace Go.Proofs.YtphmmnffgknkcaaGreatDoor
open Go.RowKit
set_option maxRecDepth 100000
theorem wpAny_enter {P:Program} {md:Region.Mode} {ops:Array Oper} {Q:Exit → Act → World → Prop} {fuel:Nat} {listed:Array Bool} {a:Act} {w:World} (i:Nat) {oi:Oper} {f:FuncId} {args:Array Value} {R:Ending → World → Prop}
    (hr:Region.ready md ops listed = [i]) (hi:ops[i]? = some oi) (hw:Region.wanted oi (yielded ops a.tmps) = true) (he:(execOp a.eval oi).run P w = .ok (.enter f args) w) (hc:Calls P f args w R)
    (h:∀ e w',R e w' → ∃ v,e = .returned v ∧ wpAny P md ops Q fuel (listed.setIfInBounds i true) (a.put oi.dst v) w'):wpAny P md ops Q (fuel + 1) listed a w:=by
  refine wpAny_all hr (by simp) (fun j hj => ?_)
  obtain rfl:j = i:=by simpa using hj
  unfold wpOp
  rw [hi]
  simp only [hw,if_true]
  left
  unfold Oper.wp
  rw [he,Oper.upon_enter]
  refine hc.mono ?_
  intro e w' hR
  obtain ⟨v,rfl,hv⟩:=h e w' hR
  exact hv
theorem wpAny_step {P:Program} {md:Region.Mode} {ops:Array Oper} {Q:Exit → Act → World → Prop} {fuel:Nat} {listed:Array Bool} {a:Act} {w:World} (i:Nat) {oi:Oper} (v:Value) (w':World)
    (hr:Region.ready md ops listed = [i]) (hi:ops[i]? = some oi) (hw:Region.wanted oi (yielded ops a.tmps) = true) (he:(execOp a.eval oi).run P w = .ok (.value v) w')
    (h:wpAny P md ops Q fuel (listed.setIfInBounds i true) (a.put oi.dst v) w'):wpAny P md ops Q (fuel + 1) listed a w:=by
  refine wpAny_all hr (by simp) (fun j hj => ?_)
  obtain rfl:j = i:=by simpa using hj
  unfold wpOp
  rw [hi]
  simp only [hw,if_true]
  left
  unfold Oper.wp
  rw [he,Oper.upon_value]
  exact h
end Go.Proofs.YtphmmnffgknkcaaGreatDoor
namespace Go.Proofs.YtphmmnffgknkcaaGreatDoor
open Go.RowKit
set_option maxRecDepth 100000
theorem slice_dig (g:Nat) (w:World):(Instr.sliceAt 39 (.pointer (some ⟨g,0,none⟩)) none none none).run Tryz.prog w = .ok (.slice (some ⟨g,0,none⟩) 32 32) w:=by kernel_rfl
end Go.Proofs.YtphmmnffgknkcaaGreatDoor
namespace Go.Proofs.YtphmmnffgknkcaaGreatDoor
open Go.RowKit
set_option maxRecDepth 100000
def numL (n:Nat):Nat → List (BitVec 8)
  | 0 => List.replicate 8 0
  | k + 1 => (numL n k).set (7 - k) (BitVec.ofNat 8 (n / 2 ^ (8 * k)))
structure NmInv (w:World) (g:Nat) (l:List (BitVec 8)) (t:TypeId) (wr:World):Prop where
  blk:Blk wr g (cb l) t
  bel:Below w.heap.size w wr
  le:w.heap.size ≤ g
theorem NmInv.set {w wr:World} {g:Nat} {n k:Nat} {t:TypeId} (h:NmInv w g (numL n k) t wr) (v:Int) (hv:v = ((BitVec.ofNat 8 (n / 2 ^ (8 * k))).toNat:Int)):NmInv w g (numL n (k + 1)) t (wr.setCell ⟨g,7 - k,none⟩ (.int .u8 v)):=by
  subst hv
  exact ⟨by have:=h.blk.set (7 - k) (.int .u8 ((BitVec.ofNat 8 (n / 2 ^ (8 * k))).toNat:Int));rw [cb_set] at this;exact this,h.bel.setCell h.le _,h.le⟩
end Go.Proofs.YtphmmnffgknkcaaGreatDoor
namespace Go.Proofs.YtphmmnffgknkcaaGreatDoor
open Go.RowKit
set_option maxRecDepth 100000
theorem make_room (w:World):(Instr.makeSlice 48 (.int .i64 0) (.int .i64 128)).run Tryz.prog w =
    .ok (.slice (some ⟨w.heap.size,0,none⟩) 0 128) (w.alloc (.cells (cb (List.replicate 128 0)).toArray 5)):=by
  obtain ⟨i0,hi,hz0,hz1,hz2⟩:=info_parts Tryz.infob
  rw [run_make (P:=Tryz.prog) w 48 5 i0 _ Tryz.underlying48 hi hz0 .i64 .i64 _ _ (by omega) (by omega) (by rw [hz2];omega) (by omega)]
  rw [hz1,Nat.mul_one]
  congr 3
  kernel_rfl
theorem own_room (w:World) (base:Nat) (hb:base ≤ w.heap.size):OwnB (w.alloc (.cells (cb (List.replicate 128 0)).toArray 5)) base (.slice (some ⟨w.heap.size,0,none⟩) 0 128) []:=by
  refine ⟨rfl,Or.inr ⟨w.heap.size,128,_,rfl,hb,heap_alloc_new w _,Nat.zero_le _,by decide,by simp [cb_len],rfl⟩⟩
theorem OwnB.cut {w:World} {base:Nat} {v:Value} {l:List (BitVec 8)} (h:OwnB w base v l) (hne:l ≠ []):∃ g cap,v = .slice (some ⟨g,0,none⟩) l.length cap ∧ l.length ≤ cap ∧ Reads w (.slice (some ⟨g,0,none⟩) l.length l.length) l:=by
  obtain ⟨ad,cap,hv,hc,hnn,hx⟩:=h.reads
  obtain ⟨h1,h2⟩:=h
  rcases h2 with ⟨rfl,h0⟩ | ⟨g,cap',cur,rfl,hg,hh,hc',hm,hs,ht⟩
  · exact absurd (List.eq_nil_of_length_eq_zero h0) hne
  · cases hv
    exact ⟨g,cap,rfl,hc',_,_,rfl,Nat.le_refl _,(fun h => by cases h),hx⟩
set_option maxHeartbeats 400000 in
theorem tagged_any (c:BitVec 8) (v:Value) (ls:List (List (BitVec 8))) (w:World) (hR:ReadsL w v ls) (hl:ls.flatten.length < 140737488355328) (hn:ls.length < 4611686018427387904) :
    Calls Tryz.prog 74 #[.int .u8 (c.toNat:Int),v] w fun e w' => ∃ v',e = .returned v' ∧ Reads w' v' (c :: ls.flatten) ∧ Below w.heap.size w w':=by
  have HR:Hid (ReadsL w v ls):=hR
  obtain ⟨ad,cap,hv,hcap,_,_⟩:=hR
  obtain ⟨n,HNN⟩:∃ n,Hid (n = ls.length):=⟨_,rfl⟩
  rw [← HNN.out] at hv hcap hn
  subst hv
  have hm:=make_room w
  have HO:Hid (OwnB (w.alloc (.cells (cb (List.replicate 128 0)).toArray 5)) w.heap.size (.slice (some ⟨w.heap.size,0,none⟩) 0 128) []):=own_room w _ (Nat.le_refl _)
  have HB0:Hid (Below w.heap.size w (w.alloc (.cells (cb (List.replicate 128 0)).toArray 5))):=below_alloc _ _
  have HS0:Hid (w.heap.size + 1 ≤ (w.alloc (.cells (cb (List.replicate 128 0)).toArray 5)).heap.size):=by show _ ≤ _;simp
  generalize w.alloc (.cells (cb (List.replicate 128 0)).toArray 5) = w0 at *
  generalize Value.slice (some ⟨w.heap.size,0,none⟩) 0 128 = v0 at *
  go_enter Tryz.func74,Tryz.ntmps74
  go_wp2_with (at_builtin;refine wpList_appendB rfl (.tmp 8) (.tmp 10) rfl w.heap.size _ [] rfl (HO.out.below (below_alloc _ _) (Nat.le_refl _)) _ [c] rfl (reads_val w0 _ c rfl) (by simp) (by have:=HS0.out;simp;omega) ?_;intro v1 w1 hown1 hb1 _)
  have hI:RpInv w [c] v1 w1:=⟨hown1,HB0.out.trans (((Below.refl _ _).alloc (by have:=HS0.out;omega) _).trans hb1)⟩
  clear hown1 hb1 HO HB0 hm HS0
  go_loopw [5,14] (fun u i wr => ∃ k:Nat,k ≤ n ∧ i = .int .i64 k ∧ RpInv w (c :: (ls.take k).flatten) u wr) (fun _ i _ => n - (intOf i).toNat)
  case atStart => exact ⟨0,by omega,rfl,hI⟩
  case round =>
    clear hI
    obtain ⟨k,hk,rfl,hI⟩:=hrel
    have HI:Hid (RpInv w (c :: (ls.take k).flatten) u5 wr):=hI
    by_cases hlt:k < n
    · obtain ⟨ad',cap',hv',_,_,hx⟩:=HR.out.below hI.bel
      rw [← HNN.out] at hv' hx
      simp only [Value.slice.injEq,true_and] at hv'
      obtain ⟨rfl,rfl⟩:=hv'
      obtain ⟨b,off,rfl,hx2⟩:=hx (by omega)
      obtain ⟨vj,cj,hj⟩:=hx2 k hlt
      have HJ:Hid (Reads wr vj (ls.getD k [])):=hj
      have HF:Hid ((ls.take (k + 1)).flatten = (ls.take k).flatten ++ ls.getD k []):=flat_take ls k (by rw [← HNN.out];exact hlt)
      have HL:Hid ((c :: (ls.take k).flatten).length + (ls.getD k []).length ≤ 140737488355328):=by
        have h1:=flat_le ls (k + 1)
        rw [HF.out,List.length_append] at h1
        show _ ≤ _
        rw [List.length_cons]
        omega
      clear hx hx2 hj hI
      go_wp2_with (at_builtin;refine wpList_appendB rfl (.tmp 18) (.tmp 19) rfl w.heap.size _ (c :: (ls.take k).flatten) rfl HI.out.own _ (ls.getD k []) rfl HJ.out HL.out HI.out.bel.size ?_;intro v2 w2 hown2 hb2 _)
      have hJ:RpInv w (c :: (ls.take (k + 1)).flatten) v2 w2:=⟨by rw [HF.out];exact hown2,HI.out.bel.trans hb2⟩
      clear hown2 hb2 HI
      go_wp2
      go_roundw
      case rel => exact ⟨k + 1,by omega,by go_num,hJ⟩
      case measure => simp [intOf];omega
    · have hkn:k = n:=by omega
      subst hkn
      rw [HNN.out,List.take_of_length_le (Nat.le_refl _)] at hI
      obtain ⟨g,cap',rfl,hc',hr⟩:=hI.own.cut (by simp)
      have HV:Hid (Reads wr (.slice (some ⟨g,0,none⟩) (c :: ls.flatten).length (c :: ls.flatten).length) (c :: ls.flatten)):=hr
      have hbel:=hI.bel
      have hcl:(c :: ls.flatten).length < 140737488355329:=by rw [List.length_cons];omega
      clear hI HI HR hr hl
      generalize (c :: ls.flatten).length = m at *
      go_wp2
      go_ret
      exact ⟨_,rfl,HV.out,hbel⟩
end Go.Proofs.YtphmmnffgknkcaaGreatDoor
namespace Go.Proofs.YtphmmnffgknkcaaGreatDoor
open Go.RowKit
set_option maxRecDepth 100000
theorem wpAnyH_enter {P:Program} {md:Region.Mode} {ops:Array Oper} {Q:Exit → Act → World → Prop} {S:World → Prop} {fuel:Nat} {listed:Array Bool} {a:Act} {w:World} (i:Nat) {oi:Oper} {f:FuncId} {args:Array Value} {R:Ending → World → Prop}
    (hr:Region.ready md ops listed = [i]) (hi:ops[i]? = some oi) (hw:Region.wanted oi (yielded ops a.tmps) = true) (he:(execOp a.eval oi).run P w = .ok (.enter f args) w) (hc:Calls P f args w R)
    (h:∀ e w',R e w' → ∃ v,e = .returned v ∧ S w' ∧ wpAnyH P md ops Q S fuel (listed.setIfInBounds i true) (a.put oi.dst v) w'):wpAnyH P md ops Q S (fuel + 1) listed a w:=by
  refine wpAnyH_all hr (by simp) (fun j hj => ?_)
  obtain rfl:j = i:=by simpa using hj
  unfold wpOp
  rw [hi]
  simp only [hw,if_true]
  left
  unfold Oper.wp
  rw [he,Oper.upon_enter]
  refine hc.mono ?_
  intro e w' hR
  obtain ⟨v,rfl,hv⟩:=h e w' hR
  exact hv
theorem wpAnyH_step {P:Program} {md:Region.Mode} {ops:Array Oper} {Q:Exit → Act → World → Prop} {S:World → Prop} {fuel:Nat} {listed:Array Bool} {a:Act} {w:World} (i:Nat) {oi:Oper} (v:Value) (w':World)
    (hr:Region.ready md ops listed = [i]) (hi:ops[i]? = some oi) (hw:Region.wanted oi (yielded ops a.tmps) = true) (he:(execOp a.eval oi).run P w = .ok (.value v) w') (hS:S w')
    (h:wpAnyH P md ops Q S fuel (listed.setIfInBounds i true) (a.put oi.dst v) w'):wpAnyH P md ops Q S (fuel + 1) listed a w:=by
  refine wpAnyH_all hr (by simp) (fun j hj => ?_)
  obtain rfl:j = i:=by simpa using hj
  unfold wpOp
  rw [hi]
  simp only [hw,if_true]
  left
  unfold Oper.wp
  rw [he,Oper.upon_value]
  exact ⟨hS,h⟩
theorem load_run {P:Program} {a:Act} {o:Oper} (ty:TypeId) (x:Operand) (ho:o.op = .load ty x) (b of:Nat) (hx:a.eval x = .pointer (some ⟨b,of,none⟩)) (cs:List Value) (d:TypeDesc) {w:World} (hc:w.rangeAt b of cs)
    (hu:P.underlying ty = some d) (hd:d.isRow = true) (hi:(P.info? ty).map (·.size) = some cs.length):(execOp a.eval o).run P w = .ok (.value (.agg cs.toArray)) w:=by
  unfold execOp
  simp only [ho,hx,Instr.loadAt,Instr.sureAddr,Sem.run_bind,Sem.run_pure,Result.andThen_ok,run_loadVar_mid w b of ty cs d hc hu hd hi]
end Go.Proofs.YtphmmnffgknkcaaGreatDoor
namespace Go.Proofs.YtphmmnffgknkcaaGreatDoor
open Go.RowKit
set_option maxRecDepth 100000
theorem wpOp_vl {P:Program} {ops:Array Oper} {Q:Exit → Act → World → Prop} {K:Act → World → Prop} {a:Act} {w:World} (i:Nat) {oi:Oper} (v:Value) (w':World) (hi:ops[i]? = some oi) (hw:Region.wanted oi (yielded ops a.tmps) = true)
    (he:(execOp a.eval oi).run P w = .ok (.value v) w') (h:K (a.put oi.dst v) w'):wpOp P ops Q i K a w:=by
  unfold wpOp
  rw [hi]
  simp only [hw,if_true]
  left
  unfold Oper.wp
  rw [he,Oper.upon_value]
  exact h
theorem wpOp_en {P:Program} {ops:Array Oper} {Q:Exit → Act → World → Prop} {K:Act → World → Prop} {a:Act} {w:World} (i:Nat) {oi:Oper} {f:FuncId} {args:Array Value} {R:Ending → World → Prop} (hi:ops[i]? = some oi) (hw:Region.wanted oi (yielded ops a.tmps) = true)
    (he:(execOp a.eval oi).run P w = .ok (.enter f args) w) (hc:Calls P f args w R) (h:∀ e w',R e w' → ∃ v,e = .returned v ∧ K (a.put oi.dst v) w'):wpOp P ops Q i K a w:=by
  unfold wpOp
  rw [hi]
  simp only [hw,if_true]
  left
  unfold Oper.wp
  rw [he,Oper.upon_enter]
  refine hc.mono ?_
  intro e w' hR
  obtain ⟨v,rfl,hv⟩:=h e w' hR
  exact hv
theorem wpAny_pair {P:Program} {md:Region.Mode} {ops:Array Oper} {Q:Exit → Act → World → Prop} {fuel:Nat} {listed:Array Bool} {a:Act} {w:World} (i j:Nat) (hr:Region.ready md ops listed = [i,j])
    (h1:wpOp P ops Q i (wpAny P md ops Q fuel (listed.setIfInBounds i true)) a w) (h2:wpOp P ops Q j (wpAny P md ops Q fuel (listed.setIfInBounds j true)) a w):wpAny P md ops Q (fuel + 1) listed a w:=by
  refine wpAny_all hr (by simp) (fun k hk => ?_)
  rcases List.mem_cons.1 hk with rfl | hk
  · exact h1
  · obtain rfl:k = j:=by simpa using hk
    exact h2
theorem wpAnyH_pair {P:Program} {md:Region.Mode} {ops:Array Oper} {Q:Exit → Act → World → Prop} {S:World → Prop} {fuel:Nat} {listed:Array Bool} {a:Act} {w:World} (i j:Nat) (hr:Region.ready md ops listed = [i,j])
    (h1:wpOp P ops Q i (fun a' w' => S w' ∧ wpAnyH P md ops Q S fuel (listed.setIfInBounds i true) a' w') a w) (h2:wpOp P ops Q j (fun a' w' => S w' ∧ wpAnyH P md ops Q S fuel (listed.setIfInBounds j true) a' w') a w):wpAnyH P md ops Q S (fuel + 1) listed a w:=by
  refine wpAnyH_all hr (by simp) (fun k hk => ?_)
  rcases List.mem_cons.1 hk with rfl | hk
  · exact h1
  · obtain rfl:k = j:=by simpa using hk
    exact h2
def Over (w0 wx:World):Prop:=Below w0.heap.size w0 wx
theorem Over.out {w0 wx:World} (h:Over w0 wx):Below w0.heap.size w0 wx:=h
theorem Over.refl (w:World):Over w w:=Below.refl _ _
theorem Over.more {w0 wx wy:World} (h:Over w0 wx) (hb:Below wx.heap.size wx wy):Over w0 wy:=Below.trans h (hb.mono (Below.size h))
theorem Over.after {w w0 wx:World} (h:Over w0 wx) (hb:Below w.heap.size w w0):Below w.heap.size w wx:=hb.trans (Below.mono h hb.size)
theorem fl2 (a b:List (BitVec 8)):[a,b].flatten.length = a.length + b.length:=by simp
theorem slice_dig_at (g o:Nat) (w:World):(Instr.sliceAt 39 (.pointer (some ⟨g,o,none⟩)) none none none).run Tryz.prog w = .ok (.slice (some ⟨g,o,none⟩) 32 32) w:=by kernel_rfl
set_option maxHeartbeats 400000 in
theorem rsign_any (c:BitVec 8) (v:Value) (ls:List (List (BitVec 8))) (w:World) (hR:ReadsL w v ls) (hl:ls.flatten.length < 140737488355328) (hn:ls.length < 4611686018427387904) :
    Calls Tryz.prog 75 #[.int .u8 (c.toNat:Int),v] w fun e w' => ∃ v',e = .returned v' ∧ Reads w' v' (c :: ls.flatten) ∧ Below w.heap.size w w':=by
  have HR:Hid (ReadsL w v ls):=hR
  clear hR
  go_enter Tryz.func75,Tryz.ntmps75
  go_wp2_with fail
  have rC:=reads_val w _ c rfl
  have b0:=below_alloc w (.cells #[.int .u8 (c.toNat:Int)] 5)
  refine (rjoin_any _ ls _ (HR.out.below b0) (by omega) hn).mono ?_
  rintro e w1 ⟨v1,rfl,r1,b1⟩
  replace rC:=rC.below b1
  obtain ⟨fl,HFL⟩:∃ x,Hid (x = ls.flatten):=⟨_,rfl⟩
  rw [← HFL.out] at r1 hl
  have HB1:Hid (Below w.heap.size w w1):=b0.trans (b1.mono b0.size)
  clear b0 b1
  obtain ⟨a1,c1,rfl,_,_,_⟩:=id r1
  have HL:Hid (ReadsL (w1.alloc (.cells #[.slice (some ⟨w.heap.size,0,none⟩) 1 1,.slice a1 fl.length c1] 48)) (.slice (some ⟨w1.heap.size,0,none⟩) 2 2) [[c],fl]):=readsL_two rC r1
  have HE:Hid ([[c],fl].flatten = c :: fl):=by simp [Hid]
  clear rC r1
  go_wp2_with fail
  refine (rjoin_any _ _ _ HL.out (by rw [HE.out,List.length_cons];omega) (by simp)).mono ?_
  rintro e w2 ⟨v2,rfl,r2,b2⟩
  rw [HE.out] at r2
  have b3:=(below_alloc w1 (.cells #[.slice (some ⟨w.heap.size,0,none⟩) 1 1,.slice a1 fl.length c1] 48)).trans (b2.mono (by simp))
  have HB2:Hid (Below w.heap.size w w2):=HB1.out.trans (b3.mono HB1.out.size)
  have HV:Hid (Reads w2 v2 (c :: ls.flatten)):=by rw [← HFL.out];exact r2
  clear r2 b2 b3 HL
  go_wp2
  go_ret
  exact ⟨_,rfl,HV.out,HB2.out⟩
end Go.Proofs.YtphmmnffgknkcaaGreatDoor
namespace Go.Proofs.YtphmmnffgknkcaaGreatDoor
open Go.RowKit
set_option maxRecDepth 100000
set_option maxHeartbeats 400000 in
theorem rEmpty_any (w:World):Calls Tryz.prog 42 #[] w fun e w' => ∃ v,e = .returned v ∧ Reads w' v [69] ∧ Below w.heap.size w w':=by
  go_enter Tryz.func42,Tryz.ntmps42
  go_wp2
  go_ret
  exact ⟨_,rfl,reads_val w 69 69 rfl,below_alloc _ _⟩
theorem readsL_none (w:World):ReadsL w (.slice none 0 0) []:=⟨none,0,rfl,Nat.le_refl _,fun _ => rfl,fun h => by cases h⟩
set_option maxHeartbeats 400000 in
theorem tEmpty_any (w:World):Calls Tryz.prog 41 #[] w fun e w' => ∃ v,e = .returned v ∧ Reads w' v [69] ∧ Below w.heap.size w w':=by
  have HT:Hid (Calls Tryz.prog 74 #[.int .u8 69,.slice none 0 0] w fun e w' => ∃ v',e = .returned v' ∧ Reads w' v' [69] ∧ Below w.heap.size w w'):=tagged_any 69 (.slice none 0 0) [] w (readsL_none w) (by decide) (by decide)
  go_enter Tryz.func41,Tryz.ntmps41
  go_wp2_with (go_at_call 74;refine HT.out.mono ?_;rintro e w1 ⟨v,rfl,hr,hb⟩)
  go_ret
  exact ⟨_,rfl,hr,hb⟩
set_option maxHeartbeats 400000 in
theorem tOf_any (v:Value) (bs:List (BitVec 8)) (w:World) (hK:KOk w) (hR:Reads w v bs) (hl:bs.length < 2305843009213693952) :
    Calls Tryz.prog 16 #[v] w fun e w' => e = .returned (.agg (cb (dig bs)).toArray) ∧ Below w.heap.size w w':=by
  have HK:Hid (KOk w):=hK
  have HR:Hid (Reads w v bs):=hR
  clear hK hR
  go_enter Tryz.func16,Tryz.ntmps16
  go_wp2_with fail
  generalize h0:Obj.cells _ 39 = o32
  have ho:o32 = Obj.cells (cb zb32).toArray 39:=h0.symm
  clear h0
  subst ho
  have hb0:=below_alloc w (Obj.cells (cb zb32).toArray 39)
  refine (sum_any _ bs _ (HK.out.below hb0 HK.out.lt) (HR.out.below hb0) hl).mono ?_
  rintro e w1 ⟨rfl,hb1⟩
  simp at hb1
  obtain ⟨es,HES⟩:∃ zz,Hid (zz = cb (dig bs)):=⟨_,rfl⟩
  have HLe:Hid (es.length = 32):=by show _ = _;rw [HES.out,cb_len,len_dig']
  have HZe:Hid ((Tryz.prog.info? 39).map (·.size) = some es.length):=by show _ = _;rw [HLe.out];exact Tryz.info39
  have H1e:Hid (∀ v ∈ es,v.oneCell' = true):=by show ∀ _,_;rw [HES.out];exact cb_one _
  have HR1:Hid (Blk w1 w.heap.size (cb zb32) 39):=(Blk.new w (cb zb32) 39).below hb1 (by omega)
  have HS1:Hid (Below w.heap.size w w1):=hb0.trans (hb1.mono (by omega))
  clear hb0 hb1
  rw [← HES.out]
  go_wp2_with (refine wpList_store_mid rfl 39 _ _ rfl w.heap.size 0 es.toArray rfl rfl (HR1.out.there 0 _ (by rw [List.size_toArray,HLe.out,cb_len,len_zb32];omega)) (by simpa using HZe.out) (all_oneCell_toArray H1e.out) ?_)
  have hB:=HR1.out.whole es (by rw [HLe.out,cb_len,len_zb32])
  refine bodyPost_ret (v:=.agg es.toArray) (results_cell_row (by rfl) _ _ w.heap.size 39 _ (0,0) _ rfl hB Tryz.underlying39 rfl (by simpa using HZe.out)) rfl ⟨by rw [HES.out],Below.setCells _ (Nat.le_refl _) _ _ _ HS1.out⟩
set_option maxHeartbeats 400000 in
theorem rOf_big (v:Value) (bs:List (BitVec 8)) (w:World) (hR:Reads w v bs) (hl:bs.length < 140737488355000) :
    Calls Tryz.prog 13 #[v] w fun e w' => e = .returned (.agg (cb (dig bs)).toArray) ∧ Below w.heap.size w w':=by
  have HR:Hid (Reads w v bs):=hR
  clear hR
  go_enter Tryz.func13,Tryz.ntmps13
  go_wp2_with fail
  generalize h0:Obj.cells _ 39 = o32
  have ho:o32 = Obj.cells (cb zb32).toArray 39:=h0.symm
  clear h0
  subst ho
  have hb0:=below_alloc w (Obj.cells (cb zb32).toArray 39)
  refine (rsum_big _ bs _ (HR.out.below hb0) hl).mono ?_
  rintro e w1 ⟨rfl,hb1⟩
  simp at hb1
  obtain ⟨es,HES⟩:∃ zz,Hid (zz = cb (dig bs)):=⟨_,rfl⟩
  have HLe:Hid (es.length = 32):=by show _ = _;rw [HES.out,cb_len,len_dig']
  have HZe:Hid ((Tryz.prog.info? 39).map (·.size) = some es.length):=by show _ = _;rw [HLe.out];exact Tryz.info39
  have H1e:Hid (∀ v ∈ es,v.oneCell' = true):=by show ∀ _,_;rw [HES.out];exact cb_one _
  have HR1:Hid (Blk w1 w.heap.size (cb zb32) 39):=(Blk.new w (cb zb32) 39).below hb1 (by omega)
  have HS1:Hid (Below w.heap.size w w1):=hb0.trans (hb1.mono (by omega))
  clear hb0 hb1
  rw [← HES.out]
  go_wp2_with (refine wpList_store_mid rfl 39 _ _ rfl w.heap.size 0 es.toArray rfl rfl (HR1.out.there 0 _ (by rw [List.size_toArray,HLe.out,cb_len,len_zb32];omega)) (by simpa using HZe.out) (all_oneCell_toArray H1e.out) ?_)
  have hB:=HR1.out.whole es (by rw [HLe.out,cb_len,len_zb32])
  refine bodyPost_ret (v:=.agg es.toArray) (results_cell_row (by rfl) _ _ w.heap.size 39 _ (0,0) _ rfl hB Tryz.underlying39 rfl (by simpa using HZe.out)) rfl ⟨by rw [HES.out],Below.setCells _ (Nat.le_refl _) _ _ _ HS1.out⟩
theorem rOf_any (v:Value) (bs:List (BitVec 8)) (w:World) (hR:Reads w v bs) (hl:bs.length < 140737488350000) :
    Calls Tryz.prog 13 #[v] w fun e w' => e = .returned (.agg (cb (dig bs)).toArray) ∧ Below w.heap.size w w':=rOf_big v bs w hR (by omega)
end Go.Proofs.YtphmmnffgknkcaaGreatDoor
namespace Go.Proofs.YtphmmnffgknkcaaGreatDoor
open Go.RowKit
set_option maxRecDepth 100000
def pairB (c:BitVec 8) (x y:List (BitVec 8)):List (BitVec 8):=c :: (x ++ y)
theorem reads_drew {w:World} {v:Value} {bs:List (BitVec 8)} (h:Reads w v bs):Reads w.drew v bs:=h
set_option maxHeartbeats 400000 in
theorem tLeaf_any (x y:List (BitVec 8)) (hx:x.length = 32) (hy:y.length = 32) (w:World):Calls Tryz.prog 92 #[.agg (cb x).toArray,.agg (cb y).toArray] w fun e w' => ∃ v,e = .returned v ∧ Reads w' v (pairB 76 x y) ∧ Below w.heap.size w w':=by
  have HN:Hid (x.length = 32 ∧ y.length = 32):=⟨hx,hy⟩
  clear hx hy
  go_enter Tryz.func92,Tryz.ntmps92
  go_wp2_with fail
  have hB0:Below w.heap.size w ((w.alloc (.cells (cb x).toArray 39)).alloc (.cells (cb y).toArray 39)):=(below_alloc _ _).trans ((below_alloc _ _).mono (by simp))
  have rx:Reads ((w.alloc (.cells (cb x).toArray 39)).alloc (.cells (cb y).toArray 39)) (.slice (some ⟨w.heap.size,0,none⟩) 32 32) x:=((Blk.new w (cb x) 39).alloc _).reads HN.out.1.symm (by have:=HN.out;omega)
  have ry:Reads ((w.alloc (.cells (cb x).toArray 39)).alloc (.cells (cb y).toArray 39)) (.slice (some ⟨w.heap.size + 1,0,none⟩) 32 32) y:=(Blk.new_at (by simp) (cb y) 39).reads HN.out.2.symm (by have:=HN.out;omega)
  generalize ((w.alloc (.cells (cb x).toArray 39)).alloc (.cells (cb y).toArray 39)) = w0 at *
  refine wp_region_held_drew (S:=Over w0.drew) (by kernel_rfl) (Over.refl _) ?_
  intro hS
  replace rx:=reads_drew rx
  replace ry:=reads_drew ry
  have HB1:Hid (Below w.heap.size w w0.drew):=hB0.drew
  clear hB0
  generalize w0.drew = w1 at *
  refine wpAnyH_take (i:=0) (v:=.slice (some ⟨w.heap.size,0,none⟩) 32 32) rfl (by kernel_rfl) (by kernel_rfl) (by kernel_rfl) (fun _ _ _ h => h) (Or.inl ⟨by rfl,fun wx _ => by simp [execOp,Act.eval,slice_dig]⟩) hS ?_
  simp only [Act.put,List.getElem_toArray,List.getElem_cons_zero,List.setIfInBounds_toArray,List.set_cons_zero,List.set_cons_succ]
  refine wpAnyH_take (i:=1) (v:=.slice (some ⟨w.heap.size + 1,0,none⟩) 32 32) rfl (by kernel_rfl) (by kernel_rfl) (by kernel_rfl) (fun _ _ _ h => h) (Or.inl ⟨by rfl,fun wx _ => by simp [execOp,Act.eval,slice_dig]⟩) hS ?_
  simp only [Act.put,List.getElem_toArray,List.getElem_cons_succ,List.getElem_cons_zero,List.setIfInBounds_toArray,List.set_cons_zero,List.set_cons_succ]
  have hbA:=below_alloc w1 (.cells #[.slice (some ⟨w.heap.size,0,none⟩) 32 32,.slice (some ⟨w.heap.size + 1,0,none⟩) 32 32] 48)
  have r1:=readsL_two (rx.below hS) (ry.below hS)
  have hS1:Over w1 (w1.alloc (.cells #[.slice (some ⟨w.heap.size,0,none⟩) 32 32,.slice (some ⟨w.heap.size + 1,0,none⟩) 32 32] 48)):=hS.more hbA
  refine wpAnyH_step 2 (.slice (some ⟨w1.heap.size,0,none⟩) 2 2) (w1.alloc (.cells #[.slice (some ⟨w.heap.size,0,none⟩) 32 32,.slice (some ⟨w.heap.size + 1,0,none⟩) 32 32] 48)) (by kernel_rfl) rfl (by rfl) (by simp [go_sem]) hS1 ?_
  simp only [Act.put,List.getElem_toArray,List.getElem_cons_succ,List.getElem_cons_zero,List.setIfInBounds_toArray,List.set_cons_zero,List.set_cons_succ]
  clear hbA hS
  have hS:=hS1
  clear hS1
  generalize (w1.alloc (.cells #[.slice (some ⟨w.heap.size,0,none⟩) 32 32,.slice (some ⟨w.heap.size + 1,0,none⟩) 32 32] 48)) = w2 at *
  generalize w1.heap.size = n1 at *
  refine wpAnyH_enter 3 (by kernel_rfl) rfl (by rfl) (f:=74) (args:=#[.int .u8 76,.slice (some ⟨n1,0,none⟩) 2 2]) (by simp [go_sem]) (tagged_any 76 _ _ _ r1 (by simp only [fl2];have:=HN.out;omega) (by simp)) ?_
  rintro e w3 ⟨v2,rfl,r2,hbA⟩
  have hS2:Over w1 w3:=hS.more hbA
  refine ⟨_,rfl,hS2,?_⟩
  clear hS
  have hS:=hS2
  clear hS2
  obtain ⟨l2,HL2⟩:∃ zz,Hid (zz = (76:BitVec 8) :: [x,y].flatten):=⟨_,rfl⟩
  rw [← HL2.out] at r2
  obtain ⟨ad2,cp2,rfl,_,_,_⟩:=id r2
  simp only [Act.put,List.getElem_toArray,List.getElem_cons_succ,List.getElem_cons_zero,List.setIfInBounds_toArray,List.set_cons_zero,List.set_cons_succ]
  replace r1:=r1.below hbA
  clear hbA
  refine wpAnyH_take (i:=4) (v:=.slice ad2 l2.length cp2) rfl (by kernel_rfl) (by kernel_rfl) (by kernel_rfl) (fun _ _ _ h => h) (Or.inl ⟨by rfl,fun wx _ => by simp [go_sem]⟩) hS ?_
  simp only [Act.put,List.getElem_toArray,List.getElem_cons_succ,List.getElem_cons_zero,List.setIfInBounds_toArray,List.set_cons_zero,List.set_cons_succ]
  refine wpAnyH_done (by kernel_rfl) ?_ _
  have E:Hid (l2 = pairB 76 x y):=by show _ = _;rw [HL2.out];simp [pairB]
  have HV:Hid (Reads w3 (.slice ad2 l2.length cp2) l2):=r2
  have HB:Hid (Below w.heap.size w w3):=hS.after HB1.out
  clear hS r1 r2
  go_wp2
  go_ret
  exact ⟨_,rfl,by rw [← E.out];exact HV.out,HB.out⟩
set_option maxHeartbeats 400000 in
theorem tNode_any (x y:List (BitVec 8)) (hx:x.length = 32) (hy:y.length = 32) (w:World):Calls Tryz.prog 91 #[.agg (cb x).toArray,.agg (cb y).toArray] w fun e w' => ∃ v,e = .returned v ∧ Reads w' v (pairB 78 x y) ∧ Below w.heap.size w w':=by
  have HN:Hid (x.length = 32 ∧ y.length = 32):=⟨hx,hy⟩
  clear hx hy
  go_enter Tryz.func91,Tryz.ntmps91
  go_wp2_with fail
  have hB0:Below w.heap.size w ((w.alloc (.cells (cb x).toArray 39)).alloc (.cells (cb y).toArray 39)):=(below_alloc _ _).trans ((below_alloc _ _).mono (by simp))
  have rx:Reads ((w.alloc (.cells (cb x).toArray 39)).alloc (.cells (cb y).toArray 39)) (.slice (some ⟨w.heap.size,0,none⟩) 32 32) x:=((Blk.new w (cb x) 39).alloc _).reads HN.out.1.symm (by have:=HN.out;omega)
  have ry:Reads ((w.alloc (.cells (cb x).toArray 39)).alloc (.cells (cb y).toArray 39)) (.slice (some ⟨w.heap.size + 1,0,none⟩) 32 32) y:=(Blk.new_at (by simp) (cb y) 39).reads HN.out.2.symm (by have:=HN.out;omega)
  generalize ((w.alloc (.cells (cb x).toArray 39)).alloc (.cells (cb y).toArray 39)) = w0 at *
  refine wp_region_held_drew (S:=Over w0.drew) (by kernel_rfl) (Over.refl _) ?_
  intro hS
  replace rx:=reads_drew rx
  replace ry:=reads_drew ry
  have HB1:Hid (Below w.heap.size w w0.drew):=hB0.drew
  clear hB0
  generalize w0.drew = w1 at *
  refine wpAnyH_take (i:=0) (v:=.slice (some ⟨w.heap.size,0,none⟩) 32 32) rfl (by kernel_rfl) (by kernel_rfl) (by kernel_rfl) (fun _ _ _ h => h) (Or.inl ⟨by rfl,fun wx _ => by simp [execOp,Act.eval,slice_dig]⟩) hS ?_
  simp only [Act.put,List.getElem_toArray,List.getElem_cons_zero,List.setIfInBounds_toArray,List.set_cons_zero,List.set_cons_succ]
  refine wpAnyH_take (i:=1) (v:=.slice (some ⟨w.heap.size + 1,0,none⟩) 32 32) rfl (by kernel_rfl) (by kernel_rfl) (by kernel_rfl) (fun _ _ _ h => h) (Or.inl ⟨by rfl,fun wx _ => by simp [execOp,Act.eval,slice_dig]⟩) hS ?_
  simp only [Act.put,List.getElem_toArray,List.getElem_cons_succ,List.getElem_cons_zero,List.setIfInBounds_toArray,List.set_cons_zero,List.set_cons_succ]
  have hbA:=below_alloc w1 (.cells #[.slice (some ⟨w.heap.size,0,none⟩) 32 32,.slice (some ⟨w.heap.size + 1,0,none⟩) 32 32] 48)
  have r1:=readsL_two (rx.below hS) (ry.below hS)
  have hS1:Over w1 (w1.alloc (.cells #[.slice (some ⟨w.heap.size,0,none⟩) 32 32,.slice (some ⟨w.heap.size + 1,0,none⟩) 32 32] 48)):=hS.more hbA
  refine wpAnyH_step 2 (.slice (some ⟨w1.heap.size,0,none⟩) 2 2) (w1.alloc (.cells #[.slice (some ⟨w.heap.size,0,none⟩) 32 32,.slice (some ⟨w.heap.size + 1,0,none⟩) 32 32] 48)) (by kernel_rfl) rfl (by rfl) (by simp [go_sem]) hS1 ?_
  simp only [Act.put,List.getElem_toArray,List.getElem_cons_succ,List.getElem_cons_zero,List.setIfInBounds_toArray,List.set_cons_zero,List.set_cons_succ]
  clear hbA hS
  have hS:=hS1
  clear hS1
  generalize (w1.alloc (.cells #[.slice (some ⟨w.heap.size,0,none⟩) 32 32,.slice (some ⟨w.heap.size + 1,0,none⟩) 32 32] 48)) = w2 at *
  generalize w1.heap.size = n1 at *
  refine wpAnyH_enter 3 (by kernel_rfl) rfl (by rfl) (f:=74) (args:=#[.int .u8 78,.slice (some ⟨n1,0,none⟩) 2 2]) (by simp [go_sem]) (tagged_any 78 _ _ _ r1 (by simp only [fl2];have:=HN.out;omega) (by simp)) ?_
  rintro e w3 ⟨v2,rfl,r2,hbA⟩
  have hS2:Over w1 w3:=hS.more hbA
  refine ⟨_,rfl,hS2,?_⟩
  clear hS
  have hS:=hS2
  clear hS2
  obtain ⟨l2,HL2⟩:∃ zz,Hid (zz = (78:BitVec 8) :: [x,y].flatten):=⟨_,rfl⟩
  rw [← HL2.out] at r2
  obtain ⟨ad2,cp2,rfl,_,_,_⟩:=id r2
  simp only [Act.put,List.getElem_toArray,List.getElem_cons_succ,List.getElem_cons_zero,List.setIfInBounds_toArray,List.set_cons_zero,List.set_cons_succ]
  replace r1:=r1.below hbA
  clear hbA
  refine wpAnyH_take (i:=4) (v:=.slice ad2 l2.length cp2) rfl (by kernel_rfl) (by kernel_rfl) (by kernel_rfl) (fun _ _ _ h => h) (Or.inl ⟨by rfl,fun wx _ => by simp [go_sem]⟩) hS ?_
  simp only [Act.put,List.getElem_toArray,List.getElem_cons_succ,List.getElem_cons_zero,List.setIfInBounds_toArray,List.set_cons_zero,List.set_cons_succ]
  refine wpAnyH_done (by kernel_rfl) ?_ _
  have E:Hid (l2 = pairB 78 x y):=by show _ = _;rw [HL2.out];simp [pairB]
  have HV:Hid (Reads w3 (.slice ad2 l2.length cp2) l2):=r2
  have HB:Hid (Below w.heap.size w w3):=hS.after HB1.out
  clear hS r1 r2
  go_wp2
  go_ret
  exact ⟨_,rfl,by rw [← E.out];exact HV.out,HB.out⟩
set_option maxHeartbeats 400000 in
theorem rLeaf_any (x y:List (BitVec 8)) (hx:x.length = 32) (hy:y.length = 32) (w:World):Calls Tryz.prog 43 #[.agg (cb x).toArray,.agg (cb y).toArray] w fun e w' => ∃ v,e = .returned v ∧ Reads w' v (pairB 76 x y) ∧ Below w.heap.size w w':=by
  have HN:Hid (x.length = 32 ∧ y.length = 32):=⟨hx,hy⟩
  clear hx hy
  go_enter Tryz.func43,Tryz.ntmps43
  go_wp2_with fail
  have hB0:Below w.heap.size w ((w.alloc (.cells (cb x).toArray 39)).alloc (.cells (cb y).toArray 39)):=(below_alloc _ _).trans ((below_alloc _ _).mono (by simp))
  have rx:Reads ((w.alloc (.cells (cb x).toArray 39)).alloc (.cells (cb y).toArray 39)) (.slice (some ⟨w.heap.size,0,none⟩) 32 32) x:=((Blk.new w (cb x) 39).alloc _).reads HN.out.1.symm (by have:=HN.out;omega)
  have ry:Reads ((w.alloc (.cells (cb x).toArray 39)).alloc (.cells (cb y).toArray 39)) (.slice (some ⟨w.heap.size + 1,0,none⟩) 32 32) y:=(Blk.new_at (by simp) (cb y) 39).reads HN.out.2.symm (by have:=HN.out;omega)
  generalize ((w.alloc (.cells (cb x).toArray 39)).alloc (.cells (cb y).toArray 39)) = w0 at *
  refine wp_region_held_drew (S:=Over w0.drew) (by kernel_rfl) (Over.refl _) ?_
  intro hS
  replace rx:=reads_drew rx
  replace ry:=reads_drew ry
  have HB1:Hid (Below w.heap.size w w0.drew):=hB0.drew
  clear hB0
  generalize w0.drew = w1 at *
  refine wpAnyH_take (i:=0) (v:=.slice (some ⟨w.heap.size,0,none⟩) 32 32) rfl (by kernel_rfl) (by kernel_rfl) (by kernel_rfl) (fun _ _ _ h => h) (Or.inl ⟨by rfl,fun wx _ => by simp [execOp,Act.eval,slice_dig]⟩) hS ?_
  simp only [Act.put,List.getElem_toArray,List.getElem_cons_zero,List.setIfInBounds_toArray,List.set_cons_zero,List.set_cons_succ]
  refine wpAnyH_take (i:=1) (v:=.slice (some ⟨w.heap.size + 1,0,none⟩) 32 32) rfl (by kernel_rfl) (by kernel_rfl) (by kernel_rfl) (fun _ _ _ h => h) (Or.inl ⟨by rfl,fun wx _ => by simp [execOp,Act.eval,slice_dig]⟩) hS ?_
  simp only [Act.put,List.getElem_toArray,List.getElem_cons_succ,List.getElem_cons_zero,List.setIfInBounds_toArray,List.set_cons_zero,List.set_cons_succ]
  have hbA:=below_alloc w1 (.cells #[.slice (some ⟨w.heap.size,0,none⟩) 32 32,.slice (some ⟨w.heap.size + 1,0,none⟩) 32 32] 48)
  have r1:=readsL_two (rx.below hS) (ry.below hS)
  have hS1:Over w1 (w1.alloc (.cells #[.slice (some ⟨w.heap.size,0,none⟩) 32 32,.slice (some ⟨w.heap.size + 1,0,none⟩) 32 32] 48)):=hS.more hbA
  refine wpAnyH_step 2 (.slice (some ⟨w1.heap.size,0,none⟩) 2 2) (w1.alloc (.cells #[.slice (some ⟨w.heap.size,0,none⟩) 32 32,.slice (some ⟨w.heap.size + 1,0,none⟩) 32 32] 48)) (by kernel_rfl) rfl (by rfl) (by simp [go_sem]) hS1 ?_
  simp only [Act.put,List.getElem_toArray,List.getElem_cons_succ,List.getElem_cons_zero,List.setIfInBounds_toArray,List.set_cons_zero,List.set_cons_succ]
  clear hbA hS
  have hS:=hS1
  clear hS1
  generalize (w1.alloc (.cells #[.slice (some ⟨w.heap.size,0,none⟩) 32 32,.slice (some ⟨w.heap.size + 1,0,none⟩) 32 32] 48)) = w2 at *
  generalize w1.heap.size = n1 at *
  refine wpAnyH_enter 3 (by kernel_rfl) rfl (by rfl) (f:=75) (args:=#[.int .u8 76,.slice (some ⟨n1,0,none⟩) 2 2]) (by simp [go_sem]) (rsign_any 76 _ _ _ r1 (by simp only [fl2];have:=HN.out;omega) (by simp)) ?_
  rintro e w3 ⟨v2,rfl,r2,hbA⟩
  have hS2:Over w1 w3:=hS.more hbA
  refine ⟨_,rfl,hS2,?_⟩
  clear hS
  have hS:=hS2
  clear hS2
  obtain ⟨l2,HL2⟩:∃ zz,Hid (zz = (76:BitVec 8) :: [x,y].flatten):=⟨_,rfl⟩
  rw [← HL2.out] at r2
  obtain ⟨ad2,cp2,rfl,_,_,_⟩:=id r2
  simp only [Act.put,List.getElem_toArray,List.getElem_cons_succ,List.getElem_cons_zero,List.setIfInBounds_toArray,List.set_cons_zero,List.set_cons_succ]
  replace r1:=r1.below hbA
  clear hbA
  refine wpAnyH_take (i:=4) (v:=.slice ad2 l2.length cp2) rfl (by kernel_rfl) (by kernel_rfl) (by kernel_rfl) (fun _ _ _ h => h) (Or.inl ⟨by rfl,fun wx _ => by simp [go_sem]⟩) hS ?_
  simp only [Act.put,List.getElem_toArray,List.getElem_cons_succ,List.getElem_cons_zero,List.setIfInBounds_toArray,List.set_cons_zero,List.set_cons_succ]
  refine wpAnyH_done (by kernel_rfl) ?_ _
  have E:Hid (l2 = pairB 76 x y):=by show _ = _;rw [HL2.out];simp [pairB]
  have HV:Hid (Reads w3 (.slice ad2 l2.length cp2) l2):=r2
  have HB:Hid (Below w.heap.size w w3):=hS.after HB1.out
  clear hS r1 r2
  go_wp2
  go_ret
  exact ⟨_,rfl,by rw [← E.out];exact HV.out,HB.out⟩
set_option maxHeartbeats 400000 in
theorem rNode_any (x y:List (BitVec 8)) (hx:x.length = 32) (hy:y.length = 32) (w:World):Calls Tryz.prog 44 #[.agg (cb x).toArray,.agg (cb y).toArray] w fun e w' => ∃ v,e = .returned v ∧ Reads w' v (pairB 78 x y) ∧ Below w.heap.size w w':=by
  have HN:Hid (x.length = 32 ∧ y.length = 32):=⟨hx,hy⟩
  clear hx hy
  go_enter Tryz.func44,Tryz.ntmps44
  go_wp2_with fail
  have hB0:Below w.heap.size w ((w.alloc (.cells (cb x).toArray 39)).alloc (.cells (cb y).toArray 39)):=(below_alloc _ _).trans ((below_alloc _ _).mono (by simp))
  have rx:Reads ((w.alloc (.cells (cb x).toArray 39)).alloc (.cells (cb y).toArray 39)) (.slice (some ⟨w.heap.size,0,none⟩) 32 32) x:=((Blk.new w (cb x) 39).alloc _).reads HN.out.1.symm (by have:=HN.out;omega)
  have ry:Reads ((w.alloc (.cells (cb x).toArray 39)).alloc (.cells (cb y).toArray 39)) (.slice (some ⟨w.heap.size + 1,0,none⟩) 32 32) y:=(Blk.new_at (by simp) (cb y) 39).reads HN.out.2.symm (by have:=HN.out;omega)
  generalize ((w.alloc (.cells (cb x).toArray 39)).alloc (.cells (cb y).toArray 39)) = w0 at *
  refine wp_region_held_drew (S:=Over w0.drew) (by kernel_rfl) (Over.refl _) ?_
  intro hS
  replace rx:=reads_drew rx
  replace ry:=reads_drew ry
  have HB1:Hid (Below w.heap.size w w0.drew):=hB0.drew
  clear hB0
  generalize w0.drew = w1 at *
  refine wpAnyH_take (i:=0) (v:=.slice (some ⟨w.heap.size,0,none⟩) 32 32) rfl (by kernel_rfl) (by kernel_rfl) (by kernel_rfl) (fun _ _ _ h => h) (Or.inl ⟨by rfl,fun wx _ => by simp [execOp,Act.eval,slice_dig]⟩) hS ?_
  simp only [Act.put,List.getElem_toArray,List.getElem_cons_zero,List.setIfInBounds_toArray,List.set_cons_zero,List.set_cons_succ]
  refine wpAnyH_take (i:=1) (v:=.slice (some ⟨w.heap.size + 1,0,none⟩) 32 32) rfl (by kernel_rfl) (by kernel_rfl) (by kernel_rfl) (fun _ _ _ h => h) (Or.inl ⟨by rfl,fun wx _ => by simp [execOp,Act.eval,slice_dig]⟩) hS ?_
  simp only [Act.put,List.getElem_toArray,List.getElem_cons_succ,List.getElem_cons_zero,List.setIfInBounds_toArray,List.set_cons_zero,List.set_cons_succ]
  have hbA:=below_alloc w1 (.cells #[.slice (some ⟨w.heap.size,0,none⟩) 32 32,.slice (some ⟨w.heap.size + 1,0,none⟩) 32 32] 48)
  have r1:=readsL_two (rx.below hS) (ry.below hS)
  have hS1:Over w1 (w1.alloc (.cells #[.slice (some ⟨w.heap.size,0,none⟩) 32 32,.slice (some ⟨w.heap.size + 1,0,none⟩) 32 32] 48)):=hS.more hbA
  refine wpAnyH_step 2 (.slice (some ⟨w1.heap.size,0,none⟩) 2 2) (w1.alloc (.cells #[.slice (some ⟨w.heap.size,0,none⟩) 32 32,.slice (some ⟨w.heap.size + 1,0,none⟩) 32 32] 48)) (by kernel_rfl) rfl (by rfl) (by simp [go_sem]) hS1 ?_
  simp only [Act.put,List.getElem_toArray,List.getElem_cons_succ,List.getElem_cons_zero,List.setIfInBounds_toArray,List.set_cons_zero,List.set_cons_succ]
  clear hbA hS
  have hS:=hS1
  clear hS1
  generalize (w1.alloc (.cells #[.slice (some ⟨w.heap.size,0,none⟩) 32 32,.slice (some ⟨w.heap.size + 1,0,none⟩) 32 32] 48)) = w2 at *
  generalize w1.heap.size = n1 at *
  refine wpAnyH_enter 3 (by kernel_rfl) rfl (by rfl) (f:=75) (args:=#[.int .u8 78,.slice (some ⟨n1,0,none⟩) 2 2]) (by simp [go_sem]) (rsign_any 78 _ _ _ r1 (by simp only [fl2];have:=HN.out;omega) (by simp)) ?_
  rintro e w3 ⟨v2,rfl,r2,hbA⟩
  have hS2:Over w1 w3:=hS.more hbA
  refine ⟨_,rfl,hS2,?_⟩
  clear hS
  have hS:=hS2
  clear hS2
  obtain ⟨l2,HL2⟩:∃ zz,Hid (zz = (78:BitVec 8) :: [x,y].flatten):=⟨_,rfl⟩
  rw [← HL2.out] at r2
  obtain ⟨ad2,cp2,rfl,_,_,_⟩:=id r2
  simp only [Act.put,List.getElem_toArray,List.getElem_cons_succ,List.getElem_cons_zero,List.setIfInBounds_toArray,List.set_cons_zero,List.set_cons_succ]
  replace r1:=r1.below hbA
  clear hbA
  refine wpAnyH_take (i:=4) (v:=.slice ad2 l2.length cp2) rfl (by kernel_rfl) (by kernel_rfl) (by kernel_rfl) (fun _ _ _ h => h) (Or.inl ⟨by rfl,fun wx _ => by simp [go_sem]⟩) hS ?_
  simp only [Act.put,List.getElem_toArray,List.getElem_cons_succ,List.getElem_cons_zero,List.setIfInBounds_toArray,List.set_cons_zero,List.set_cons_succ]
  refine wpAnyH_done (by kernel_rfl) ?_ _
  have E:Hid (l2 = pairB 78 x y):=by show _ = _;rw [HL2.out];simp [pairB]
  have HV:Hid (Reads w3 (.slice ad2 l2.length cp2) l2):=r2
  have HB:Hid (Below w.heap.size w w3):=hS.after HB1.out
  clear hS r1 r2
  go_wp2
  go_ret
  exact ⟨_,rfl,by rw [← E.out];exact HV.out,HB.out⟩
end Go.Proofs.YtphmmnffgknkcaaGreatDoor
namespace Go.Proofs.YtphmmnffgknkcaaGreatDoor
end Go.Proofs.YtphmmnffgknkcaaGreatDoor

namespace Go.Proofs.YtphmmnffgknkcaaGreatDoor
open Go.RowKit
set_option maxRecDepth 100000
def bt (x:List (BitVec 8)) (i:Nat):Bool:=(x.getD (i / 8) 0).getMsbD (i % 8)
def isB (i:Int):Bool:=decide (0 ≤ i) && decide (i < 256)
def bitI (x:List (BitVec 8)) (i:Int):Bool:=isB i && bt x i.toNat
def mask (i:Nat):BitVec 8:=128#8 >>> (i % 8)
def setB (b:BitVec 8) (i:Nat) (on:Bool):BitVec 8:=if on then b ||| mask i else b &&& ~~~(mask i)
def setN (x:List (BitVec 8)) (i:Nat) (on:Bool):List (BitVec 8):=x.set (i / 8) (setB (x.getD (i / 8) 0) i on)
def setI (x:List (BitVec 8)) (i:Int) (on:Bool):List (BitVec 8):=if isB i then setN x i.toNat on else x
theorem isB_iff (i:Int):isB i = true ↔ 0 ≤ i ∧ i < 256:=by simp [isB]
theorem bitI_nat (x:List (BitVec 8)) (i:Nat) (h:i < 256):bitI x (i:Int) = bt x i:=by
  have:isB (i:Int) = true:=(isB_iff _).2 ⟨by omega,by omega⟩
  simp [bitI,this]
theorem setI_nat (x:List (BitVec 8)) (i:Nat) (on:Bool) (h:i < 256):setI x (i:Int) on = setN x i on:=by
  have:isB (i:Int) = true:=(isB_iff _).2 ⟨by omega,by omega⟩
  simp [setI,this]
theorem setN_len (x:List (BitVec 8)) (i:Nat) (on:Bool):(setN x i on).length = x.length:=by simp [setN]
theorem setI_len (x:List (BitVec 8)) (i:Int) (on:Bool):(setI x i on).length = x.length:=by unfold setI;split <;> simp [setN_len]
theorem mask_msb:∀ k j:Fin 8,(128#8 >>> k.val).getMsbD j.val = decide (j = k):=by decide +kernel
theorem mask_and:∀ (b:BitVec 8) (k:Fin 8),decide (b &&& (128#8 >>> k.val) = 0#8) = !b.getMsbD k.val:=by decide +kernel
theorem mask_div:∀ (b:BitVec 8) (k:Fin 8),decide (b.toNat / 2 ^ (7 - k.val) % 2 = 1) = b.getMsbD k.val:=by decide +kernel
theorem setB_msb (b:BitVec 8) (i:Nat) (on:Bool) (j:Nat) (hj:j < 8):(setB b i on).getMsbD j = if j = i % 8 then on else b.getMsbD j:=by
  have h:=mask_msb ⟨i % 8,by omega⟩ ⟨j,hj⟩
  simp only [Fin.mk.injEq] at h
  unfold setB mask
  cases on
  · simp only [Bool.false_eq_true,if_false,BitVec.getMsbD_and,BitVec.getMsbD_not,h]
    by_cases e:j = i % 8 <;> simp [e,hj]
  · simp only [if_true,BitVec.getMsbD_or,h]
    by_cases e:j = i % 8 <;> simp [e]
theorem bt_set (x:List (BitVec 8)) (hx:x.length = 32) (i j:Nat) (on:Bool) (hi:i < 256) (_:j < 256):bt (setN x i on) j = if j = i then on else bt x j:=by
  unfold bt setN
  by_cases h:i / 8 = j / 8
  · rw [h,List.getD_eq_getElem?_getD,List.getElem?_set_self (by omega),Option.getD_some,setB_msb _ _ _ _ (by omega)]
    by_cases e:j = i
    · subst e;simp
    · rw [if_neg (by omega),if_neg e]
  · rw [List.getD_eq_getElem?_getD,List.getElem?_set_ne h,if_neg (by intro e;subst e;exact h rfl),List.getD_eq_getElem?_getD]
theorem bits_ext (x y:List (BitVec 8)) (hx:x.length = 32) (hy:y.length = 32) (h:∀ j,j < 256 → bt x j = bt y j):x = y:=by
  apply List.ext_getElem (by omega)
  intro k h1 h2
  apply BitVec.eq_of_getMsbD_eq
  intro j hj
  have:=h (8 * k + j) (by omega)
  unfold bt at this
  rw [show (8 * k + j) / 8 = k by omega,show (8 * k + j) % 8 = j by omega] at this
  simpa [h1,h2] using this
def common (x y:List (BitVec 8)):Nat:=((List.range 256).find? fun i => bt x i != bt y i).getD 256
theorem common_spec (x y:List (BitVec 8)):common x y ≤ 256 ∧ (∀ j,j < common x y → bt x j = bt y j) ∧ (common x y < 256 → bt x (common x y) ≠ bt y (common x y)):=by
  unfold common
  cases h:(List.range 256).find? fun i => bt x i != bt y i with
  | none =>
    rw [List.find?_eq_none] at h
    refine ⟨by simp,fun j hj => ?_,fun h => by simp at h⟩
    have:=h j (by simpa using hj)
    simpa using this
  | some n =>
    obtain ⟨h1,ps,qs,h2,h3⟩:=List.find?_eq_some_iff_append.1 h
    have hn:n ∈ List.range 256:=by rw [h2];simp
    have hlen:ps.length = n:=by
      have e1:(List.range 256)[ps.length]? = some n:=by rw [h2];simp
      rw [List.getElem?_range (by have:=congrArg List.length h2;simp at this;omega)] at e1
      exact Option.some.inj e1
    simp only [Option.getD_some]
    refine ⟨by have:=List.mem_range.1 hn;omega,fun j hj => ?_,fun _ => by simpa using h1⟩
    have hm:j ∈ ps:=by
      have e1:(List.range 256)[j]? = some j:=List.getElem?_range (by have:=List.mem_range.1 hn;omega)
      rw [h2,List.getElem?_append_left (by omega)] at e1
      exact List.mem_of_getElem? e1
    have:=h3 j hm
    simpa using this
theorem common_is (x y:List (BitVec 8)) (n:Nat) (h0:n ≤ 256) (h1:∀ j,j < n → bt x j = bt y j) (h2:n < 256 → bt x n ≠ bt y n):common x y = n:=by
  obtain ⟨a,b,c⟩:=common_spec x y
  rcases Nat.lt_trichotomy (common x y) n with h | h | h
  · exact absurd (h1 _ h) (c (by omega))
  · exact h
  · exact absurd (b _ h) (h2 (by omega))
theorem common_comm (x y:List (BitVec 8)):common x y = common y x:=by
  obtain ⟨a,b,c⟩:=common_spec y x
  exact common_is x y _ a (fun j hj => (b j hj).symm) (fun h => (c h).symm)
theorem common_lt (x y:List (BitVec 8)) (hx:x.length = 32) (hy:y.length = 32) (h:x ≠ y):common x y < 256:=by
  obtain ⟨a,b,c⟩:=common_spec x y
  rcases Nat.lt_or_ge (common x y) 256 with h' | h'
  · exact h'
  · exact absurd (bits_ext x y hx hy (fun j hj => b j (by omega))) h
def IsCut (x:List (BitVec 8)) (n:Int) (y:List (BitVec 8)):Prop:=y.length = 32 ∧ ∀ j,j < 256 → bt y j = (decide ((j:Int) < n) && bt x j)
theorem IsCut.common {a b y z:List (BitVec 8)} (h:IsCut a (common a b:Int) y) (k:IsCut b (common a b:Int) z):y = z:=
  bits_ext y z h.1 k.1 fun j hj => by
    rw [h.2 j hj,k.2 j hj]
    by_cases hlt:j < Go.Proofs.YtphmmnffgknkcaaGreatDoor.common a b
    · rw [(common_spec a b).2.1 j hlt]
    · have:¬ ((j:Int) < (Go.Proofs.YtphmmnffgknkcaaGreatDoor.common a b:Int)):=by omega
      simp [this]
def lessB:List (BitVec 8) → List (BitVec 8) → Bool
  | a :: ps,b :: qs => if a = b then lessB ps qs else decide (a.toNat < b.toNat)
  | _,_ => false
theorem lessB_self:∀ x,lessB x x = false
  | [] => rfl
  | a :: x => by simp [lessB,lessB_self x]
theorem lessB_trans:∀ (x y z:List (BitVec 8)),lessB x y = true → lessB y z = true → lessB x z = true
  | a :: x,b :: y,c :: z => by
    intro h k
    unfold lessB at *
    by_cases e1:a = b
    · subst e1
      rw [if_pos rfl] at h
      by_cases e2:a = c
      · rw [if_pos e2] at k ⊢;exact lessB_trans x y z h k
      · rw [if_neg e2] at k ⊢;exact k
    · rw [if_neg e1] at h
      by_cases e2:b = c
      · subst e2;rw [if_neg e1];exact h
      · rw [if_neg e2] at k
        have h':=of_decide_eq_true h
        have k':=of_decide_eq_true k
        rw [if_neg (by intro e;subst e;omega)]
        exact decide_eq_true (by omega)
  | [],_,_ => by intro h;simp [lessB] at h
  | _ :: _,[],_ => by intro h;simp [lessB] at h
  | _ :: _,_ :: _,[] => by intro _ h;simp [lessB] at h
theorem lessB_at:∀ (k:Nat) (x y:List (BitVec 8)),x.length = y.length → k < x.length → (∀ j,j < k → x.getD j 0 = y.getD j 0) → x.getD k 0 ≠ y.getD k 0 → lessB x y = decide ((x.getD k 0).toNat < (y.getD k 0).toNat)
  | 0,a :: x,b :: y,_,_,_,h => by simp at h;simp [lessB,h]
  | k + 1,a :: x,b :: y,hl,hk,he,h => by
    have h0:a = b:=by simpa using he 0 (by omega)
    subst h0
    unfold lessB
    rw [if_pos rfl]
    simpa using lessB_at k x y (by simpa using hl) (by simpa using hk) (fun j hj => by simpa using he (j + 1) (by omega)) (by simpa using h)
  | _,[],_,_,hk,_,_ => by simp at hk
  | _,_ :: _,[],hl,_,_,_ => by simp at hl
theorem lessB_none (x y:List (BitVec 8)) (hl:x.length = y.length) (he:∀ j,j < x.length → x.getD j 0 = y.getD j 0):lessB x y = false:=by
  have:x = y:=by
    apply List.ext_getElem hl
    intro j h1 h2
    have:=he j h1
    simpa [h1,h2] using this
  subst this;exact lessB_self x
theorem byte_lt (a b:BitVec 8) (m:Nat) (hm:m < 8) (h:∀ j,j < m → a.getMsbD j = b.getMsbD j) (hn:a.getMsbD m ≠ b.getMsbD m):decide (a.toNat < b.toNat) = b.getMsbD m:=by
  have key:∀ (c:BitVec 8) (j:Nat),j < 8 → decide (c.toNat / 2 ^ (7 - j) % 2 = 1) = c.getMsbD j:=fun c j hj => mask_div c ⟨j,hj⟩
  have h':∀ j,j < m → (a.toNat / 2 ^ (7 - j) % 2 = 1 ↔ b.toNat / 2 ^ (7 - j) % 2 = 1):=fun j hj => by
    have:=h j hj
    rw [← key a j (by omega),← key b j (by omega),decide_eq_decide] at this
    exact this
  rw [← key a m hm,← key b m hm,ne_eq,decide_eq_decide] at hn
  rw [← key b m hm,decide_eq_decide]
  have ha:=a.isLt
  have hb:=b.isLt
  generalize a.toNat = p at *
  generalize b.toNat = q at *
  have pre:∀ k,k ≤ m → p / 2 ^ (8 - k) = q / 2 ^ (8 - k):=by
    intro k
    induction k with
    | zero => intro _;rw [Nat.div_eq_of_lt (by simpa using ha),Nat.div_eq_of_lt (by simpa using hb)]
    | succ k ih =>
      intro hk
      have e:=ih (by omega)
      have f:=h' k (by omega)
      rw [show 8 - k = (7 - k) + 1 by omega,Nat.pow_succ,← Nat.div_div_eq_div_mul,← Nat.div_div_eq_div_mul] at e
      rw [show 8 - (k + 1) = 7 - k by omega]
      omega
  have e:=pre m (Nat.le_refl _)
  rw [show 8 - m = (7 - m) + 1 by omega,Nat.pow_succ,← Nat.div_div_eq_div_mul,← Nat.div_div_eq_div_mul] at e
  have h1:q ≤ p → q / 2 ^ (7 - m) ≤ p / 2 ^ (7 - m):=fun h => Nat.div_le_div_right h
  have h2:p ≤ q → p / 2 ^ (7 - m) ≤ q / 2 ^ (7 - m):=fun h => Nat.div_le_div_right h
  generalize p / 2 ^ (7 - m) = u at *
  generalize q / 2 ^ (7 - m) = v at *
  omega
theorem less_common (x y:List (BitVec 8)) (hx:x.length = 32) (hy:y.length = 32) (h:x ≠ y):lessB x y = bt y (common x y):=by
  obtain ⟨a,b,c⟩:=common_spec x y
  have hn:=common_lt x y hx hy h
  generalize common x y = n at *
  have hd:=c hn
  have hbit:∀ j,j < n % 8 → (x.getD (n / 8) 0).getMsbD j = (y.getD (n / 8) 0).getMsbD j:=fun j hj => by
    have:=b (8 * (n / 8) + j) (by omega)
    unfold bt at this
    rwa [show (8 * (n / 8) + j) / 8 = n / 8 by omega,show (8 * (n / 8) + j) % 8 = j by omega] at this
  rw [lessB_at (n / 8) x y (by omega) (by omega) ?_ ?_]
  · exact byte_lt _ _ (n % 8) (by omega) hbit hd
  · intro j hj
    apply BitVec.eq_of_getMsbD_eq
    intro i hi
    have:=b (8 * j + i) (by omega)
    unfold bt at this
    rwa [show (8 * j + i) / 8 = j by omega,show (8 * j + i) % 8 = i by omega] at this
  · intro e;unfold bt at hd;rw [e] at hd;exact hd rfl
theorem cmp_less:∀ (x y:List (BitVec 8)),x.length = y.length → decide (Lib.compareBytes (x.map UInt8.ofBitVec) (y.map UInt8.ofBitVec) < 0) = lessB x y
  | [],[],_ => by simp [Lib.compareBytes,lessB]
  | a :: x,b :: y,hl => by
    have ih:=cmp_less x y (by simpa using hl)
    simp only [List.map_cons,Lib.compareBytes,lessB]
    have e:∀ p q:BitVec 8,(UInt8.ofBitVec p < UInt8.ofBitVec q) ↔ p.toNat < q.toNat:=fun p q => by simp [UInt8.lt_iff_toNat_lt]
    rw [← ih]
    by_cases e1:a = b
    · subst e1;simp [e]
    · have:a.toNat ≠ b.toNat:=fun h => e1 (BitVec.eq_of_toNat_eq h)
      rw [if_neg e1]
      by_cases h:a.toNat < b.toNat
      · simp [e,h]
      · have h2:b.toNat < a.toNat:=by omega
        simp [e,h,h2]
def pathBits (x:List (BitVec 8)) (k:Nat):List (Nat × Bool):=(List.range k).map fun j => (j,bt x j)
theorem pathBits_succ (x:List (BitVec 8)) (k:Nat):pathBits x (k + 1) = pathBits x k ++ [(k,bt x k)]:=by simp [pathBits,List.range_succ]
theorem pathBits_len (x:List (BitVec 8)) (k:Nat):(pathBits x k).length = k:=by simp [pathBits]
end Go.Proofs.YtphmmnffgknkcaaGreatDoor
namespace Go.Proofs.YtphmmnffgknkcaaGreatDoor
abbrev Lf:=List (BitVec 8) × List (BitVec 8)
def okLf (l:List Lf):Prop:=∀ p ∈ l,p.1.length = 32 ∧ p.2.length = 32
def Up (l:List Lf):Prop:=l.Pairwise fun p q => lessB p.1 q.1 = true
def putL (l:List Lf) (x v:List (BitVec 8)):List Lf:=(l.takeWhile fun p => lessB p.1 x) ++ (x,v) :: (l.dropWhile fun p => lessB p.1 x).filter fun p => decide (p.1 ≠ x)
def ofL:List Lf → List Lf:=fun z => z.foldl (fun l p => putL l p.1 p.2) []
def getL (l:List Lf) (x:List (BitVec 8)):Option (List (BitVec 8)):=(l.find? fun p => decide (p.1 = x)).map (·.2)
def halfL (l:List Lf) (d:Nat) (on:Bool):List Lf:=l.filter fun p => bt p.1 d == on
theorem less_ne {x y:List (BitVec 8)} (h:lessB x y = true):x ≠ y:=by
  rintro rfl
  rw [lessB_self] at h
  cases h
theorem less_asym {x y:List (BitVec 8)} (h:lessB x y = true):lessB y x = false:=by
  cases h2:lessB y x with
  | false => rfl
  | true =>
    have:=lessB_trans x y x h h2
    rw [lessB_self] at this
    cases this
theorem less_total {x y:List (BitVec 8)} (hx:x.length = 32) (hy:y.length = 32) (h:x ≠ y):lessB x y = true ∨ lessB y x = true:=by
  rw [less_common x y hx hy h,less_common y x hy hx (Ne.symm h),common_comm y x]
  have hc:=(common_spec x y).2.2 (common_lt x y hx hy h)
  cases h1:bt y (common x y) with
  | true => exact Or.inl rfl
  | false =>
    cases h2:bt x (common x y) with
    | true => exact Or.inr rfl
    | false => rw [h1,h2] at hc;exact absurd rfl hc
theorem mem_take_less {l:List Lf} {x:List (BitVec 8)} {p:Lf} (h:p ∈ l.takeWhile fun p => lessB p.1 x):lessB p.1 x = true:=by
  induction l with
  | nil => simp at h
  | cons a r ih =>
    rw [List.takeWhile_cons] at h
    split at h
    · rcases List.mem_cons.1 h with rfl | h
      · assumption
      · exact ih h
    · simp at h
theorem take_drop_while (l:List Lf) (f:Lf → Bool):l.takeWhile f ++ l.dropWhile f = l:=List.takeWhile_append_dropWhile
theorem drop_ge {l:List Lf} {x:List (BitVec 8)} (hu:Up l) {p:Lf} (h:p ∈ l.dropWhile fun p => lessB p.1 x):lessB p.1 x = false:=by
  induction l with
  | nil => simp at h
  | cons a r ih =>
    have hu':=List.pairwise_cons.1 hu
    rw [List.dropWhile_cons] at h
    split at h
    · exact ih hu'.2 h
    · rename_i hn
      rcases List.mem_cons.1 h with rfl | h
      · simpa using hn
      · cases hc:lessB p.1 x with
        | false => rfl
        | true => exact absurd (lessB_trans _ _ _ (hu'.1 p h) hc) hn
theorem mem_putL {l:List Lf} {x v:List (BitVec 8)} {p:Lf}:p ∈ putL l x v ↔ p = (x,v) ∨ (p.1 ≠ x ∧ p ∈ l):=by
  unfold putL
  rw [List.mem_append,List.mem_cons,List.mem_filter]
  constructor
  · rintro (h | h | ⟨h1,h2⟩)
    · exact Or.inr ⟨less_ne (mem_take_less h),by rw [← take_drop_while l (fun p => lessB p.1 x)];exact List.mem_append_left _ h⟩
    · exact Or.inl h
    · exact Or.inr ⟨of_decide_eq_true h2,by rw [← take_drop_while l (fun p => lessB p.1 x)];exact List.mem_append_right _ h1⟩
  · rintro (h | ⟨h1,h2⟩)
    · exact Or.inr (Or.inl h)
    · rw [← take_drop_while l (fun p => lessB p.1 x),List.mem_append] at h2
      rcases h2 with h2 | h2
      · exact Or.inl h2
      · exact Or.inr (Or.inr ⟨h2,decide_eq_true h1⟩)
theorem putL_ok {l:List Lf} {x v:List (BitVec 8)} (h:okLf l) (hx:x.length = 32) (hv:v.length = 32):okLf (putL l x v):=by
  intro p hp
  rcases mem_putL.1 hp with rfl | ⟨_,hp⟩
  · exact ⟨hx,hv⟩
  · exact h p hp
theorem putL_up {l:List Lf} {x v:List (BitVec 8)} (h:okLf l) (hx:x.length = 32) (hu:Up l):Up (putL l x v):=by
  have hs:List.Pairwise (fun p q:Lf => lessB p.1 q.1 = true) ((l.takeWhile fun p => lessB p.1 x) ++ (l.dropWhile fun p => lessB p.1 x)):=by rw [take_drop_while];exact hu
  rw [List.pairwise_append] at hs
  unfold putL Up
  rw [List.pairwise_append]
  refine ⟨hs.1,?_,?_⟩
  · rw [List.pairwise_cons]
    refine ⟨fun p hp => ?_,hs.2.1.filter _⟩
    rw [List.mem_filter] at hp
    have hne:=of_decide_eq_true hp.2
    have hl:p ∈ l:=by rw [← take_drop_while l (fun p => lessB p.1 x)];exact List.mem_append_right _ hp.1
    rcases less_total (h p hl).1 hx hne with h1 | h1
    · rw [drop_ge hu hp.1] at h1;cases h1
    · exact h1
  · intro p hp q hq
    have hpx:=mem_take_less hp
    rcases List.mem_cons.1 hq with rfl | hq
    · exact hpx
    · exact hs.2.2 p hp q (List.mem_filter.1 hq).1
theorem up_ext:∀ {l m:List Lf},Up l → Up m → (∀ p,p ∈ l ↔ p ∈ m) → l = m
  | [],[],_,_,_ => rfl
  | [],b :: m,_,_,h => absurd ((h b).2 (List.mem_cons_self)) (by simp)
  | a :: l,[],_,_,h => absurd ((h a).1 (List.mem_cons_self)) (by simp)
  | a :: l,b :: m,hl,hm,h => by
    have hl':=List.pairwise_cons.1 hl
    have hm':=List.pairwise_cons.1 hm
    have hab:a = b:=by
      rcases List.mem_cons.1 ((h a).1 List.mem_cons_self) with h1 | h1
      · exact h1
      · rcases List.mem_cons.1 ((h b).2 List.mem_cons_self) with h2 | h2
        · exact h2.symm
        · have h3:=hm'.1 a h1
          have h4:=hl'.1 b h2
          rw [less_asym h3] at h4
          cases h4
    subst hab
    have hnl:a ∉ l:=fun hh => by have:=hl'.1 a hh;rw [lessB_self] at this;cases this
    have hnm:a ∉ m:=fun hh => by have:=hm'.1 a hh;rw [lessB_self] at this;cases this
    rw [up_ext hl'.2 hm'.2 fun p => ?_]
    constructor
    · intro hp
      rcases List.mem_cons.1 ((h p).1 (List.mem_cons_of_mem _ hp)) with rfl | h1
      · exact absurd hp hnl
      · exact h1
    · intro hp
      rcases List.mem_cons.1 ((h p).2 (List.mem_cons_of_mem _ hp)) with rfl | h1
      · exact absurd hp hnm
      · exact h1
theorem up_nil:Up []:=List.Pairwise.nil
theorem ok_nil:okLf []:=fun _ h => by cases h
theorem ofL_snoc (z:List Lf) (p:Lf):ofL (z ++ [p]) = putL (ofL z) p.1 p.2:=by simp [ofL,List.foldl_append]
theorem ofL_good (z:List Lf) (h:okLf z):okLf (ofL z) ∧ Up (ofL z):=by
  have key:∀ (z l:List Lf),okLf z → okLf l → Up l → okLf (z.foldl (fun l p => putL l p.1 p.2) l) ∧ Up (z.foldl (fun l p => putL l p.1 p.2) l):=by
    intro z
    induction z with
    | nil => intro l _ h1 h2;exact ⟨h1,h2⟩
    | cons a r ih =>
      intro l hz h1 h2
      have ha:=hz a List.mem_cons_self
      exact ih _ (fun p hp => hz p (List.mem_cons_of_mem _ hp)) (putL_ok h1 ha.1 ha.2) (putL_up h1 ha.1 h2)
  exact key z [] h ok_nil up_nil
def Fits (l:List Lf) (d:Nat):Prop:=okLf l ∧ Up l ∧ ∀ p ∈ l,∀ q ∈ l,∀ j,j < d → bt p.1 j = bt q.1 j
theorem Fits.zero {l:List Lf} (h:okLf l) (hu:Up l):Fits l 0:=⟨h,hu,fun _ _ _ _ j hj => by omega⟩
theorem Fits.half {l:List Lf} {d:Nat} (h:Fits l d) (on:Bool):Fits (halfL l d on) (d + 1):=by
  refine ⟨fun p hp => h.1 p (List.mem_filter.1 hp).1,h.2.1.filter _,fun p hp q hq j hj => ?_⟩
  have hp':=List.mem_filter.1 hp
  have hq':=List.mem_filter.1 hq
  by_cases hjd:j < d
  · exact h.2.2 p hp'.1 q hq'.1 j hjd
  · have:j = d:=by omega
    subst this
    rw [eq_of_beq hp'.2,eq_of_beq hq'.2]
theorem Fits.lt {l:List Lf} {d:Nat} (h:Fits l d) (h2:2 ≤ l.length):d < 256:=by
  match l,h2 with
  | a :: b :: r,_ =>
    rcases Nat.lt_or_ge d 256 with hd | hd
    · exact hd
    · exfalso
      have hab:=(List.pairwise_cons.1 h.2.1).1 b List.mem_cons_self
      have ha:=h.1 a List.mem_cons_self
      have hb:=h.1 b (List.mem_cons_of_mem _ List.mem_cons_self)
      exact less_ne hab (bits_ext _ _ ha.1 hb.1 fun j hj => h.2.2 a List.mem_cons_self b (List.mem_cons_of_mem _ List.mem_cons_self) j (by omega))
theorem half_le (l:List Lf) (d:Nat) (on:Bool):(halfL l d on).length ≤ l.length:=List.length_filter_le _ _
end Go.Proofs.YtphmmnffgknkcaaGreatDoor
namespace Go.Proofs.YtphmmnffgknkcaaGreatDoor
open Go.RowKit
set_option maxRecDepth 100000
def rootF:Nat → Nat → List Lf → List (BitVec 8)
  | _,_,[] => dig [69]
  | _,_,[p] => dig (pairB 76 p.1 p.2)
  | 0,_,_ => []
  | f + 1,d,l => dig (pairB 78 (rootF f (d + 1) (halfL l d false)) (rootF f (d + 1) (halfL l d true)))
def rootL (l:List Lf) (d:Nat):List (BitVec 8):=rootF (256 - d) d l
theorem rootL_nil (d:Nat):rootL [] d = dig [69]:=by unfold rootL rootF;rfl
theorem rootL_one (p:Lf) (d:Nat):rootL [p] d = dig (pairB 76 p.1 p.2):=by unfold rootL;cases 256 - d <;> rfl
theorem rootF_two (f d:Nat) {l:List Lf} (h:2 ≤ l.length):rootF (f + 1) d l = dig (pairB 78 (rootF f (d + 1) (halfL l d false)) (rootF f (d + 1) (halfL l d true))):=by
  match l,h with
  | a :: b :: r,_ => rfl
theorem rootL_two {l:List Lf} {d:Nat} (h:Fits l d) (h2:2 ≤ l.length):rootL l d = dig (pairB 78 (rootL (halfL l d false) (d + 1)) (rootL (halfL l d true) (d + 1))):=by
  have hd:=h.lt h2
  unfold rootL
  rw [show 256 - d = (256 - (d + 1)) + 1 by omega,rootF_two _ _ h2]
theorem rootL_len {l:List Lf} {d:Nat} (h:Fits l d):(rootL l d).length = 32:=by
  match l,h with
  | [],_ => rw [rootL_nil];exact len_dig' _
  | [p],_ => rw [rootL_one];exact len_dig' _
  | a :: b :: r,h => rw [rootL_two h (by simp)];exact len_dig' _
def wayF (x:List (BitVec 8)):Nat → Nat → List Lf → List (List (BitVec 8)) × Option Lf
  | _,_,[] => ([],none)
  | _,_,[p] => ([],some p)
  | 0,_,_ => ([],none)
  | f + 1,d,l => (rootL (halfL l d (!bt x d)) (d + 1) :: (wayF x f (d + 1) (halfL l d (bt x d))).1,(wayF x f (d + 1) (halfL l d (bt x d))).2)
def wayL (l:List Lf) (x:List (BitVec 8)) (d:Nat):List (List (BitVec 8)) × Option Lf:=wayF x (256 - d) d l
theorem wayL_nil (x:List (BitVec 8)) (d:Nat):wayL [] x d = ([],none):=by unfold wayL wayF;rfl
theorem wayL_one (p:Lf) (x:List (BitVec 8)) (d:Nat):wayL [p] x d = ([],some p):=by unfold wayL;cases 256 - d <;> rfl
theorem wayF_two (x:List (BitVec 8)) (f d:Nat) {l:List Lf} (h:2 ≤ l.length):wayF x (f + 1) d l = (rootL (halfL l d (!bt x d)) (d + 1) :: (wayF x f (d + 1) (halfL l d (bt x d))).1,(wayF x f (d + 1) (halfL l d (bt x d))).2):=by
  match l,h with
  | a :: b :: r,_ => rfl
theorem wayL_two {l:List Lf} {x:List (BitVec 8)} {d:Nat} (h:Fits l d) (h2:2 ≤ l.length):wayL l x d = (rootL (halfL l d (!bt x d)) (d + 1) :: (wayL (halfL l d (bt x d)) x (d + 1)).1,(wayL (halfL l d (bt x d)) x (d + 1)).2):=by
  have hd:=h.lt h2
  unfold wayL
  rw [show 256 - d = (256 - (d + 1)) + 1 by omega,wayF_two _ _ _ h2]
theorem wayL_short {l:List Lf} (x:List (BitVec 8)) (d:Nat) (h:l.length ≤ 1):wayL l x d = ([],l.head?):=by
  match l,h with
  | [],_ => exact wayL_nil x d
  | [p],_ => exact wayL_one p x d
end Go.Proofs.YtphmmnffgknkcaaGreatDoor
namespace Go.Proofs.YtphmmnffgknkcaaGreatDoor
def Near (l:List Lf) (x:List (BitVec 8)) (d:Nat):Prop:=∀ p ∈ l,∀ j,j < d → bt p.1 j = bt x j
theorem Near.zero (l:List Lf) (x:List (BitVec 8)):Near l x 0:=fun _ _ j hj => by omega
theorem Near.half {l:List Lf} {x:List (BitVec 8)} {d:Nat} (h:Near l x d):Near (halfL l d (bt x d)) x (d + 1):=by
  intro p hp j hj
  have hp':=List.mem_filter.1 hp
  by_cases hjd:j < d
  · exact h p hp'.1 j hjd
  · have:j = d:=by omega
    subst this
    exact eq_of_beq hp'.2
theorem mem_halfL {l:List Lf} {d:Nat} {b:Bool} {p:Lf}:p ∈ halfL l d b ↔ p ∈ l ∧ bt p.1 d = b:=by
  unfold halfL
  rw [List.mem_filter]
  exact ⟨fun h => ⟨h.1,eq_of_beq h.2⟩,fun h => ⟨h.1,by rw [h.2];simp⟩⟩
theorem Fits.put {l:List Lf} {x v:List (BitVec 8)} {d:Nat} (h:Fits l d) (hn:Near l x d) (hx:x.length = 32) (hv:v.length = 32):Fits (putL l x v) d:=by
  refine ⟨putL_ok h.1 hx hv,putL_up h.1 hx h.2.1,fun p hp q hq j hj => ?_⟩
  have key:∀ p ∈ putL l x v,bt p.1 j = bt x j:=fun p hp => by
    rcases mem_putL.1 hp with rfl | ⟨_,h1⟩
    · rfl
    · exact hn p h1 j hj
  rw [key p hp,key q hq]
theorem getL_half {l:List Lf} {x:List (BitVec 8)} {d:Nat}:getL (halfL l d (bt x d)) x = getL l x:=by
  unfold getL halfL
  congr 1
  induction l with
  | nil => rfl
  | cons p r ih =>
    rw [List.filter_cons,List.find?_cons]
    by_cases hp:p.1 = x
    · have:(bt p.1 d == bt x d) = true:=by rw [hp];simp
      rw [if_pos this,List.find?_cons,decide_eq_true hp]
    · rw [decide_eq_false hp]
      split
      · rw [List.find?_cons,decide_eq_false hp]
        exact ih
      · exact ih
theorem half_order {l:List Lf} {d:Nat} (h:Fits l d):l = halfL l d false ++ halfL l d true:=by
  have key:∀ l:List Lf,okLf l → Up l → (∀ p ∈ l,∀ q ∈ l,∀ j,j < d → bt p.1 j = bt q.1 j) → l = halfL l d false ++ halfL l d true:=by
    intro l
    induction l with
    | nil => intro _ _ _;rfl
    | cons p r ih =>
      intro ho hu hc
      have hu':=List.pairwise_cons.1 hu
      have hr:=ih (fun q hq => ho q (List.mem_cons_of_mem _ hq)) hu'.2 (fun a ha b hb => hc a (List.mem_cons_of_mem _ ha) b (List.mem_cons_of_mem _ hb))
      cases hb:bt p.1 d with
      | false =>
        have e1:halfL (p :: r) d false = p :: halfL r d false:=by unfold halfL;rw [List.filter_cons,hb];rfl
        have e2:halfL (p :: r) d true = halfL r d true:=by unfold halfL;rw [List.filter_cons,hb];rfl
        rw [e1,e2,List.cons_append,← hr]
      | true =>
        have e1:halfL (p :: r) d false = halfL r d false:=by unfold halfL;rw [List.filter_cons,hb];rfl
        have e2:halfL (p :: r) d true = p :: halfL r d true:=by unfold halfL;rw [List.filter_cons,hb];rfl
        have e3:halfL r d false = []:=by
          unfold halfL
          rw [List.filter_eq_nil_iff]
          intro q hq hqb
          have hqf:bt q.1 d = false:=eq_of_beq hqb
          have hlt:=hu'.1 q hq
          have hp32:=(ho p List.mem_cons_self).1
          have hq32:=(ho q (List.mem_cons_of_mem _ hq)).1
          have hne:=less_ne hlt
          have hcm:=(common_spec p.1 q.1)
          rw [less_common p.1 q.1 hp32 hq32 hne] at hlt
          have hcd:common p.1 q.1 = d:=by
            rcases Nat.lt_trichotomy (common p.1 q.1) d with h1 | h1 | h1
            · exact absurd (hc p List.mem_cons_self q (List.mem_cons_of_mem _ hq) _ h1) (hcm.2.2 (common_lt _ _ hp32 hq32 hne))
            · exact h1
            · have:=hcm.2.1 d h1
              rw [hb,hqf] at this
              cases this
          rw [hcd,hqf] at hlt
          cases hlt
        rw [e1,e2,e3,List.nil_append]
        rw [e3,List.nil_append] at hr
        rw [← hr]
  exact key l h.1 h.2.1 h.2.2
theorem half_len {l:List Lf} {d:Nat} (h:Fits l d):l.length = (halfL l d false).length + (halfL l d true).length:=by
  have:=congrArg List.length (half_order h)
  rwa [List.length_append] at this
end Go.Proofs.YtphmmnffgknkcaaGreatDoor

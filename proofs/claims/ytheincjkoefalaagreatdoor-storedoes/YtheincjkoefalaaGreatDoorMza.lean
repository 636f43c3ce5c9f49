/- Texts that the proof leans on, one behind the other: Plain mathematics of SHA-256 over words of 32 bits (BitVec 32) and bytes (BitVec 8); no program is named here. Numbers, texts and lists as bytes, each in one way: plain lists, no program is named here. The walks of the turns: blazonref01.turn, sha.turned and bits.RotateLeft32 answer the word turned to the right, and leave the world as it is. .. -/
import Derived.WalkKit
import Derived.Test.YtheincjkoefalaaGreatDoorChecked
import Derived.WalkSpells
import Derived.WalkLawsBesides
import Derived.Deep.MidRow
import Derived.Deep.Draws
import Derived.Deep.RegionHeld3
import Derived.Deep.QuietTactic
import Derived.BigQuiet
import Derived.Laws.CopyOwn
import Derived.StillTailTactics
import Derived.Deep.Quiet
import Derived.BigCall
import Derived.Deep.RegionLaw
import Derived.Laws.AppendOwnNone
import Derived.Deep.RegionWith
import Derived.Lib.ConvBytes
import Derived.Deep.RegionHeld
import Derived.Laws.ResultCell
import Derived.Laws.Tables
import Derived.Laws.CopyRow
import Derived.Laws.MakeOwn
import Derived.Laws.IdiomCopy
import Derived.Test.YtheincjkoefalaaGreatDoorMzQ
set_option maxRecDepth 100000
set_option maxHeartbeats 16000000
namespace Go.Proofs.YtheincjkoefalaaGreatDoor
open Go.RowKit

def rr (x:BitVec 32) (n:Nat):BitVec 32:=x >>> n ||| x <<< (32 - n)
def cw (l:List (BitVec 32)):List Value:=l.map fun x => Value.int .u32 (x.toNat:Int)
def cb (l:List (BitVec 8)):List Value:=l.map fun x => Value.int .u8 (x.toNat:Int)
def wordAt (b:List (BitVec 8)) (t:Nat):BitVec 32:=
 (b.getD (4 * t) 0).setWidth 32 <<< 24 ||| (b.getD (4 * t + 1) 0).setWidth 32 <<< 16 ||| (b.getD (4 * t + 2) 0).setWidth 32 <<< 8 ||| (b.getD (4 * t + 3) 0).setWidth 32
def sig0 (x:BitVec 32):BitVec 32:=rr x 7 ^^^ rr x 18 ^^^ x >>> 3
def sig1 (x:BitVec 32):BitVec 32:=rr x 17 ^^^ rr x 19 ^^^ x >>> 10
def sched1 (b:List (BitVec 8)):Nat → List (BitVec 32)
 | 0 => List.replicate 64 0
 | k + 1 => (sched1 b k).set k (wordAt b k)
def sched2 (b:List (BitVec 8)):Nat → List (BitVec 32)
 | 0 => sched1 b 16
 | k + 1 => (sched2 b k).set (k + 16) ((sched2 b k).getD k 0 + sig0 ((sched2 b k).getD (k + 1) 0) + (sched2 b k).getD (k + 9) 0 + sig1 ((sched2 b k).getD (k + 14) 0))

def z8:List (BitVec 32):=List.replicate 8 0
def z64:List (BitVec 32):=List.replicate 64 0
def zb32:List (BitVec 8):=List.replicate 32 0
def kw:List (BitVec 32):=[1116352408,1899447441,3049323471,3921009573,961987163,1508970993,2453635748,2870763221,3624381080,310598401,607225278,1426881987,1925078388,2162078206,2614888103,3248222580,3835390401,4022224774,264347078,604807628,770255983,1249150122,1555081692,1996064986,2554220882,2821834349,2952996808,3210313671,3336571891,3584528711,113926993,338241895,666307205,773529912,1294757372,1396182291,1695183700,1986661051,2177026350,2456956037,2730485921,2820302411,3259730800,3345764771,3516065817,3600352804,4094571909,275423344,430227734,506948616,659060556,883997877,958139571,1322822218,1537002063,1747873779,1955562222,2024104815,2227730452,2361852424,2428436474,2756734187,3204031479,3329325298]
structure St where
 a:BitVec 32
 b:BitVec 32
 c:BitVec 32
 d:BitVec 32
 e:BitVec 32
 f:BitVec 32
 g:BitVec 32
 h:BitVec 32
def St.l (s:St):List (BitVec 32):=[s.a,s.b,s.c,s.d,s.e,s.f,s.g,s.h]
def st0:St:=⟨1779033703,3144134277,1013904242,2773480762,1359893119,2600822924,528734635,1541459225⟩
def big1 (x:BitVec 32):BitVec 32:=rr x 6 ^^^ rr x 11 ^^^ rr x 25
def big0 (x:BitVec 32):BitVec 32:=rr x 2 ^^^ rr x 13 ^^^ rr x 22
def cho (e f g:BitVec 32):BitVec 32:=(e &&& f) ^^^ (~~~e &&& g)
def maj (a b c:BitVec 32):BitVec 32:=(a &&& b) ^^^ (a &&& c) ^^^ (b &&& c)
def rnd (s:St) (k w:BitVec 32):St:=
 ⟨s.h + big1 s.e + cho s.e s.f s.g + k + w + (big0 s.a + maj s.a s.b s.c),s.a,s.b,s.c,s.d + (s.h + big1 s.e + cho s.e s.f s.g + k + w),s.e,s.f,s.g⟩
def rounds (ws:List (BitVec 32)) (s:St):Nat → St
 | 0 => s
 | n + 1 => rnd (rounds ws s n) (kw.getD n 0) (ws.getD n 0)
def St.plus (s t:St):St:=⟨s.a + t.a,s.b + t.b,s.c + t.c,s.d + t.d,s.e + t.e,s.f + t.f,s.g + t.g,s.h + t.h⟩
def compress (s:St) (b:List (BitVec 8)):St:=s.plus (rounds (sched2 b 48) s 64)
theorem ofInt_toNat32 (x:BitVec 32):BitVec.ofInt 32 (x.toNat:Int) = x:=by
 apply BitVec.eq_of_toNat_eq;simp
theorem wrap_lt32 (x:BitVec 32):IntKind.u32.wrap (x.toNat:Int) = (x.toNat:Int):=by
 have:=x.isLt
 simp [IntKind.wrap,IntKind.bits,IntKind.signed];omega
theorem u32_or (x y:BitVec 32):bits .or .u32 (x.toNat:Int) (y.toNat:Int) = ((x ||| y).toNat:Int):=by
 show IntKind.u32.wrap ((BitVec.ofInt 32 (x.toNat:Int) ||| BitVec.ofInt 32 (y.toNat:Int)).toNat:Int) = _
 rw [ofInt_toNat32,ofInt_toNat32,wrap_lt32]
theorem u32_xor (x y:BitVec 32):bits .xor .u32 (x.toNat:Int) (y.toNat:Int) = ((x ^^^ y).toNat:Int):=by
 show IntKind.u32.wrap ((BitVec.ofInt 32 (x.toNat:Int) ^^^ BitVec.ofInt 32 (y.toNat:Int)).toNat:Int) = _
 rw [ofInt_toNat32,ofInt_toNat32,wrap_lt32]
theorem u32_and (x y:BitVec 32):bits .and .u32 (x.toNat:Int) (y.toNat:Int) = ((x &&& y).toNat:Int):=by
 show IntKind.u32.wrap ((BitVec.ofInt 32 (x.toNat:Int) &&& BitVec.ofInt 32 (y.toNat:Int)).toNat:Int) = _
 rw [ofInt_toNat32,ofInt_toNat32,wrap_lt32]
theorem u32_add (x y:BitVec 32):((x.toNat:Int) + (y.toNat:Int)) % 4294967296 = ((x + y).toNat:Int):=by
 simp [BitVec.toNat_add]
theorem u32_shr (x:BitVec 32) (n:Nat):(x.toNat:Int) / 2 ^ n = ((x >>> n).toNat:Int):=by
 simp [BitVec.toNat_ushiftRight,Nat.shiftRight_eq_div_pow]
theorem u32_shl (x:BitVec 32) (n:Nat):(x.toNat:Int) * 2 ^ n % 4294967296 = ((x <<< n).toNat:Int):=by
 simp [BitVec.toNat_shiftLeft,Nat.shiftLeft_eq]
theorem u32_add4 (x y z u:BitVec 32):((x.toNat:Int) + (y.toNat:Int) + (z.toNat:Int) + (u.toNat:Int)) % 4294967296 = ((x + y + z + u).toNat:Int):=by
 simp [BitVec.toNat_add]
theorem sig0_eq (x:BitVec 32):bits .xor .u32 (bits .xor .u32 ((rr x 7).toNat:Int) ((rr x 18).toNat:Int)) ((x.toNat:Int) / 8) = ((sig0 x).toNat:Int):=by
 rw [show ((x.toNat:Int) / (8:Int)) = ((x >>> 3).toNat:Int) from u32_shr x 3,u32_xor,u32_xor];rfl
theorem sig1_eq (x:BitVec 32):bits .xor .u32 (bits .xor .u32 ((rr x 17).toNat:Int) ((rr x 19).toNat:Int)) ((x.toNat:Int) / 1024) = ((sig1 x).toNat:Int):=by
 rw [show ((x.toNat:Int) / (1024:Int)) = ((x >>> 10).toNat:Int) from u32_shr x 10,u32_xor,u32_xor];rfl
theorem byte_word (b:BitVec 8):(b.toNat:Int) = ((b.setWidth 32).toNat:Int):=by
 have:=b.isLt
 simp [BitVec.toNat_setWidth];omega
theorem u32_not (x:BitVec 32):bits .xor .u32 (x.toNat:Int) 4294967295 = ((~~~x).toNat:Int):=by
 have:=u32_xor x (BitVec.allOnes 32)
 rw [BitVec.xor_allOnes] at this
 rw [← this];rfl
theorem big1_eq (e:BitVec 32):bits .xor .u32 (bits .xor .u32 ((rr e 6).toNat:Int) ((rr e 11).toNat:Int)) ((rr e 25).toNat:Int) = ((big1 e).toNat:Int):=by rw [u32_xor,u32_xor];rfl
theorem big0_eq (a:BitVec 32):bits .xor .u32 (bits .xor .u32 ((rr a 2).toNat:Int) ((rr a 13).toNat:Int)) ((rr a 22).toNat:Int) = ((big0 a).toNat:Int):=by rw [u32_xor,u32_xor];rfl
theorem not_own (x:BitVec 32):bits .xor .u32 (if IntKind.u32.signed = true then -1 else IntKind.u32.max) (x.toNat:Int) = ((~~~x).toNat:Int):=by
 have:=u32_xor (BitVec.allOnes 32) x
 rw [BitVec.allOnes_xor] at this
 rw [← this];rfl
theorem cho_own (e f g:BitVec 32):bits .xor .u32 (bits .and .u32 (e.toNat:Int) (f.toNat:Int)) (bits .and .u32 (bits .xor .u32 (if IntKind.u32.signed = true then -1 else IntKind.u32.max) (e.toNat:Int)) (g.toNat:Int)) = ((cho e f g).toNat:Int):=by
 rw [not_own,u32_and,u32_and,u32_xor];rfl
theorem cho_ref (e f g:BitVec 32):bits .xor .u32 (bits .and .u32 (e.toNat:Int) (f.toNat:Int)) (bits .and .u32 (bits .xor .u32 (e.toNat:Int) 4294967295) (g.toNat:Int)) = ((cho e f g).toNat:Int):=by
 rw [u32_not,u32_and,u32_and,u32_xor];rfl
theorem maj_eq (a b c:BitVec 32):bits .xor .u32 (bits .xor .u32 (bits .and .u32 (a.toNat:Int) (b.toNat:Int)) (bits .and .u32 (a.toNat:Int) (c.toNat:Int))) (bits .and .u32 (b.toNat:Int) (c.toNat:Int)) = ((maj a b c).toNat:Int):=by
 rw [u32_and,u32_and,u32_and,u32_xor,u32_xor];rfl
theorem sum_a (h p q y x u v:BitVec 32):(((h.toNat:Int) + (p.toNat:Int) + (q.toNat:Int) + (y.toNat:Int) + (x.toNat:Int)) % 4294967296 + ((u.toNat:Int) + (v.toNat:Int)) % 4294967296) % 4294967296 = ((h + p + q + y + x + (u + v)).toNat:Int):=by
 simp [BitVec.toNat_add]
theorem sum_e (d h p q y x:BitVec 32):((d.toNat:Int) + ((h.toNat:Int) + (p.toNat:Int) + (q.toNat:Int) + (y.toNat:Int) + (x.toNat:Int)) % 4294967296) % 4294967296 = ((d + (h + p + q + y + x)).toNat:Int):=by
 simp [BitVec.toNat_add]
theorem plus_cells (s q:St):[Value.int .u32 (((s.a.toNat:Int) + (q.a.toNat:Int)) % 4294967296),Value.int .u32 (((s.b.toNat:Int) + (q.b.toNat:Int)) % 4294967296),Value.int .u32 (((s.c.toNat:Int) + (q.c.toNat:Int)) % 4294967296),Value.int .u32 (((s.d.toNat:Int) + (q.d.toNat:Int)) % 4294967296),Value.int .u32 (((s.e.toNat:Int) + (q.e.toNat:Int)) % 4294967296),Value.int .u32 (((s.f.toNat:Int) + (q.f.toNat:Int)) % 4294967296),Value.int .u32 (((s.g.toNat:Int) + (q.g.toNat:Int)) % 4294967296),Value.int .u32 (((s.h.toNat:Int) + (q.h.toNat:Int)) % 4294967296)] = cw (s.plus q).l:=by
 simp only [u32_add];rfl
theorem compress_eq (s:St) (b:List (BitVec 8)):compress s b = s.plus (rounds (sched2 b 48) s 64):=rfl
theorem len_z8:z8.length = 8:=rfl
theorem len_z64:z64.length = 64:=rfl
theorem len_zb32:zb32.length = 32:=rfl
end Go.Proofs.YtheincjkoefalaaGreatDoor
namespace Go.Proofs.YtheincjkoefalaaGreatDoor
def encNum (n:Nat):List (BitVec 8):=if h:n < 128 then [BitVec.ofNat 8 n] else BitVec.ofNat 8 (n % 128 + 128) :: encNum (n / 128)
termination_by n
decreasing_by omega
theorem encNum_lt {n:Nat} (h:n < 128):encNum n = [BitVec.ofNat 8 n]:=by rw [encNum,dif_pos h]
theorem encNum_ge {n:Nat} (h:¬ n < 128):encNum n = BitVec.ofNat 8 (n % 128 + 128) :: encNum (n / 128):=by rw [encNum,dif_neg h]
theorem encNum_pos (n:Nat):0 < (encNum n).length:=by
 by_cases h:n < 128
 · rw [encNum_lt h];simp
 · rw [encNum_ge h];simp
def decNum:Nat → Nat → Nat → List (BitVec 8) → Option (Nat × List (BitVec 8))
 | 0,_,_,_ => none
 | _ + 1,_,_,[] => none
 | k + 1,i,acc,c :: r =>
  if (i = 9 ∧ 1 < c.toNat) ∨ (0 < i ∧ c.toNat = 0) then none
  else if c.toNat < 128 then some (acc + c.toNat % 128 * 2 ^ (7 * i),r) else decNum k (i + 1) (acc + c.toNat % 128 * 2 ^ (7 * i)) r
def readNum (b:List (BitVec 8)):Option (Nat × List (BitVec 8)):=decNum 10 0 0 b
theorem pow7 (i:Nat):(2:Nat) ^ (7 * (i + 1)) = 2 ^ (7 * i) * 128:=by rw [show 7 * (i + 1) = 7 * i + 7 by omega,Nat.pow_add]
theorem decNum_enc:∀ (k i acc n:Nat) (r:List (BitVec 8)),i + k = 10 → (0 < i → 0 < n) → n * 2 ^ (7 * i) < 18446744073709551616 → decNum k i acc (encNum n ++ r) = some (acc + n * 2 ^ (7 * i),r)
 | 0,i,acc,n,r,hk,hp,hn => by
  exfalso
  have h10:i = 10:=by omega
  subst h10
  have:=hp (by omega)
  simp only [Nat.reduceMul,Nat.reducePow] at hn
  omega
 | k + 1,i,acc,n,r,hk,hp,hn => by
  by_cases h:n < 128
  · rw [encNum_lt h,List.singleton_append,decNum]
    have e:(BitVec.ofNat 8 n).toNat = n:=by rw [BitVec.toNat_ofNat];omega
    rw [e]
    have h1:¬ ((i = 9 ∧ 1 < n) ∨ (0 < i ∧ n = 0)):=by
     rintro (⟨rfl,h2⟩ | ⟨h2,h3⟩)
     · simp only [Nat.reduceMul,Nat.reducePow] at hn;omega
     · have:=hp h2;omega
    rw [if_neg h1,if_pos h,Nat.mod_eq_of_lt h]
  · rw [encNum_ge h,List.cons_append,decNum]
    have e:(BitVec.ofNat 8 (n % 128 + 128)).toNat = n % 128 + 128:=by rw [BitVec.toNat_ofNat];omega
    rw [e]
    have h9:i ≠ 9:=by
     rintro rfl;simp only [Nat.reduceMul,Nat.reducePow] at hn;omega
    have h1:¬ ((i = 9 ∧ 1 < n % 128 + 128) ∨ (0 < i ∧ n % 128 + 128 = 0)):=by omega
    have e2:(n % 128 + 128) % 128 = n % 128:=by omega
    have hd:=Nat.div_add_mod n 128
    have e3:n % 128 * 2 ^ (7 * i) + n / 128 * 2 ^ (7 * (i + 1)) = n * 2 ^ (7 * i):=by
     rw [pow7,← Nat.mul_assoc,Nat.mul_right_comm,← Nat.add_mul]
     congr 1;omega
    rw [if_neg h1,if_neg (by omega),e2,decNum_enc k (i + 1) _ (n / 128) r (by omega) (fun _ => by omega) (by omega)]
    congr 2
    omega
theorem decNum_some:∀ (k i acc:Nat) (b r:List (BitVec 8)) (m:Nat),i + k = 10 → decNum k i acc b = some (m,r) → ∃ n,m = acc + n * 2 ^ (7 * i) ∧ (0 < i → 0 < n) ∧ n * 2 ^ (7 * i) < 18446744073709551616 ∧ b = encNum n ++ r
 | 0,_,_,_,_,_,_,h => by simp [decNum] at h
 | k + 1,_,_,[],_,_,_,h => by simp [decNum] at h
 | k + 1,i,acc,c :: t,r,m,hk,h => by
  have hc:=c.isLt
  rw [decNum] at h
  by_cases h1:(i = 9 ∧ 1 < c.toNat) ∨ (0 < i ∧ c.toNat = 0)
  · rw [if_pos h1] at h;cases h
  · rw [if_neg h1] at h
    by_cases h2:c.toNat < 128
    · rw [if_pos h2] at h
      simp only [Option.some.injEq,Prod.mk.injEq] at h;obtain ⟨rfl,rfl⟩:=h;refine ⟨c.toNat,by rw [Nat.mod_eq_of_lt h2],fun hi => by omega,?_,?_⟩
      · by_cases h9:i = 9
        · subst h9
          simp only [Nat.reduceMul,Nat.reducePow];omega
        · have h8:7 * i ≤ 56:=by omega
          have hp:(2:Nat) ^ (7 * i) ≤ 2 ^ 56:=Nat.pow_le_pow_right (by omega) h8
          have:c.toNat * 2 ^ (7 * i) ≤ 127 * 2 ^ 56:=Nat.mul_le_mul (by omega) hp
          simp only [Nat.reducePow] at this;omega
      · rw [encNum_lt h2,List.singleton_append]
        congr 1
        apply BitVec.eq_of_toNat_eq
        rw [BitVec.toNat_ofNat];omega
    · rw [if_neg h2] at h
      have h9:i ≠ 9:=by omega
      obtain ⟨n,e1,e2,e3,e4⟩:=decNum_some k (i + 1) _ t r m (by omega) h
      have hn:=e2 (by omega)
      have hd:(c.toNat % 128 + n * 128) % 128 = c.toNat % 128:=by omega
      have hq:(c.toNat % 128 + n * 128) / 128 = n:=by omega
      have e5:(c.toNat % 128 + n * 128) * 2 ^ (7 * i) = c.toNat % 128 * 2 ^ (7 * i) + n * 2 ^ (7 * (i + 1)):=by
       rw [pow7,Nat.add_mul,Nat.mul_right_comm,Nat.mul_assoc n]
      refine ⟨c.toNat % 128 + n * 128,?_,fun _ => by omega,?_,?_⟩
      · rw [e5,e1];omega
      · rw [e5]
        have h8:i ≤ 8:=by omega
        have hz:n * 2 ^ (7 * (i + 1)) + 2 ^ (7 * (i + 1)) ≤ 18446744073709551616:=by
         have hdv:2 ^ (7 * (i + 1)) ∣ 18446744073709551616:=by
          rw [show (18446744073709551616:Nat) = 2 ^ 64 from rfl];exact Nat.pow_dvd_pow 2 (by omega)
         obtain ⟨q,hq2⟩:=hdv;rw [hq2] at e3 ⊢;rw [Nat.mul_comm n] at e3 ⊢;have hlt:n < q:=Nat.lt_of_mul_lt_mul_left e3;rw [← Nat.mul_succ];exact Nat.mul_le_mul_left _ hlt
        have h7:c.toNat % 128 * 2 ^ (7 * i) < 2 ^ (7 * (i + 1)):=by
         rw [pow7,Nat.mul_comm (2 ^ (7 * i))];exact Nat.mul_lt_mul_of_pos_right (by omega) (Nat.pow_pos (by omega))
        omega
      · rw [encNum_ge (by omega),hd,hq,List.cons_append,e4]
        congr 1
        apply BitVec.eq_of_toNat_eq
        rw [BitVec.toNat_ofNat];omega
theorem readNum_iff (b r:List (BitVec 8)) (n:Nat):readNum b = some (n,r) ↔ n < 18446744073709551616 ∧ b = encNum n ++ r:=by
 constructor
 · intro h
   obtain ⟨m,e1,_,e3,e4⟩:=decNum_some 10 0 0 b r n rfl h;simp only [Nat.mul_zero,Nat.pow_zero,Nat.mul_one,Nat.zero_add] at e1 e3;subst e1;exact ⟨e3,e4⟩
 · rintro ⟨h,rfl⟩
   have:=decNum_enc 10 0 0 n r rfl (fun h => by omega) (by simpa using h)
   simpa [readNum] using this
def encText (t:List (BitVec 8)):List (BitVec 8):=encNum t.length ++ t
def readText (b:List (BitVec 8)):Option (List (BitVec 8) × List (BitVec 8)):=
 match readNum b with
 | none => none
 | some (n,r) => if n ≤ 1048576 ∧ n ≤ r.length then some (r.take n,r.drop n) else none
theorem readText_iff (b r t:List (BitVec 8)):readText b = some (t,r) ↔ t.length ≤ 1048576 ∧ b = encText t ++ r:=by
 unfold readText
 constructor
 · intro h
   cases h1:readNum b with
   | none => rw [h1] at h;cases h
   | some p =>
    obtain ⟨n,q⟩:=p;rw [h1] at h;obtain ⟨_,hb⟩:=(readNum_iff _ _ _).1 h1;simp only at h
    by_cases h2:n ≤ 1048576 ∧ n ≤ q.length
    · rw [if_pos h2] at h
      simp only [Option.some.injEq,Prod.mk.injEq] at h;obtain ⟨rfl,rfl⟩:=h;have hl:(q.take n).length = n:=by rw [List.length_take];omega
      refine ⟨by omega,?_⟩
      rw [encText,hl,List.append_assoc,List.take_append_drop,hb]
    · rw [if_neg h2] at h;cases h
 · rintro ⟨h,rfl⟩
   rw [encText,List.append_assoc,(readNum_iff _ _ _).2 ⟨by omega,rfl⟩]
   simp only;rw [if_pos ⟨h,by simp⟩]
   simp
def encAll {α:Type} (f:α → List (BitVec 8)) (l:List α):List (BitVec 8):=(l.map f).flatten
theorem encAll_cons {α:Type} (f:α → List (BitVec 8)) (a:α) (l:List α):encAll f (a :: l) = f a ++ encAll f l:=by simp [encAll]
def readAll {α:Type} (g:List (BitVec 8) → Option (α × List (BitVec 8))):Nat → List (BitVec 8) → Option (List α × List (BitVec 8))
 | 0,b => some ([],b)
 | k + 1,b =>
  match g b with
  | none => none
  | some (a,r) =>
   match readAll g k r with
   | none => none
   | some (l,s) => some (a :: l,s)
theorem readAll_iff {α:Type} {f:α → List (BitVec 8)} {g:List (BitVec 8) → Option (α × List (BitVec 8))} {ok:α → Prop} (hg:∀ b r a,g b = some (a,r) ↔ ok a ∧ b = f a ++ r) :
 ∀ (k:Nat) (b r:List (BitVec 8)) (l:List α),readAll g k b = some (l,r) ↔ l.length = k ∧ (∀ a ∈ l,ok a) ∧ b = encAll f l ++ r
 | 0,b,r,l => by
  simp only [readAll,Option.some.injEq,Prod.mk.injEq]
  constructor
  · rintro ⟨rfl,rfl⟩;simp [encAll]
  · rintro ⟨h1,_,h3⟩
    have:=List.eq_nil_of_length_eq_zero h1;subst this;simp [encAll] at h3;exact ⟨rfl,h3⟩
 | k + 1,b,r,l => by
  rw [readAll]
  constructor
  · intro h
    cases h1:g b with
    | none => rw [h1] at h;cases h
    | some p =>
     obtain ⟨a,q⟩:=p;rw [h1] at h;simp only at h
     cases h2:readAll g k q with
     | none => rw [h2] at h;cases h
     | some p2 =>
      obtain ⟨l2,s⟩:=p2;rw [h2] at h;simp only [Option.some.injEq,Prod.mk.injEq] at h;obtain ⟨rfl,rfl⟩:=h;obtain ⟨o1,rfl⟩:=(hg _ _ _).1 h1;obtain ⟨o2,o3,rfl⟩:=(readAll_iff hg k _ _ _).1 h2;refine ⟨by simp [o2],?_,by rw [encAll_cons,List.append_assoc]⟩
      intro x hx
      rcases List.mem_cons.1 hx with rfl | hx
      · exact o1
      · exact o3 x hx
  · rintro ⟨h1,h2,rfl⟩
    cases l with
    | nil => simp at h1
    | cons a l =>
     rw [encAll_cons,List.append_assoc,(hg _ _ _).2 ⟨h2 a (by simp),rfl⟩]
     simp only;rw [(readAll_iff hg k _ _ l).2 ⟨by simpa using h1,fun x hx => h2 x (by simp [hx]),rfl⟩]
def encList {α:Type} (f:α → List (BitVec 8)) (l:List α):List (BitVec 8):=encNum l.length ++ encAll f l
def readList {α:Type} (g:List (BitVec 8) → Option (α × List (BitVec 8))) (b:List (BitVec 8)):Option (List α):=
 match readNum b with
 | none => none
 | some (n,r) => if n ≤ 4096 then (match readAll g n r with | some (l,[]) => some l | _ => none) else none
theorem readList_iff {α:Type} {f:α → List (BitVec 8)} {g:List (BitVec 8) → Option (α × List (BitVec 8))} {ok:α → Prop} (hg:∀ b r a,g b = some (a,r) ↔ ok a ∧ b = f a ++ r) (b:List (BitVec 8)) (l:List α) :
 readList g b = some l ↔ l.length ≤ 4096 ∧ (∀ a ∈ l,ok a) ∧ b = encList f l:=by
 unfold readList
 constructor
 · intro h
   cases h1:readNum b with
   | none => rw [h1] at h;cases h
   | some p =>
    obtain ⟨n,r⟩:=p;rw [h1] at h;simp only at h;obtain ⟨_,hb⟩:=(readNum_iff _ _ _).1 h1
    by_cases h2:n ≤ 4096
    · rw [if_pos h2] at h
      cases h3:readAll g n r with
      | none => rw [h3] at h;cases h
      | some p =>
       obtain ⟨l2,s⟩:=p;rw [h3] at h
       cases s with
       | cons x s => simp at h
       | nil =>
        simp only [Option.some.injEq] at h;subst h;obtain ⟨o1,o2,o3⟩:=(readAll_iff hg n _ _ _).1 h3;exact ⟨by omega,o2,by rw [hb,o3,List.append_nil,encList,o1]⟩
    · rw [if_neg h2] at h;cases h
 · rintro ⟨h1,h2,rfl⟩
   rw [encList,(readNum_iff _ _ _).2 ⟨by omega,rfl⟩]
   simp only;rw [if_pos h1];have:=(readAll_iff hg l.length (encAll f l) [] l).2 ⟨rfl,h2,by simp⟩
   rw [this]
end Go.Proofs.YtheincjkoefalaaGreatDoor
namespace Go.Proofs.YtheincjkoefalaaGreatDoor
open Go.RowKit

theorem rr_ref (x:BitVec 32) (n:Int) (h1:1 ≤ n) (h2:n ≤ 31) :
 bits .or .u32 ((x.toNat:Int) / 2 ^ n.toNat) ((x.toNat:Int) * 2 ^ (32 - n).toNat % 4294967296) = ((rr x n.toNat).toNat:Int):=by
 rw [u32_shr,u32_shl,u32_or,rr,show (32 - n).toNat = 32 - n.toNat from by omega]
theorem rr_own (x:BitVec 32) (n:Int) (h1:-31 ≤ n) (h2:n ≤ -1) :
 bits .or .u32 ((x.toNat:Int) * 2 ^ (32 + n).toNat % 4294967296) ((x.toNat:Int) / 2 ^ (32 - (32 + n)).toNat) = ((rr x (-n).toNat).toNat:Int):=by
 rw [u32_shr,u32_shl,u32_or,rr,BitVec.or_comm,show (32 - (32 + n)).toNat = (-n).toNat from by omega,show (32 + n).toNat = 32 - (-n).toNat from by omega]
theorem and31 (n:Int) (h1:-31 ≤ n) (h2:n ≤ -1):bits .and .u64 (IntKind.u64.wrap n) 31 = 32 + n:=by
 obtain ⟨k,hk,hn⟩:∃ k:Nat,k < 32 ∧ n = -(k:Int):=⟨(-n).toNat,by omega,by omega⟩
 subst hn
 have:∀ k:Fin 32,1 ≤ k.val → bits .and .u64 (IntKind.u64.wrap (-(k.val:Int))) 31 = 32 + -(k.val:Int):=by decide
 exact this ⟨k,hk⟩ (by simp;omega)

theorem turn_any (x:BitVec 32) (n:Int) (w:World) (h1:1 ≤ n) (h2:n ≤ 31) :
 Calls Tryz.prog 165 #[.int .u32 (x.toNat:Int),.int .i64 n] w fun e w' => e = .returned (.int .u32 ((rr x n.toNat).toNat:Int)) ∧ w' = w:=by
 have h:=rr_ref x n h1 h2
 have H:Hid (bits .or .u32 ((x.toNat:Int) / 2 ^ n.toNat) ((x.toNat:Int) * 2 ^ (32 - n).toNat % 4294967296) = ((rr x n.toNat).toNat:Int)):=h
 clear h
 go_enter Tryz.func165,Tryz.ntmps165
 go_wp2
 go_ret
 refine ⟨?_,rfl⟩
 rw [← H.out];rfl
theorem rot_any (x:BitVec 32) (n:Int) (w:World) (h1:-31 ≤ n) (h2:n ≤ -1) :
 Calls Tryz.prog 174 #[.int .u32 (x.toNat:Int),.int .i64 n] w fun e w' => e = .returned (.int .u32 ((rr x (-n).toNat).toNat:Int)) ∧ w' = w:=by
 have hb:=and31 n h1 h2
 go_enter Tryz.func174,Tryz.ntmps174
 go_wp2
 go_ret
 refine ⟨?_,rfl⟩
 rw [← rr_own x n h1 h2]
 rfl
theorem turned_any (x:BitVec 32) (n:Int) (w:World) (h1:1 ≤ n) (h2:n ≤ 31) :
 Calls Tryz.prog 173 #[.int .u32 (x.toNat:Int),.int .i64 n] w fun e w' => e = .returned (.int .u32 ((rr x n.toNat).toNat:Int)) ∧ w' = w:=by
 go_enter Tryz.func173,Tryz.ntmps173
 go_wp2_with (go_at_call 174;refine (rot_any x (-n) _ (by omega) (by omega)).mono ?_;rintro e w' ⟨rfl,rfl⟩)
 go_ret
 exact ⟨by simp,rfl⟩

def Blk (w:World) (g:Nat) (cs:List Value) (t:TypeId):Prop:=w.heap[g]? = some (.cells cs.toArray t (0,0))

theorem Blk.lt {w:World} {g:Nat} {cs:List Value} {t:TypeId} (h:Blk w g cs t):g < w.heap.size:=by
 unfold Blk at h
 rcases Nat.lt_or_ge g w.heap.size with h' | h'
 · exact h'
 · rw [Array.getElem?_eq_none h'] at h;cases h
theorem Blk.cell {w:World} {g:Nat} {cs:List Value} {t:TypeId} (h:Blk w g cs t) (j:Nat):w.cell? ⟨g,j,none⟩ = cs[j]?:=by
 rw [cell_of_row w g j _ t (0,0) h];simp
theorem Blk.frozen {w:World} {g:Nat} {cs:List Value} {t:TypeId} (h:Blk w g cs t) (j:Nat):w.frozen? ⟨g,j,none⟩ = false:=frozen_of_row w g j _ t h
theorem Blk.drew {w:World} {g:Nat} {cs:List Value} {t:TypeId} (h:Blk w g cs t):Blk w.drew g cs t:=h
theorem Blk.alloc {w:World} {g:Nat} {cs:List Value} {t:TypeId} (h:Blk w g cs t) (o:Obj):Blk (w.alloc o) g cs t:=by
 have:=h.lt
 unfold Blk at *
 rw [Go.RowKit.Below.heap_alloc w o g this];exact h
theorem Blk.new (w:World) (cs:List Value) (t:TypeId):Blk (w.alloc (.cells cs.toArray t)) w.heap.size cs t:=heap_alloc_new w _
theorem Blk.new_at {w:World} {n:Nat} (hn:w.heap.size = n) (cs:List Value) (t:TypeId):Blk (w.alloc (.cells cs.toArray t)) n cs t:=by
 subst hn;exact Blk.new w cs t
theorem Blk.set {w:World} {g:Nat} {cs:List Value} {t:TypeId} (h:Blk w g cs t) (i:Nat) (v:Value):Blk (w.setCell ⟨g,i,none⟩ v) g (cs.set i v) t:=by
 unfold Blk at *
 rw [heap_setCell_same w g i _ t v h];simp
theorem Blk.other {w:World} {g:Nat} {cs:List Value} {t:TypeId} (h:Blk w g cs t) (a:Addr) (v:Value) (hne:g ≠ a.block):Blk (w.setCell a v) g cs t:=by
 unfold Blk at *
 rw [heap_setCell_other w a g v hne];exact h
theorem Blk.below {w w':World} {g B:Nat} {cs:List Value} {t:TypeId} (h:Blk w g cs t) (hb:Below B w w') (hg:g < B):Blk w' g cs t:=by
 unfold Blk at *
 rw [hb.block g hg];exact h
theorem Blk.range {w:World} {g:Nat} {cs:List Value} {t:TypeId} (h:Blk w g cs t):w.rangeAt g 0 cs:=fun j v hv => by
 rw [Nat.zero_add,h.cell j,hv]
theorem Blk.there {w:World} {g:Nat} {cs:List Value} {t:TypeId} (h:Blk w g cs t) (o n:Nat) (hn:o + n ≤ cs.length):w.there g o n:=fun j hj => by
 rw [h.cell,h.frozen]
 exact ⟨by rw [List.getElem?_eq_getElem (by omega)];rfl,rfl⟩
theorem setCells_eq (g:Nat):∀ (vs:List Value) (o:Nat) (w:World) (cs:List Value) (t:TypeId),Blk w g cs t → o + vs.length ≤ cs.length → Blk (w.setCells g o vs) g (cs.take o ++ vs ++ cs.drop (o + vs.length)) t
 | [],o,w,cs,t,h,_ => by simpa [World.setCells] using h
 | v :: r,o,w,cs,t,h,hl => by
  rw [World.setCells]
  simp only [List.length_cons] at hl
  have:=setCells_eq g r (o + 1) _ _ t (h.set o v) (by simp;omega)
  have e:(cs.set o v).take (o + 1) ++ r ++ (cs.set o v).drop (o + 1 + r.length) = cs.take o ++ (v :: r) ++ cs.drop (o + (v :: r).length):=by
   have e1:(cs.set o v).take (o + 1) = cs.take o ++ [v]:=by
    apply List.ext_getElem?
    intro i
    by_cases h1:i < o
    · rw [List.getElem?_take_of_lt (by omega),List.getElem?_append_left (by simp;omega),List.getElem?_take_of_lt h1,List.getElem?_set_ne (by omega)]
    · by_cases h2:i = o
      · subst h2
        rw [List.getElem?_take_of_lt (by omega),List.getElem?_append_right (by simp;omega),List.getElem?_set_self (by omega)]
        simp [Nat.min_eq_left (show i ≤ cs.length by omega)]
      · rw [List.getElem?_eq_none (by simp;omega),List.getElem?_eq_none (by simp;omega)]
   have e2:(cs.set o v).drop (o + 1 + r.length) = cs.drop (o + (v :: r).length):=by
    rw [List.drop_set_of_lt (by omega),List.length_cons];congr 1;omega
   rw [e1,e2];simp
  rw [e] at this;exact this
theorem Blk.whole {w:World} {g:Nat} {cs:List Value} {t:TypeId} (h:Blk w g cs t) (vs:List Value) (hl:vs.length = cs.length):Blk (w.setCells g 0 vs) g vs t:=by
 have:=setCells_eq g vs 0 w cs t h (by omega)
 simpa [hl] using this
theorem wpList_store8 {P:Program} {ops:Array Oper} {rest:List Oper} {op:Oper} {a:Act} {w:World} {Q:Exit → Act → World → Prop} (hgd:op.guard = none) (ty:TypeId) (x y:Operand) (ho:op.op = .store ty x y)
 (b:Nat) (na nb nc nd ne nf ng nh:Int) (hx:a.eval x = .pointer (some ⟨b,0,none⟩)) (hy:a.eval y = .agg #[Value.int .u32 na,Value.int .u32 nb,Value.int .u32 nc,Value.int .u32 nd,Value.int .u32 ne,Value.int .u32 nf,Value.int .u32 ng,Value.int .u32 nh])
 (ht:w.there b 0 8) (hi:(P.info? ty).map (·.size) = some 8)
 (h:wpList P ops Q rest (a.put op.dst undef) (w.setCells b 0 [Value.int .u32 na,Value.int .u32 nb,Value.int .u32 nc,Value.int .u32 nd,Value.int .u32 ne,Value.int .u32 nf,Value.int .u32 ng,Value.int .u32 nh])):wpList P ops Q (op :: rest) a w:=
 wpList_store_mid hgd ty x y ho b 0 _ hx hy ht hi (by simp [Value.oneCell']) h
theorem wpList_build8 {P:Program} {ops:Array Oper} {rest:List Oper} {o:Oper} {a:Act} {w:World} {Q:Exit → Act → World → Prop} (hg:o.guard = none) (t:TypeId) (xa xb xc xd xe xf xg xh:Operand)
 (ho:o.op = .build t #[(0,xa),(1,xb),(2,xc),(3,xd),(4,xe),(5,xf),(6,xg),(7,xh)]) (na nb nc nd ne nf ng nh:Int) (ea:a.eval xa = .int .u32 na) (eb:a.eval xb = .int .u32 nb) (ec:a.eval xc = .int .u32 nc) (ed:a.eval xd = .int .u32 nd) (ee:a.eval xe = .int .u32 ne) (ef:a.eval xf = .int .u32 nf) (eg:a.eval xg = .int .u32 ng) (eh:a.eval xh = .int .u32 nh)
 (hb:P.built t [(0,Value.int .u32 na),(1,Value.int .u32 nb),(2,Value.int .u32 nc),(3,Value.int .u32 nd),(4,Value.int .u32 ne),(5,Value.int .u32 nf),(6,Value.int .u32 ng),(7,Value.int .u32 nh)] = some #[Value.int .u32 na,Value.int .u32 nb,Value.int .u32 nc,Value.int .u32 nd,Value.int .u32 ne,Value.int .u32 nf,Value.int .u32 ng,Value.int .u32 nh])
 (h:wpList P ops Q rest (a.put o.dst (.agg #[Value.int .u32 na,Value.int .u32 nb,Value.int .u32 nc,Value.int .u32 nd,Value.int .u32 ne,Value.int .u32 nf,Value.int .u32 ng,Value.int .u32 nh])) w):wpList P ops Q (o :: rest) a w:=
 wpList_build hg t _ ho (by simp [ea,eb,ec,ed,ee,ef,eg,eh,hb]) (by simpa [ea,eb,ec,ed,ee,ef,eg,eh,hb] using h)
theorem cw_get (l:List (BitVec 32)) (j:Nat) (h:j < l.length):(cw l)[j]? = some (.int .u32 ((l.getD j 0).toNat:Int)):=by simp [cw,h]
theorem cb_get (l:List (BitVec 8)) (j:Nat) (h:j < l.length):(cb l)[j]? = some (.int .u8 ((l.getD j 0).toNat:Int)):=by simp [cb,h]
theorem cw_set (l:List (BitVec 32)) (j:Nat) (v:BitVec 32):(cw l).set j (.int .u32 (v.toNat:Int)) = cw (l.set j v):=by simp [cw,List.map_set]
theorem cb_set (l:List (BitVec 8)) (j:Nat) (v:BitVec 8):(cb l).set j (.int .u8 (v.toNat:Int)) = cb (l.set j v):=by simp [cb,List.map_set]
theorem cw_len (l:List (BitVec 32)):(cw l).length = l.length:=by simp [cw]
theorem cb_len (l:List (BitVec 8)):(cb l).length = l.length:=by simp [cb]
theorem cw_one (l:List (BitVec 32)):∀ v ∈ cw l,v.oneCell' = true:=by simp [cw,Value.oneCell']
theorem cb_one (l:List (BitVec 8)):∀ v ∈ cb l,v.oneCell' = true:=by simp [cb,Value.oneCell']
theorem Below.setCells {B:Nat} {a:World} (g:Nat) (hg:B ≤ g):∀ (vs:List Value) (o:Nat) (w:World),Below B a w → Below B a (w.setCells g o vs)
 | [],_,_,h => h
 | v :: r,o,w,h => by rw [World.setCells];exact Below.setCells g hg r (o + 1) _ (h.setCell hg v)
theorem Blk.others (g':Nat):∀ (vs:List Value) (o:Nat) (w:World) {g:Nat} {cs:List Value} {t:TypeId},Blk w g cs t → g ≠ g' → Blk (w.setCells g' o vs) g cs t
 | [],_,_,_,_,_,h,_ => h
 | v :: r,o,w,_,_,_,h,hne => by rw [World.setCells];exact Blk.others g' r (o + 1) _ (h.other _ v hne) hne
theorem Tryz.info196:(Tryz.prog.info? 196).map (·.size) = some 64:=by kernel_rfl
theorem len_sched1 (b:List (BitVec 8)) (k:Nat):(sched1 b k).length = 64:=by
 induction k with
 | zero => simp [sched1]
 | succ k ih => simp [sched1,ih]
theorem len_sched2 (b:List (BitVec 8)) (k:Nat):(sched2 b k).length = 64:=by
 induction k with
 | zero => exact len_sched1 b 16
 | succ k ih => simp [sched2,ih]
structure SpInv (w:World) (b:List (BitVec 8)) (l:List (BitVec 32)) (wr:World):Prop where
 blk:Blk wr w.heap.size (cb b) 106
 res:Blk wr (w.heap.size + 1) (cw (List.replicate 64 0)) 196
 wds:Blk wr (w.heap.size + 1 + 1) (cw l) 196
 bel:Below w.heap.size w wr
theorem SpInv.store {w wr:World} {b:List (BitVec 8)} {l:List (BitVec 32)} (h:SpInv w b l wr) (k:Nat) (v:BitVec 32) :
 SpInv w b (l.set k v) ((wr.setCell ⟨w.heap.size + 1 + 1,k,none⟩ (.int .u32 (v.toNat:Int))).drew):=
 ⟨(h.blk.other _ _ (by simp;omega)).drew,(h.res.other _ _ (by simp)).drew,by have:=(h.wds.set k (.int .u32 (v.toNat:Int))).drew;rw [cw_set] at this;exact this,(h.bel.setCell (by simp;omega) _).drew⟩
theorem SpInv.drewN {w wr:World} {b:List (BitVec 8)} {l:List (BitVec 32)} (h:SpInv w b l wr) (n:Nat):SpInv w b l (wr.drewN n):=⟨h.blk,h.res,h.wds,⟨h.bel.os,h.bel.tape,h.bel.output,h.bel.size,h.bel.block⟩⟩
theorem SpInv.at {w wr:World} {b:List (BitVec 8)} {l:List (BitVec 32)} (h:SpInv w b l wr) (j:Nat) (hj:j < l.length):wr.cell? ⟨w.heap.size + 1 + 1,j,none⟩ = some (.int .u32 ((l.getD j 0).toNat:Int)):=by
 rw [h.wds.cell,cw_get l j hj]
theorem SpInv.by {w wr:World} {b:List (BitVec 8)} {l:List (BitVec 32)} (h:SpInv w b l wr) (j:Nat) (hj:j < b.length):wr.cell? ⟨w.heap.size,j,none⟩ = some (.int .u8 ((b.getD j 0).toNat:Int)):=by
 rw [h.blk.cell,cb_get b j hj]
theorem word4 (b0 b1 b2 b3:BitVec 8) :
 bits .or .u32 (bits .or .u32 (bits .or .u32 ((b0.toNat:Int) * 16777216) ((b1.toNat:Int) * 65536)) ((b2.toNat:Int) * 256)) (b3.toNat:Int) =
  ((b0.setWidth 32 <<< 24 ||| b1.setWidth 32 <<< 16 ||| b2.setWidth 32 <<< 8 ||| b3.setWidth 32).toNat:Int):=by
 have h0:=b0.isLt
 have h1:=b1.isLt
 have h2:=b2.isLt
 have e0:(b0.toNat:Int) * (16777216:Int) = ((b0.setWidth 32 <<< 24).toNat:Int):=by simp [BitVec.toNat_shiftLeft,Nat.shiftLeft_eq];omega
 have e1:(b1.toNat:Int) * (65536:Int) = ((b1.setWidth 32 <<< 16).toNat:Int):=by simp [BitVec.toNat_shiftLeft,Nat.shiftLeft_eq];omega
 have e2:(b2.toNat:Int) * (256:Int) = ((b2.setWidth 32 <<< 8).toNat:Int):=by simp [BitVec.toNat_shiftLeft,Nat.shiftLeft_eq];omega
 rw [e0,e1,e2,byte_word b3,u32_or,u32_or,u32_or]
theorem spread_any (b:List (BitVec 8)) (hb:b.length = 64) (w:World) :
 Calls Tryz.prog 172 #[.agg (cb b).toArray] w fun e w' => e = .returned (.agg (cw (sched2 b 48)).toArray) ∧ Below w.heap.size w w':=by
 go_enter Tryz.func172,Tryz.ntmps172
 go_wp2
 go_loopw [10] (fun i wr => ∃ k:Nat,k ≤ 16 ∧ i = .int .i64 k ∧ SpInv w b (sched1 b k) wr) (fun i _ => 16 - (intOf i).toNat)
 case atStart =>
  refine ⟨0,by omega,rfl,?_,?_,?_,?_⟩
  · exact ((Blk.new w (cb b) 106).alloc _).alloc _
  · exact (Blk.new_at (w:=w.alloc (.cells (cb b).toArray 106)) (by simp) (cw (List.replicate 64 0)) 196).alloc (.cells (cw (List.replicate 64 0)).toArray 196)
  · exact Blk.new_at (w:=(w.alloc (.cells (cb b).toArray 106)).alloc (.cells (cw (List.replicate 64 0)).toArray 196)) (by simp) (cw (List.replicate 64 0)) 196
  · exact (((Below.refl _ _).alloc (Nat.le_refl _) _).alloc (by simp) _).alloc (by simp;omega) _
 case round =>
  obtain ⟨k,hk,rfl,hI⟩:=hrel
  by_cases hlt:k < 16
  · obtain ⟨b0,H0⟩:=sqn (b.getD (4 * k) 0)
    obtain ⟨b1,H1⟩:=sqn (b.getD (4 * k + 1) 0);obtain ⟨b2,H2⟩:=sqn (b.getD (4 * k + 2) 0);obtain ⟨b3,H3⟩:=sqn (b.getD (4 * k + 3) 0);have c0:wr.cell? ⟨w.heap.size,4 * k,none⟩ = some (.int .u8 (b0.toNat:Int)):=by rw [H0.out];exact hI.by _ (by omega)
    have c1:wr.cell? ⟨w.heap.size,4 * k + 1,none⟩ = some (.int .u8 (b1.toNat:Int)):=by rw [H1.out];exact hI.by _ (by omega)
    have c2:wr.cell? ⟨w.heap.size,4 * k + 2,none⟩ = some (.int .u8 (b2.toNat:Int)):=by rw [H2.out];exact hI.by _ (by omega)
    have c3:wr.cell? ⟨w.heap.size,4 * k + 3,none⟩ = some (.int .u8 (b3.toNat:Int)):=by rw [H3.out];exact hI.by _ (by omega)
    have HW:Hid (wordAt b k = b0.setWidth 32 <<< 24 ||| b1.setWidth 32 <<< 16 ||| b2.setWidth 32 <<< 8 ||| b3.setWidth 32):=by rw [H0.out,H1.out,H2.out,H3.out];rfl
    obtain ⟨o,cT⟩:∃ o,wr.cell? ⟨w.heap.size + 1 + 1,k,none⟩ = some o:=⟨_,hI.at k (by rw [len_sched1];omega)⟩
    have fT:wr.frozen? ⟨w.heap.size + 1 + 1,k,none⟩ = false:=hI.wds.frozen k;have g0:(b0.toNat:Int) < 256:=by have:=b0.isLt;omega
    have g1:(b1.toNat:Int) < 256:=by have:=b1.isLt;omega
    have g2:(b2.toNat:Int) < 256:=by have:=b2.isLt;omega
    have g3:(b3.toNat:Int) < 256:=by have:=b3.isLt;omega
    clear H0 H1 H2 H3;go_wp2
    go_region
    go_wp2;go_roundw
    case rel =>
     refine ⟨k + 1,by omega,by go_num,?_⟩
     have:=hI.store k (wordAt b k);rw [HW.out,← word4] at this;rw [sched1,HW.out];exact this
    case measure => simp [intOf];omega
  · have hk16:k = 16:=by omega
    subst hk16;go_wp2
    go_loopw [43] (fun i wr => ∃ k:Nat,k ≤ 48 ∧ i = .int .i64 k ∧ SpInv w b (sched2 b k) wr) (fun i _ => 48 - (intOf i).toNat)
    case atStart => exact ⟨0,by omega,rfl,hI⟩
    case round =>
     clear hI hlt hk;obtain ⟨k,hk,rfl,hI⟩:=hrel
     by_cases hlt:k < 48
     · obtain ⟨x0,H0⟩:=sqn ((sched2 b k).getD k 0)
       obtain ⟨x1,H1⟩:=sqn ((sched2 b k).getD (k + 1) 0);obtain ⟨x9,H9⟩:=sqn ((sched2 b k).getD (k + 9) 0);obtain ⟨x14,H14⟩:=sqn ((sched2 b k).getD (k + 14) 0);have hl:=len_sched2 b k
       have hc:∀ wx,SpInv w b (sched2 b k) wx → wx.cell? ⟨w.heap.size + 1 + 1,k,none⟩ = some (.int .u32 (x0.toNat:Int)) ∧ wx.cell? ⟨w.heap.size + 1 + 1,k + 1,none⟩ = some (.int .u32 (x1.toNat:Int)) ∧
        wx.cell? ⟨w.heap.size + 1 + 1,k + 9,none⟩ = some (.int .u32 (x9.toNat:Int)) ∧ wx.cell? ⟨w.heap.size + 1 + 1,k + 14,none⟩ = some (.int .u32 (x14.toNat:Int)) ∧ 
        (∃ o,wx.cell? ⟨w.heap.size + 1 + 1,k + 16,none⟩ = some o) ∧ wx.frozen? ⟨w.heap.size + 1 + 1,k + 16,none⟩ = false:=by
        intro wx hx;rw [H0.out,H1.out,H9.out,H14.out];exact ⟨hx.at _ (by omega),hx.at _ (by omega),hx.at _ (by omega),hx.at _ (by omega),⟨_,hx.at _ (by omega)⟩,hx.wds.frozen _⟩
       have HC:Hid (∀ wx,SpInv w b (sched2 b k) wx → wx.cell? ⟨w.heap.size + 1 + 1,k,none⟩ = some (.int .u32 (x0.toNat:Int)) ∧ wx.cell? ⟨w.heap.size + 1 + 1,k + 1,none⟩ = some (.int .u32 (x1.toNat:Int)) ∧
        wx.cell? ⟨w.heap.size + 1 + 1,k + 9,none⟩ = some (.int .u32 (x9.toNat:Int)) ∧ wx.cell? ⟨w.heap.size + 1 + 1,k + 14,none⟩ = some (.int .u32 (x14.toNat:Int)) ∧ 
        (∃ o,wx.cell? ⟨w.heap.size + 1 + 1,k + 16,none⟩ = some o) ∧ wx.frozen? ⟨w.heap.size + 1 + 1,k + 16,none⟩ = false):=hc
       clear hc hl;obtain ⟨c0,c1,c9,c14,⟨o,cT⟩,fT⟩:=HC.out wr hI;go_wp2
       go_quiet ((go_at_call 173;exact Calls.quiet_of_same (turned_any _ _ _ (by omega) (by omega))))
       have hI2:=hI.drewN nq;clear hI c0 c1 c9 c14 cT fT
       generalize wr.drewN nq = wq at *
       obtain ⟨c0,c1,c9,c14,⟨o,cT⟩,fT⟩:=HC.out wq hI2;go_wp2
       go_quiet ((go_at_call 173;exact Calls.quiet_of_same (turned_any _ _ _ (by omega) (by omega))))
       have hI:=hI2.drewN nq;clear hI2 c0 c1 c9 c14 cT fT
       generalize wq.drewN nq = wp at *
       obtain ⟨c0,c1,c9,c14,⟨o,cT⟩,fT⟩:=HC.out wp hI;go_wp2
       go_region
       go_wp2;go_roundw
       case rel =>
        refine ⟨k + 1,by omega,by go_num,?_⟩
        have:=hI.store (k + 16) (x0 + sig0 x1 + x9 + sig1 x14);rw [← u32_add4,← sig0_eq,← sig1_eq] at this;rw [sched2,← H0.out,← H1.out,← H9.out,← H14.out];exact this
       case measure => simp [intOf];omega
     · have hk48:k = 48:=by omega
       subst hk48;have hz:(Tryz.prog.info? 196).map (·.size) = some (cw (sched2 b 48)).length:=by rw [cw_len,len_sched2];exact Tryz.info196
       have HL:Hid ((cw (sched2 b 48)).length = (cw (List.replicate 64 (0:BitVec 32))).length):=by rw [cw_len,cw_len,len_sched2];rfl
       have HZ:Hid ((Tryz.prog.info? 196).map (·.size) = some (cw (sched2 b 48)).length):=hz;clear hz
       go_wp2_with (first
        | (refine wpList_load_mid rfl 196 _ rfl (w.heap.size + 1 + 1) 0 rfl (cw (sched2 b 48)) _ hI.wds.range Tryz.underlying196 rfl HZ.out ?_)
        | (refine wpList_store_mid rfl 196 _ _ rfl (w.heap.size + 1) 0 (cw (sched2 b 48)).toArray rfl rfl (hI.res.there 0 _ (by simp [HL.out])) (by simpa using HZ.out) (all_oneCell_toArray (cw_one _)) ?_))
       have hB:=hI.res.whole (cw (sched2 b 48)) HL.out;refine bodyPost_ret (v:=.agg (cw (sched2 b 48)).toArray) (results_cell_row (by rfl) _ _ (w.heap.size + 1) 196 _ (0,0) _ rfl hB Tryz.underlying196 rfl (by simpa using HZ.out)) rfl ⟨rfl,Below.setCells _ (by omega) _ _ _ hI.bel⟩
theorem Tryz.info106:(Tryz.prog.info? 106).map (·.size) = some 64:=by kernel_rfl
theorem Tryz.info184:(Tryz.prog.info? 184).map (·.size) = some 8:=by kernel_rfl
theorem built8 (na nb nc nd ne nf ng nh:Int):Tryz.prog.built 184 [(0,Value.int .u32 na),(1,Value.int .u32 nb),(2,Value.int .u32 nc),(3,Value.int .u32 nd),(4,Value.int .u32 ne),(5,Value.int .u32 nf),(6,Value.int .u32 ng),(7,Value.int .u32 nh)] = some #[Value.int .u32 na,Value.int .u32 nb,Value.int .u32 nc,Value.int .u32 nd,Value.int .u32 ne,Value.int .u32 nf,Value.int .u32 ng,Value.int .u32 nh]:=by kernel_rfl
def KOk (w:World):Prop:=∀ j,j < 64 → w.cell? ⟨1,j,none⟩ = some (.int .u32 ((kw.getD j 0).toNat:Int))
theorem KOk.lt {w:World} (h:KOk w):1 < w.heap.size:=block_lt_of_cell (h 0 (by omega))
theorem KOk.below {w w':World} {B:Nat} (h:KOk w) (hb:Below B w w') (hB:1 < B):KOk w':=fun j hj => by rw [hb.cell (p:=⟨1,j,none⟩) hB];exact h j hj
structure MixInv (w:World) (s:St) (ws:List (BitVec 32)) (g:Nat) (wr:World):Prop where
 wds:Blk wr w.heap.size (cw s.l) 184
 res:Blk wr (w.heap.size + 1 + 1) (cw z8) 184
 sch:Blk wr g (cw ws) 196
 kok:KOk wr
 bel:Below w.heap.size w wr
theorem MixInv.drewN {w wr:World} {s:St} {ws:List (BitVec 32)} {g:Nat} (h:MixInv w s ws g wr) (n:Nat):MixInv w s ws g (wr.drewN n):=
 ⟨h.wds,h.res,h.sch,h.kok,⟨h.bel.os,h.bel.tape,h.bel.output,h.bel.size,h.bel.block⟩⟩
theorem MixInv.words {w wr:World} {s:St} {ws:List (BitVec 32)} {g:Nat} (h:MixInv w s ws g wr) :
 wr.cell? ⟨w.heap.size,0,none⟩ = some (.int .u32 (s.a.toNat:Int)) ∧ wr.cell? ⟨w.heap.size,1,none⟩ = some (.int .u32 (s.b.toNat:Int)) ∧
 wr.cell? ⟨w.heap.size,2,none⟩ = some (.int .u32 (s.c.toNat:Int)) ∧ wr.cell? ⟨w.heap.size,3,none⟩ = some (.int .u32 (s.d.toNat:Int)) ∧
 wr.cell? ⟨w.heap.size,4,none⟩ = some (.int .u32 (s.e.toNat:Int)) ∧ wr.cell? ⟨w.heap.size,5,none⟩ = some (.int .u32 (s.f.toNat:Int)) ∧
 wr.cell? ⟨w.heap.size,6,none⟩ = some (.int .u32 (s.g.toNat:Int)) ∧ wr.cell? ⟨w.heap.size,7,none⟩ = some (.int .u32 (s.h.toNat:Int)):=by
 simp only [h.wds.cell]
 exact ⟨rfl,rfl,rfl,rfl,rfl,rfl,rfl,rfl⟩
theorem MixInv.at {w wr:World} {s:St} {ws:List (BitVec 32)} {g:Nat} (h:MixInv w s ws g wr) (j:Nat) (hj:j < ws.length):wr.cell? ⟨g,j,none⟩ = some (.int .u32 ((ws.getD j 0).toNat:Int)):=by
 rw [h.sch.cell,cw_get ws j hj]
theorem rounds_succ' (ws:List (BitVec 32)) (s:St) (k:Nat):rounds ws s (k + 1) = rnd (rounds ws s k) (kw.getD k 0) (ws.getD k 0):=rfl
theorem MixInv.start {w w1:World} {s:St} {ws:List (BitVec 32)} {X:Obj} (hK:KOk w) (hl:ws.length = 64)
 (h:Below (w.heap.size + 1 + 1 + 1) (((w.alloc (.cells (cw s.l).toArray 184)).alloc X).alloc (.cells (cw z8).toArray 184)) w1) :
 MixInv w s ws w1.heap.size ((w1.alloc (.cells (cw z64).toArray 196)).setCells w1.heap.size 0 (cw ws)):=by
 have h1:=h.size
 simp at h1
 have hk:=hK.lt
 have b0:Below w.heap.size w (((w.alloc (.cells (cw s.l).toArray 184)).alloc X).alloc (.cells (cw z8).toArray 184)):=
  (((Below.refl _ _).alloc (Nat.le_refl _) _).alloc (by simp) _).alloc (by simp;omega) _
 have b1:Below w.heap.size w w1:=b0.trans (h.mono (by omega))
 have b2:Below w.heap.size w ((w1.alloc (.cells (cw z64).toArray 196)).setCells w1.heap.size 0 (cw ws)):=Below.setCells _ (by omega) _ _ _ (b1.alloc (by omega) _)
 refine ⟨?_,?_,?_,hK.below b2 hk,b2⟩
 · exact Blk.others _ _ _ _ ((Blk.below (((Blk.new w (cw s.l) _).alloc _).alloc _) h (by omega)).alloc _) (by omega)
 · exact Blk.others _ _ _ _ ((Blk.below (Blk.new_at (by simp) (cw z8) _) h (by omega)).alloc _) (by omega)
 · exact (Blk.new w1 _ _).whole _ (by simp [cw_len,hl,len_z64])
theorem mix_any (s:St) (b:List (BitVec 8)) (hb:b.length = 64) (w:World) (hK:KOk w) :
 Calls Tryz.prog 169 #[.agg (cw s.l).toArray,.agg (cb b).toArray] w fun e w' => e = .returned (.agg (cw (compress s b).l).toArray) ∧ Below w.heap.size w w':=by
 have HK:Hid (KOk w):=hK
 clear hK
 obtain ⟨r,HR⟩:∃ r,Hid (compress s b = r):=⟨_,rfl⟩
 rw [HR.out]
 go_enter Tryz.func169,Tryz.ntmps169
 have HZ:Hid ((Tryz.prog.info? 106).map (·.size) = some (cb b).length):=by rw [cb_len,hb];exact Tryz.info106
 have HY:Hid ((Tryz.prog.info? 196).map (·.size) = some (cw (sched2 b 48)).length):=by rw [cw_len,len_sched2];exact Tryz.info196
 have HN:Hid (b.length = 64):=hb
 clear hb
 set_option maxRecDepth 100000 in
 go_wp2_with (first
  | (refine wpList_load_mid rfl 106 _ rfl _ 0 rfl (cb b) _ ?_ Tryz.underlying106 rfl HZ.out ?_;exact (Blk.alloc (Blk.new_at (by simp) _ _) _).range)
  | (go_at_call 172;refine (spread_any b HN.out _).mono ?_;rintro e w1 ⟨rfl,hw1⟩)
  | (refine wpList_store_mid rfl 196 _ _ rfl _ 0 (cw (sched2 b 48)).toArray rfl rfl ?_ (by simpa using HY.out) (all_oneCell_toArray (cw_one _)) ?_;exact Blk.there (Blk.new_at rfl (cw z64) _) _ _ (by simp [cw_len,len_sched2,len_z64])))
 have h2:=hw1.mono (B':=w.heap.size + 1 + 1 + 1) (by simp)
 clear hw1
 generalize h0:Obj.cells _ 196 = o64
 set_option maxRecDepth 100000 in
 have ho:o64 = Obj.cells (cw z64).toArray 196:=h0.symm
 clear h0
 subst ho
 set_option maxRecDepth 100000 in
 have hI:=MixInv.start (ws:=sched2 b 48) HK.out (len_sched2 b 48) h2
 clear h2
 generalize World.setCells _ _ _ _ = wq at *
 have HL:Hid ((sched2 b 48).length = 64):=len_sched2 b 48
 clear HY
 generalize hws:sched2 b 48 = ws at *
 have HW:Hid (sched2 b 48 = ws):=hws
 clear hws
 generalize w1.heap.size = g at *
 simp only [Act.put]
 as_aux_lemma =>
  obtain ⟨c0,c1,c2,c3,c4,c5,c6,c7⟩:=hI.words
  go_quiet (fail)
  have hJ:=hI.drewN nq
  clear c0 c1 c2 c3 c4 c5 c6 c7 hI
  generalize wq.drewN nq = wp at *
  obtain ⟨c0,c1,c2,c3,c4,c5,c6,c7⟩:=hJ.words
  go_wp2
  go_quiet (fail)
  have hI:=hJ.drewN nq
  clear c0 c1 c2 c3 c4 c5 c6 c7 hJ
  generalize wp.drewN nq = wq at *
  go_wp2
  go_loopw [6,7,8,9,10,11,12,13,35] (fun v6 v7 v8 v9 v10 v11 v12 v13 i wr => ∃ k:Nat,k ≤ 64 ∧ i = .int .i64 k ∧
   v6 = .int .u32 ((rounds ws s k).a.toNat:Int) ∧ v7 = .int .u32 ((rounds ws s k).b.toNat:Int) ∧ v8 = .int .u32 ((rounds ws s k).c.toNat:Int) ∧ v9 = .int .u32 ((rounds ws s k).d.toNat:Int) ∧
   v10 = .int .u32 ((rounds ws s k).e.toNat:Int) ∧ v11 = .int .u32 ((rounds ws s k).f.toNat:Int) ∧ v12 = .int .u32 ((rounds ws s k).g.toNat:Int) ∧ v13 = .int .u32 ((rounds ws s k).h.toNat:Int) ∧ MixInv w s ws g wr)
   (fun _ _ _ _ _ _ _ _ i _ => 64 - (intOf i).toNat)
  case atStart => exact ⟨0,by omega,rfl,rfl,rfl,rfl,rfl,rfl,rfl,rfl,rfl,hI⟩
  case round =>
   clear hI;obtain ⟨k,hk,rfl,rfl,rfl,rfl,rfl,rfl,rfl,rfl,rfl,hI⟩:=hrel
   by_cases hlt:k < 64
   · obtain ⟨x,y,cx,cy,HS⟩:∃ x y:BitVec 32,wr.cell? ⟨g,k,none⟩ = some (.int .u32 (x.toNat:Int)) ∧ wr.cell? ⟨1,k,none⟩ = some (.int .u32 (y.toNat:Int)) ∧ Hid (rounds ws s (k + 1) = rnd (rounds ws s k) y x):=
      ⟨_,_,hI.at k (by have:=HL.out;omega),hI.kok k hlt,rounds_succ' ws s k⟩
     clear HL HN HW HR
     generalize rounds ws s k = q at *
     obtain ⟨ra,rb,rc,rd,re,rf,rg,rh⟩:=q
     dsimp only at *
     go_wp2
     go_quiet ((go_at_call 173;exact Calls.quiet_of_same (turned_any _ _ _ (by omega) (by omega))))
     go_wp2_with (go_at_call 173;refine (turned_any _ _ _ (by omega) (by omega)).mono ?_;rintro e w' ⟨rfl,rfl⟩)
     go_roundw
     case rel =>
      refine ⟨k + 1,by omega,by go_num,?_,?_,?_,?_,?_,?_,?_,?_,hI.drewN nq⟩
      all_goals rw [HS.out]
      · rw [big1_eq,cho_own,big0_eq,maj_eq,sum_a];rfl
      · rfl
      · rfl
      · rfl
      · rw [big1_eq,cho_own,sum_e];rfl
      · rfl
      · rfl
      · rfl
     case measure => simp [intOf];omega
   · have hk64:k = 64:=by omega
     subst hk64;obtain ⟨c0,c1,c2,c3,c4,c5,c6,c7⟩:=hI.words;have HC:Hid (r = s.plus (rounds ws s 64)):=by have:=HR.out;rw [compress_eq,HW.out] at this;exact this.symm
     clear HW HR
     generalize rounds ws s 64 = q at *
     as_aux_lemma =>
      go_wp2_with (first
       | (refine wpList_build8 rfl 184 _ _ _ _ _ _ _ _ rfl _ _ _ _ _ _ _ _ rfl rfl rfl rfl rfl rfl rfl rfl (built8 _ _ _ _ _ _ _ _) ?_)
       | (refine wpList_store8 rfl 184 _ _ rfl _ _ _ _ _ _ _ _ _ rfl rfl (hI.res.there 0 8 (by simp [cw_len,len_z8])) Tryz.info184 ?_))
      have hB:=hI.res.whole [Value.int .u32 (((s.a.toNat:Int) + (q.a.toNat:Int)) % 4294967296),Value.int .u32 (((s.b.toNat:Int) + (q.b.toNat:Int)) % 4294967296),Value.int .u32 (((s.c.toNat:Int) + (q.c.toNat:Int)) % 4294967296),Value.int .u32 (((s.d.toNat:Int) + (q.d.toNat:Int)) % 4294967296),Value.int .u32 (((s.e.toNat:Int) + (q.e.toNat:Int)) % 4294967296),Value.int .u32 (((s.f.toNat:Int) + (q.f.toNat:Int)) % 4294967296),Value.int .u32 (((s.g.toNat:Int) + (q.g.toNat:Int)) % 4294967296),Value.int .u32 (((s.h.toNat:Int) + (q.h.toNat:Int)) % 4294967296)] (by rw [cw_len,len_z8];rfl)
      refine bodyPost_ret (v:=.agg #[Value.int .u32 (((s.a.toNat:Int) + (q.a.toNat:Int)) % 4294967296),Value.int .u32 (((s.b.toNat:Int) + (q.b.toNat:Int)) % 4294967296),Value.int .u32 (((s.c.toNat:Int) + (q.c.toNat:Int)) % 4294967296),Value.int .u32 (((s.d.toNat:Int) + (q.d.toNat:Int)) % 4294967296),Value.int .u32 (((s.e.toNat:Int) + (q.e.toNat:Int)) % 4294967296),Value.int .u32 (((s.f.toNat:Int) + (q.f.toNat:Int)) % 4294967296),Value.int .u32 (((s.g.toNat:Int) + (q.g.toNat:Int)) % 4294967296),Value.int .u32 (((s.h.toNat:Int) + (q.h.toNat:Int)) % 4294967296)]) (results_cell_row (by rfl) _ _ (w.heap.size + 1 + 1) 184 _ (0,0) _ rfl hB Tryz.underlying184 rfl Tryz.info184) rfl ⟨?_,Below.setCells _ (by omega) _ _ _ hI.bel⟩
      rw [HC.out,← plus_cells]

def blocks:Nat → St → List (BitVec 8) → St
 | 0,s,_ => s
 | k + 1,s,m => blocks k (compress s (m.take 64)) (m.drop 64)
theorem blocks_append:∀ (k:Nat) (s:St) (m x:List (BitVec 8)),64 * k ≤ m.length → blocks k s (m ++ x) = blocks k s m
 | 0,_,_,_,_ => rfl
 | k + 1,s,m,x,h => by
  simp only [blocks]
  rw [List.take_append_of_le_length (by omega),List.drop_append_of_le_length (by omega)]
  exact blocks_append k _ _ _ (by simp;omega)
theorem blocks_last:∀ (k:Nat) (s:St) (m:List (BitVec 8)),blocks (k + 1) s m = compress (blocks k s m) ((m.drop (64 * k)).take 64)
 | 0,s,m => by simp [blocks]
 | k + 1,s,m => by
  rw [blocks,blocks_last k,blocks,List.drop_drop]
  congr 3;omega

def hc (s:St) (blk:List (BitVec 8)) (n:Nat):List Value:=cw s.l ++ (cb blk ++ [Value.int .u64 (n:Int)])
theorem len_l (s:St):(cw s.l).length = 8:=rfl
theorem len_hc (s:St) (blk:List (BitVec 8)) (n:Nat) (h:blk.length = 64):(hc s blk n).length = 73:=by simp [hc,len_l,cb_len,h]
theorem hc_len (s:St) (blk:List (BitVec 8)) (n:Nat) (h:blk.length = 64):(hc s blk n)[72]? = some (.int .u64 (n:Int)):=by
 rw [hc,List.getElem?_append_right (by rw [len_l];omega),List.getElem?_append_right (by rw [cb_len,len_l,h];omega)]
 simp [cb_len,len_l,h]
theorem hc_setn (s:St) (blk:List (BitVec 8)) (n k:Nat) (h:blk.length = 64):(hc s blk n).set 72 (.int .u64 (k:Int)) = hc s blk k:=by
 rw [hc,List.set_append_right _ _ (by rw [len_l];omega),List.set_append_right _ _ (by rw [cb_len,len_l,h];omega)]
 simp [cb_len,len_l,h,hc]
theorem hc_words (s t:St) (blk:List (BitVec 8)) (n:Nat):(hc s blk n).take 0 ++ cw t.l ++ (hc s blk n).drop (0 + (cw t.l).length) = hc t blk n:=by
 rw [len_l,hc,List.drop_append_of_le_length (by rw [len_l];omega)]
 simp [hc,cw,St.l]
theorem hc_block (s:St) (blk y:List (BitVec 8)) (n r:Nat) (h:blk.length = 64) (hy:r + y.length ≤ 64) :
 (hc s blk n).take (8 + r) ++ cb y ++ (hc s blk n).drop (8 + r + (cb y).length) = hc s (blk.take r ++ y ++ blk.drop (r + y.length)) n:=by
 have h1:(hc s blk n).take (8 + r) = cw s.l ++ cb (blk.take r):=by
  rw [hc,List.take_append,len_l,List.take_of_length_le (by rw [len_l];omega),show 8 + r - 8 = r by omega,List.take_append_of_le_length (by rw [cb_len];omega)]
  simp [cb,List.map_take]
 have h2:(hc s blk n).drop (8 + r + (cb y).length) = cb (blk.drop (r + y.length)) ++ [Value.int .u64 (n:Int)]:=by
  rw [hc,cb_len,List.drop_append,len_l,List.drop_of_length_le (by rw [len_l];omega),show 8 + r + y.length - 8 = r + y.length by omega,List.drop_append_of_le_length (by rw [cb_len];omega)]
  simp [cb,List.map_drop]
 rw [h1,h2]
 simp [hc,cb]
theorem hc_block_at (s:St) (blk:List (BitVec 8)) (n:Nat) (h:blk.length = 64) (j:Nat) (v:Value) (hv:(cb blk)[j]? = some v):(hc s blk n)[8 + j]? = some v:=by
 have hj:j < blk.length:=by have:=(List.getElem?_eq_some_iff.1 hv).1;rwa [cb_len] at this
 rw [hc,List.getElem?_append_right (by rw [len_l];omega),len_l,show 8 + j - 8 = j by omega,List.getElem?_append_left (by rw [cb_len];omega)]
 exact hv
theorem hc_words_at (s:St) (blk:List (BitVec 8)) (n:Nat) (j:Nat) (v:Value) (hv:(cw s.l)[j]? = some v):(hc s blk n)[0 + j]? = some v:=by
 have hj:j < (cw s.l).length:=(List.getElem?_eq_some_iff.1 hv).1
 rw [hc,List.getElem?_append_left (by omega),Nat.zero_add];exact hv

structure Says (s:St) (blk m:List (BitVec 8)):Prop where
 len:blk.length = 64
 wds:s = blocks (m.length / 64) st0 m
 blk:blk.take (m.length % 64) = m.drop (64 * (m.length / 64))
theorem Says.more {s:St} {blk m y:List (BitVec 8)} (h:Says s blk m) (hy:m.length % 64 + y.length < 64) :
 Says s (blk.take (m.length % 64) ++ y ++ blk.drop (m.length % 64 + y.length)) (m ++ y):=by
 have hl:=h.len
 have e1:(m ++ y).length / 64 = m.length / 64:=by simp;omega
 have e2:(m ++ y).length % 64 = m.length % 64 + y.length:=by simp;omega
 refine ⟨by simp [hl];omega,?_,?_⟩
 · rw [e1,blocks_append _ _ _ _ (by omega)];exact h.wds
 · rw [e1,e2,List.drop_append_of_le_length (by omega),← h.blk,List.take_append_of_le_length (by simp [hl];omega),List.take_of_length_le (by simp [hl];omega)]
theorem Says.full {s:St} {blk m y:List (BitVec 8)} (h:Says s blk m) (hy:m.length % 64 + y.length = 64) :
 Says (compress s (blk.take (m.length % 64) ++ y ++ blk.drop (m.length % 64 + y.length))) (blk.take (m.length % 64) ++ y ++ blk.drop (m.length % 64 + y.length)) (m ++ y):=by
 have hl:=h.len
 have e1:(m ++ y).length / 64 = m.length / 64 + 1:=by simp;omega
 have e2:(m ++ y).length % 64 = 0:=by simp;omega
 have e3:blk.drop (m.length % 64 + y.length) = []:=List.drop_of_length_le (by omega)
 have e4:(m ++ y).drop (64 * (m.length / 64)) = m.drop (64 * (m.length / 64)) ++ y:=List.drop_append_of_le_length (by omega)
 refine ⟨by simp [hl];omega,?_,?_⟩
 · rw [e1,blocks_last,blocks_append _ _ _ _ (by omega),← h.wds,e4,h.blk,e3,List.append_nil,List.take_of_length_le (by simp;omega)]
 · rw [e1,e2,List.take_zero,List.drop_of_length_le (by simp;omega)]

structure Only (g:Nat) (w w':World):Prop where
 os:w'.os = w.os
 tape:w'.tape = w.tape
 output:w'.output = w.output
 size:w.heap.size ≤ w'.heap.size
 block:∀ k,k ≠ g → k < w.heap.size → w'.heap[k]? = w.heap[k]?
theorem Only.refl (g:Nat) (w:World):Only g w w:=⟨rfl,rfl,rfl,Nat.le_refl _,fun _ _ _ => rfl⟩
theorem Only.trans {g:Nat} {a b c:World} (h:Only g a b) (k:Only g b c):Only g a c:=
 ⟨k.os.trans h.os,k.tape.trans h.tape,k.output.trans h.output,Nat.le_trans h.size k.size,fun i hi hl => (k.block i hi (Nat.lt_of_lt_of_le hl h.size)).trans (h.block i hi hl)⟩
theorem Only.drew {g:Nat} {a b:World} (h:Only g a b):Only g a b.drew:=⟨h.os,h.tape,h.output,h.size,h.block⟩
theorem Only.setCell {g:Nat} {a b:World} (h:Only g a b) (i:Nat) (v:Value):Only g a (b.setCell ⟨g,i,none⟩ v):=
 h.trans ⟨rfl,rfl,rfl,by simp [World.setCell],fun k hk _ => Below.heap_setCell _ _ _ _ hk⟩
theorem Only.setCells {g:Nat} {a:World}:∀ (vs:List Value) (o:Nat) (w:World),Only g a w → Only g a (w.setCells g o vs)
 | [],_,_,h => h
 | v :: r,o,w,h => by rw [World.setCells];exact Only.setCells r (o + 1) _ (h.setCell o v)
theorem Only.of_below {g:Nat} {w w':World} (h:Below w.heap.size w w'):Only g w w':=⟨h.os,h.tape,h.output,h.size,fun k _ hk => h.block k hk⟩
theorem Only.below {g:Nat} {w w':World} (h:Only g w w') {B:Nat} (hg:B ≤ g) (hB:B ≤ w.heap.size):Below B w w':=⟨h.os,h.tape,h.output,h.size,fun k hk => h.block k (by omega) (by omega)⟩
theorem Blk.only {w w':World} {g g':Nat} {cs:List Value} {t:TypeId} (h:Blk w g cs t) (ho:Only g' w w') (hne:g ≠ g'):Blk w' g cs t:=by
 have:=h.lt
 unfold Blk at *
 rw [ho.block g hne this];exact h
theorem Only.cell {g:Nat} {w w':World} (h:Only g w w') {p:Addr} (hp:p.block ≠ g) {v:Value} (hv:w.cell? p = some v):w'.cell? p = some v:=by
 rw [World.cell?_of_block (w:=w) (h.block p.block hp (block_lt_of_cell hv))];exact hv

def Bytes (w:World) (g:Nat) (v:Value) (bs:List (BitVec 8)):Prop:=
 ∃ ad cap,v = .slice ad bs.length cap ∧ bs.length ≤ cap ∧ (0 < bs.length → ∃ b off,ad = some ⟨b,off,none⟩ ∧ b ≠ g ∧ ∀ j,j < bs.length → w.cell? ⟨b,off + j,none⟩ = some (.int .u8 ((bs.getD j 0).toNat:Int)))
theorem Bytes.only {w w':World} {g:Nat} {v:Value} {bs:List (BitVec 8)} (h:Bytes w g v bs) (ho:Only g w w'):Bytes w' g v bs:=by
 obtain ⟨ad,cap,hv,hc,hx⟩:=h
 refine ⟨ad,cap,hv,hc,fun hp => ?_⟩
 obtain ⟨b,off,h1,h2,h3⟩:=hx hp
 exact ⟨b,off,h1,h2,fun j hj => ho.cell h2 (h3 j hj)⟩
theorem Bytes.below {w w':World} {g:Nat} {v:Value} {bs:List (BitVec 8)} (h:Bytes w g v bs) (hb:Below w.heap.size w w'):Bytes w' g v bs:=h.only (Only.of_below hb)
def HashIs (t:TypeId) (w:World) (g:Nat) (m:List (BitVec 8)):Prop:=∃ s blk,Blk w g (hc s blk m.length) t ∧ Says s blk m
theorem HashIs.below {t:TypeId} {w w':World} {g B:Nat} {m:List (BitVec 8)} (h:HashIs t w g m) (hb:Below B w w') (hg:g < B):HashIs t w' g m:=by
 obtain ⟨s,blk,h1,h2⟩:=h
 exact ⟨s,blk,h1.below hb hg,h2⟩
theorem HashIs.lt {t:TypeId} {w:World} {g:Nat} {m:List (BitVec 8)} (h:HashIs t w g m):g < w.heap.size:=by
 obtain ⟨s,blk,h1,h2⟩:=h
 exact h1.lt
theorem step_copy_cells {P:Program} {ops:Array Oper} {o:Oper} {a:Act} {w:World} {K:Act → World → Prop} {Q:Exit → Act → World → Prop} {E:Prop} (hgd:o.guard = none) (d s:Operand) (dT sT:TypeId)
 (ho:o.op = .call { callee:=.builtin .copy,args:=#[d,s],argTypes:=#[dT,sT] }) (elem:TypeId) (hu:P.underlying dT = some (.slice elem)) (hsz:(P.info? elem).map (·.size) = some 1)
 (b off dLen dCap:Nat) (ad:Addr) (sLen sCap:Nat) (hd:a.eval d = .slice (some ⟨b,off,none⟩) dLen dCap) (hs:a.eval s = .slice (some ad) sLen sCap) (cs:List Value) (hn:cs.length = Nat.min sLen dLen)
 (hsrc:∀ j v,cs[j]? = some v → w.cell? (ad.add j) = some v) (ht:w.there b off cs.length) (h1:∀ v ∈ cs,v.oneCell' = true)
 (h:K (a.put o.dst (goInt cs.length)) (w.setCells b off cs)):if Region.wanted o (yielded ops a.tmps) = true then Oper.wp P o a w K Q else E:=by
 have hw:Region.wanted o (yielded ops a.tmps) = true:=by simp [Region.wanted,hgd]
 rw [if_pos hw]
 have hrun:=run_copy_cells (P:=P) w dT sT o.type elem b off dLen dCap ad sLen sCap cs hu hsz hn hsrc (fun j hj => (ht j hj).1) (fun j hj => (ht j hj).2) h1
 unfold Oper.wp
 simp [execOp,ho,resolve,invoke,builtin,hd,hs,hrun,Result.andThen]
 exact h
theorem wpStill_load {P:Program} {ops:Array Oper} {w:World} {Q:Act → Prop} {o:Oper} {rest:List Oper} {a:Act} (hgd:o.guard = none) (ty:TypeId) (x:Operand) (ho:o.op = .load ty x)
 (b of:Nat) (hx:a.eval x = .pointer (some ⟨b,of,none⟩)) (cs:List Value) (d:TypeDesc) (hc:w.rangeAt b of cs)
 (hu:P.underlying ty = some d) (hd:d.isRow = true) (hi:(P.info? ty).map (·.size) = some cs.length)
 (h:wpStill P ops w Q rest (a.put o.dst (.agg cs.toArray))):wpStill P ops w Q (o :: rest) a:=by
 have hw:Region.wanted o (yielded ops a.tmps) = true:=by simp [Region.wanted,hgd]
 rw [wpStill,if_pos hw]
 unfold Oper.still execOp
 simp only [ho,hx,Instr.loadAt,Instr.sureAddr,Sem.run_bind,Sem.run_pure,Result.andThen_ok,run_loadVar_mid w b of ty cs d hc hu hd hi]
 exact ⟨rfl,h⟩
theorem hc_range_words {t:TypeId} {w:World} {g:Nat} {s:St} {blk:List (BitVec 8)} {n:Nat} (h:Blk w g (hc s blk n) t):w.rangeAt g 0 (cw s.l):=fun j v hv => by rw [h.cell,hc_words_at s blk n j v hv]
theorem hc_range_block {t:TypeId} {w:World} {g:Nat} {s:St} {blk:List (BitVec 8)} {n:Nat} (h:Blk w g (hc s blk n) t) (hl:blk.length = 64):w.rangeAt g 8 (cb blk):=fun j v hv => by rw [h.cell,hc_block_at s blk n hl j v hv]
theorem hc_there {t:TypeId} {w:World} {g:Nat} {s:St} {blk:List (BitVec 8)} {n:Nat} (h:Blk w g (hc s blk n) t) (hl:blk.length = 64):w.there g 0 8:=h.there 0 8 (by rw [len_hc s blk n hl];omega)
theorem hc_store {t:TypeId} {w:World} {g:Nat} {s:St} {blk:List (BitVec 8)} {n:Nat} (h:Blk w g (hc s blk n) t) (hl:blk.length = 64) (r:St):Blk (w.setCells g 0 (cw r.l)) g (hc r blk n) t:=by
 have:=setCells_eq g (cw r.l) 0 w _ t h (by rw [len_hc s blk n hl,len_l];omega)
 rwa [hc_words] at this
theorem Bytes.drop_eq {w:World} {g b off n cap c:Nat} {rest:List (BitVec 8)} (h:Bytes w g (.slice (some ⟨b,off,none⟩) n cap) rest) (hc:c ≤ n) (hcc:cap = c):Bytes w g (.slice (some ⟨b,off,none⟩) (n - c) 0) (rest.drop c):=by
 obtain ⟨ad,cap',hv,hcap,hx⟩:=h
 simp only [Value.slice.injEq] at hv
 obtain ⟨rfl,hn,rfl⟩:=hv
 exact ⟨some ⟨b,off,none⟩,0,by simp [hn],by simp;omega,fun hp => by simp at hp;omega⟩
theorem Bytes.drop_ne {w:World} {g b off n cap c:Nat} {rest:List (BitVec 8)} (h:Bytes w g (.slice (some ⟨b,off,none⟩) n cap) rest) (hc:c ≤ n):Bytes w g (.slice (some ⟨b,off + c,none⟩) (n - c) (cap - c)) (rest.drop c):=by
 obtain ⟨ad,cap',hv,hcap,hx⟩:=h
 simp only [Value.slice.injEq] at hv
 obtain ⟨rfl,hn,rfl⟩:=hv
 refine ⟨some ⟨b,off + c,none⟩,cap - c,by simp [hn],by simp;omega,fun hp => ?_⟩
 simp at hp
 obtain ⟨b',off',h1,h2,h3⟩:=hx (by omega)
 simp only [Option.some.injEq,Addr.mk.injEq,and_true] at h1
 obtain ⟨rfl,rfl⟩:=h1
 refine ⟨b,off + c,rfl,h2,fun j hj => ?_⟩
 simp at hj
 have:=h3 (c + j) (by omega)
 rw [show off + c + j = off + (c + j) by omega,this]
 simp
theorem Bytes.drop_if {w:World} {g b off n cap c:Nat} {rest:List (BitVec 8)} (h:Bytes w g (.slice (some ⟨b,off,none⟩) n cap) rest) (hc:c ≤ n) :
 Bytes w g (.slice (if cap = c then some ⟨b,off,none⟩ else some ⟨b,off + c,none⟩) (n - c) (cap - c)) (rest.drop c):=by
 by_cases hcc:cap = c
 · rw [if_pos hcc];have:=h.drop_eq hc hcc;rwa [show cap - c = 0 by omega]
 · rw [if_neg hcc];exact h.drop_ne hc
end Go.Proofs.YtheincjkoefalaaGreatDoor
namespace Go.Proofs.YtheincjkoefalaaGreatDoor
open Go
section
variable {P:Program} {md:Region.Mode} {C:World → Prop}
def idle (o:Oper):Oper:={ dst:=none,op:=.move (.const undef),type:=o.type,pos:=o.pos,after:=o.after,guard:=none }
theorem ready_idle (l:List Oper) (o:Oper) (listed:Array Bool):Region.ready md (l ++ [idle o]).toArray listed = Region.ready md (l ++ [o]).toArray listed:=by
 unfold Region.ready
 have hs:(l ++ [idle o]).toArray.size = (l ++ [o]).toArray.size:=by simp
 rw [hs]
 apply List.filter_congr
 intro i _
 congr 1
 simp only [List.getElem?_toArray]
 rcases Nat.lt_trichotomy i l.length with h | h | h
 · rw [List.getElem?_append_left h,List.getElem?_append_left h]
 · subst h;simp [idle]
 · rw [List.getElem?_eq_none (by simp;omega),List.getElem?_eq_none (by simp;omega)]
def lastB (md:Region.Mode) (l:List Oper) (o:Oper):Bool:=
 (List.range (l.length + 1)).all (fun i => (((l ++ [o])[i]?).map fun x => x.after.all fun e => !Region.binds md e || decide (e.on < i)).getD true) &&
 (l ++ [o]).all (fun x => x.guard.isNone) &&
 (List.range l.length).all (fun i => (List.range (l.length + 1)).any fun j => decide (i < j) && (((l ++ [o])[j]?).map fun x => x.after.any fun e => Region.binds md e && e.on == i).getD false)
theorem getD_set {listed:Array Bool} {i j:Nat} (d:Bool) (h:j ≠ i):(listed.setIfInBounds i true).getD j d = listed.getD j d:=by
 simp [h.symm]
theorem ready_nonempty {ops:Array Oper} (hb:∀ i o,ops[i]? = some o → ∀ e ∈ o.after,Region.binds md e = true → e.on < i) (listed:Array Bool) (hsz:listed.size = ops.size) :
 ∀ n,n < ops.size → listed.getD n true = false → Region.ready md ops listed ≠ []:=by
 intro n
 induction n using Nat.strongRecOn with
 | _ n ih =>
  intro hn hu h0
  by_cases hr:n ∈ Region.ready md ops listed
  · rw [h0] at hr;cases hr
  · apply hr
    refine mem_ready.2 ⟨hu,ops[n],by simp [hn],fun e he hbd => ?_⟩
    have hlt:=hb n ops[n] (by simp [hn]) e he hbd
    cases hl:listed.getD e.on false with
    | true => rfl
    | false =>
     exact absurd h0 (ih e.on hlt (by omega) (by have:e.on < listed.size:=by omega
                                                 simp [this] at hl ⊢;exact hl))
theorem all_listed {l:List Oper} {o:Oper} {listed:Array Bool} (hw:∀ i,i < l.length → ∃ j x,i < j ∧ j ≤ l.length ∧ (l ++ [o]).toArray[j]? = some x ∧ ∃ e ∈ x.after,Region.binds md e = true ∧ e.on = i)
 (hcl:∀ j x,(l ++ [o]).toArray[j]? = some x → listed.getD j false = true → ∀ e ∈ x.after,Region.binds md e = true → listed.getD e.on false = true)
 (ho:(l ++ [o]).toArray[l.length]? = some o) (hall:∀ e ∈ o.after,Region.binds md e = true → listed.getD e.on false = true) :
 ∀ d i,l.length - i = d → i < l.length → listed.getD i false = true:=by
 intro d
 induction d using Nat.strongRecOn with
 | _ d ih =>
  intro i hd hi
  obtain ⟨j,x,hij,hjl,hx,e,he,hbd,hon⟩:=hw i hi
  by_cases hjN:j = l.length
  · subst hjN
    have hxo:x = o:=Option.some.inj (hx.symm.trans ho);subst hxo;rw [← hon];exact hall e he hbd
  · have hj:=ih (l.length - j) (by omega) j rfl (by omega)
    rw [← hon];exact hcl j x hx hj e he hbd
theorem wpAny_of_last {l:List Oper} {o:Oper} {Q':Exit → Act → World → Prop}
 (hb:∀ i x,(l ++ [o]).toArray[i]? = some x → ∀ e ∈ x.after,Region.binds md e = true → e.on < i) (hg:∀ x ∈ l ++ [o],x.guard = none) (hw:∀ i,i < l.length → ∃ j x,i < j ∧ j ≤ l.length ∧ (l ++ [o]).toArray[j]? = some x ∧ ∃ e ∈ x.after,Region.binds md e = true ∧ e.on = i) :
 ∀ (fuel:Nat) (listed:Array Bool) (a:Act) (w:World) (S:List Nat),C w → S.Nodup → S.length = fuel → (∀ i,i ∈ S ↔ (i < (l ++ [o]).length ∧ listed.getD i true = false)) → l.length ∈ S → listed.size = (l ++ [o]).length → (∀ j x,(l ++ [o]).toArray[j]? = some x → listed.getD j false = true → ∀ e ∈ x.after,Region.binds md e = true → listed.getD e.on false = true) →
 wpAnyQ P md (l ++ [idle o]).toArray C (fun a' => ∀ w',C w' → o.wp P a' w' (fun a'' w'' => Q' .normal a'' w'') Q') fuel listed a → wpAny P md (l ++ [o]).toArray Q' fuel listed a w:=by
 intro fuel
 induction fuel with
 | zero => intro listed a w S _ _ hl _ hN _ _ _;rw [List.length_eq_zero_iff.1 hl] at hN;cases hN
 | succ fuel ih =>
  intro listed a w S hC hnd hlen hS hN hsz hcl hq
  obtain ⟨_,hq2⟩:=hq
  rw [ready_idle] at hq2
  have hNu:=((hS l.length).1 hN).2
  refine ⟨fun h0 => absurd h0 (ready_nonempty hb listed (by simpa using hsz) l.length (by simp) hNu),fun i hi => ?_⟩
  have hqi:=hq2 i hi
  obtain ⟨hiu,oi,hoi,hall⟩:=mem_ready.1 hi
  have hil:i < (l ++ [o]).length:=by simpa using (Array.getElem?_eq_some_iff.1 hoi).1
  by_cases hiN:i = l.length
  · subst hiN
    have hoo:oi = o:=by simpa using hoi.symm
    subst hoo;unfold wpOp;rw [hoi];have hwant:Region.wanted oi (yielded (l ++ [oi]).toArray a.tmps) = true:=by simp [Region.wanted,hg oi (by simp)]
    simp only [hwant,if_true];refine .inl ?_;have h1:(l ++ [idle oi]).toArray[l.length]? = some (idle oi):=by simp
    unfold qOp at hqi;rw [h1] at hqi;have hw2:Region.wanted (idle oi) (yielded (l ++ [idle oi]).toArray a.tmps) = true:=by simp [Region.wanted,idle]
    simp only [hw2,if_true] at hqi;obtain ⟨v,_,hk⟩:=hqi;have hput:a.put (idle oi).dst v = a:=rfl;rw [hput] at hk
    have hnone:Region.ready md (l ++ [oi]).toArray (listed.setIfInBounds l.length true) = []:=by
     cases hr:Region.ready md (l ++ [oi]).toArray (listed.setIfInBounds l.length true) with
     | nil => rfl
     | cons j r =>
      exfalso
      have hj:j ∈ Region.ready md (l ++ [oi]).toArray (listed.setIfInBounds l.length true):=by rw [hr];simp
      obtain ⟨hju,oj,hoj,_⟩:=mem_ready.1 hj;have hjl:j < (l ++ [oi]).length:=by simpa using (Array.getElem?_eq_some_iff.1 hoj).1
      by_cases hjN:j = l.length
      · subst hjN
        have:l.length < listed.size:=by rw [hsz];simp
        simp [this] at hju
      · rw [getD_set true hjN] at hju
        have:=all_listed hw hcl hoi hall (l.length - j) j rfl (by simp at hjl;omega)
        have hjs:j < listed.size:=by omega
        simp [hjs] at hju this
        rw [hju] at this;cases this
    have hQ:∀ w',C w' → oi.wp P a w' (fun a'' w'' => Q' .normal a'' w'') Q':=by
     cases fuel with
     | zero => exact hk.2
     | succ f => exact hk.1 (by rw [ready_idle];exact hnone)
    refine Oper.wp_mono (fun a' w' hn => ?_) (hQ w hC)
    cases fuel with
    | zero => exact ⟨hnone,hn⟩
    | succ f => exact ⟨fun _ => hn,fun j hj => by rw [hnone] at hj;cases hj⟩
  · have hin:i < l.length:=by simp at hil;omega
    have e1:(l ++ [idle o]).toArray[i]? = (l ++ [o]).toArray[i]?:=by simp [List.getElem?_append_left hin]
    have hgi:oi.guard = none:=hg oi (by have:=List.mem_of_getElem? (by simpa using hoi:(l ++ [o])[i]? = some oi);exact this)
    unfold qOp at hqi;rw [e1,hoi] at hqi;unfold wpOp;rw [hoi];have w1:Region.wanted oi (yielded (l ++ [idle o]).toArray a.tmps) = true:=by simp [Region.wanted,hgi]
    have w2:Region.wanted oi (yielded (l ++ [o]).toArray a.tmps) = true:=by simp [Region.wanted,hgi]
    simp only [w1,if_true] at hqi;simp only [w2,if_true];refine .inl (Oper.wp_of_quiet hC (fun a' w' hw' hk => ?_) hqi)
    have hiS:i ∈ S:=(hS i).2 ⟨hil,hiu⟩;refine ih (listed.setIfInBounds i true) a' w' (S.erase i) hw' (hnd.erase _) (by rw [List.length_erase_of_mem hiS];omega) (fun j => ?_) ((List.mem_erase_of_ne (Ne.symm hiN)).2 hN) (by simpa using hsz) (fun j x hx hlj e he hbd => ?_) hk
    rotate_left
    · by_cases hji:i = j
      · subst hji
        have hxo:x = oi:=Option.some.inj (hx.symm.trans hoi);subst hxo;exact getD_set_true (hall e he hbd)
      · rw [getD_set_ne false hji] at hlj
        exact getD_set_true (hcl j x hx hlj e he hbd)
    by_cases hji:j = i
    · subst hji
      have hjs:j < listed.size:=by omega
      simp [hnd.not_mem_erase,hjs]
    · rw [List.mem_erase_of_ne hji,hS j,getD_set true hji]
theorem wp_region_last {id:Nat} {Q:Exit → Act → World → Prop} {a:Act} {w:World} (l:List Oper) (o:Oper) (hm:P.follows .mixedOrders = true) (hB:Region.lexB .any (l ++ [idle o]).toArray = true) (hL:lastB .any l o = true)
 (hC:C { w with drawn:=w.drawn + 1 }) (h:wpQuiet P (l ++ [idle o]).toArray C (fun a' => ∀ w',C w' → o.wp P a' w' (fun a'' w'' => Q .normal a'' w'') Q) l a):(Code.region id (l ++ [o]).toArray true).wp P Q a w:=by
 simp only [Region.lexB,Bool.and_eq_true] at hB
 simp only [lastB,Bool.and_eq_true] at hL
 obtain ⟨⟨hb,hg⟩,hw⟩:=hL
 have hq:∀ (k:List Oper) (a:Act),wpQuiet P (l ++ [idle o]).toArray C (fun a' => ∀ w',C w' → o.wp P a' w' (fun a'' w'' => Q .normal a'' w'') Q) k a → wpQuiet P (l ++ [idle o]).toArray C (fun a' => ∀ w',C w' → o.wp P a' w' (fun a'' w'' => Q .normal a'' w'') Q) (k ++ [idle o]) a:=by
  intro k
  induction k with
  | nil =>
   intro a h;have hw2:Region.wanted (idle o) (yielded (l ++ [idle o]).toArray a.tmps) = true:=by simp [Region.wanted,idle]
   simp only [List.nil_append,wpQuiet,hw2,if_true];exact ⟨undef,fun w' _ => by unfold Oper.quietAt idle execOp;exact ⟨rfl,rfl⟩,h⟩
  | cons x k ih =>
   intro a h;simp only [List.cons_append,wpQuiet] at h ⊢
   split
   · rename_i hx;simp only [hx,if_true] at h;exact Oper.quiet_mono (fun a' h' => ih a' h') h
   · rename_i hx;simp only [hx] at h;exact ih _ h
 have:=wpAnyQ_lex (C:=C) (md:=.any) hB.1 (l ++ [idle o]) 0 (Array.replicate (l ++ [idle o]).toArray.size false) a (by simp) (by simpa using hB.2) (hq l a h)
 refine wp_region_any hm ?_
 have hsz:(l ++ [o]).toArray.size = (l ++ [idle o]).length:=by simp
 rw [hsz]
 refine wpAny_of_last ?_ ?_ ?_ _ _ _ _ (List.range (l ++ [o]).length) hC List.nodup_range (by simp) (fun i => ?_) (by simp) (by simp) (fun j x _ hlj => ?_) (by simpa using this)
 · intro i x hx e he hbd
   have hi:i < l.length + 1:=by simpa using (Array.getElem?_eq_some_iff.1 hx).1
   have h1:=List.all_eq_true.1 hb i (List.mem_range.2 hi);rw [show (l ++ [o])[i]? = some x by simpa using hx] at h1
   simp only [Option.map_some,Option.getD_some] at h1;have h2:=Array.all_eq_true_iff_forall_mem.1 h1 e he
   simpa [hbd] using h2
 · intro x hx
   have:=List.all_eq_true.1 hg x hx
   simpa using this
 · intro i hi
   have h1:=List.all_eq_true.1 hw i (List.mem_range.2 hi);obtain ⟨j,hj,h2⟩:=List.any_eq_true.1 h1;simp only [Bool.and_eq_true,decide_eq_true_eq] at h2;have hjl:=List.mem_range.1 hj
   cases hx:(l ++ [o])[j]? with
   | none => rw [hx] at h2;simp at h2
   | some x =>
    rw [hx] at h2;simp only [Option.map_some,Option.getD_some] at h2;obtain ⟨e,he,h3⟩:=Array.any_eq_true'.1 h2.2;simp only [Bool.and_eq_true,beq_iff_eq] at h3;exact ⟨j,x,h2.1,by omega,by simpa using hx,e,he,h3.1,h3.2⟩
 · simp only [List.mem_range]
   constructor
   · intro hi;exact ⟨hi,by simp at hi;simp [hi]⟩
   · intro hi;exact hi.1
 · exfalso
   generalize (l ++ [idle o]).length = N at hlj
   rcases Nat.lt_or_ge j N with h | h
   · simp [h] at hlj
   · simp [h] at hlj
theorem wp_region_last_lit {id:Nat} {Q:Exit → Act → World → Prop} {a:Act} {w:World} {L:List Oper} (hne:L ≠ []) (hm:P.follows .mixedOrders = true) (hB:Region.lexB .any (L.dropLast ++ [idle (L.getLast hne)]).toArray = true) (hL:lastB .any L.dropLast (L.getLast hne) = true)
 (hC:C { w with drawn:=w.drawn + 1 }) (h:wpQuiet P (L.dropLast ++ [idle (L.getLast hne)]).toArray C (fun a' => ∀ w',C w' → (L.getLast hne).wp P a' w' (fun a'' w'' => Q .normal a'' w'') Q) L.dropLast a):(Code.region id L.toArray true).wp P Q a w:=by
 have:=wp_region_last (P:=P) (id:=id) (Q:=Q) L.dropLast (L.getLast hne) hm hB hL hC h
 rwa [List.dropLast_concat_getLast] at this
theorem wpQuiet_val {ops:Array Oper} {Q:Act → Prop} {o:Oper} {rest:List Oper} {a:Act} (hgd:o.guard = none) (v:Value) (hr:∀ w,C w → (execOp a.eval o).run P w = .ok (.value v) w)
 (h:wpQuiet P ops C Q rest (a.put o.dst v)):wpQuiet P ops C Q (o :: rest) a:=by
 have hw:Region.wanted o (yielded ops a.tmps) = true:=by simp [Region.wanted,hgd]
 rw [wpQuiet,if_pos hw]
 refine ⟨v,fun w hC => ?_,h⟩
 unfold Oper.quietAt
 rw [hr w hC]
 exact ⟨rfl,rfl⟩
theorem wpQuiet_load {ops:Array Oper} {Q:Act → Prop} {o:Oper} {rest:List Oper} {a:Act} (hgd:o.guard = none) (ty:TypeId) (x:Operand) (ho:o.op = .load ty x)
 (b of:Nat) (hx:a.eval x = .pointer (some ⟨b,of,none⟩)) (cs:List Value) (d:TypeDesc) (hc:∀ w,C w → w.rangeAt b of cs)
 (hu:P.underlying ty = some d) (hd:d.isRow = true) (hi:(P.info? ty).map (·.size) = some cs.length)
 (h:wpQuiet P ops C Q rest (a.put o.dst (.agg cs.toArray))):wpQuiet P ops C Q (o :: rest) a:=by
 have hw:Region.wanted o (yielded ops a.tmps) = true:=by simp [Region.wanted,hgd]
 rw [wpQuiet,if_pos hw]
 refine ⟨.agg cs.toArray,fun w hC => ?_,h⟩
 unfold Oper.quietAt execOp
 simp only [ho,hx,Instr.loadAt,Instr.sureAddr,Sem.run_bind,Sem.run_pure,Result.andThen_ok,run_loadVar_mid w b of ty cs d (hc w hC) hu hd hi]
 exact ⟨rfl,rfl⟩
theorem wpQuiet_call {ops:Array Oper} {Q:Act → Prop} {o:Oper} {rest:List Oper} {a:Act} (hgd:o.guard = none) (f:FuncId) (args:Array Operand) (ats:Array TypeId) (ho:o.op = .call { callee:=.value (.func f),args:=args,argTypes:=ats })
 (hcf:∀ xs w,(callFunc f xs).run P w = .ok (.enter f xs) w) (vals:Array Value) (hv:args.map a.eval = vals) (v:Value) (hc:∀ w,C w → Calls P f vals w fun e w' => e = .returned v ∧ C w')
 (h:wpQuiet P ops C Q rest (a.put o.dst v)):wpQuiet P ops C Q (o :: rest) a:=by
 have hw:Region.wanted o (yielded ops a.tmps) = true:=by simp [Region.wanted,hgd]
 rw [wpQuiet,if_pos hw]
 refine ⟨v,fun w hC => ?_,h⟩
 have hrun:(execOp a.eval o).run P w = .ok (.enter f vals) w:=by
  obtain ⟨dst,op,type,pos,after,guard⟩:=o
  simp only at ho
  subst ho
  rw [execOp_call_go,hv]
  simp [hcf]
 unfold Oper.quietAt
 rw [hrun]
 exact ⟨rfl,hc w hC⟩
end
end Go.Proofs.YtheincjkoefalaaGreatDoor
namespace Go.Proofs.YtheincjkoefalaaGreatDoor
open Go.RowKit
theorem Tryz.info5:(Tryz.prog.info? 5).map (·.size) = some 1:=by kernel_rfl
theorem slice_arr (g L:Nat) (w:World):(Instr.sliceAt 106 (.pointer (some ⟨g,8,none⟩)) (some (.int .u64 ((L:Int).tmod 64))) none none).run Tryz.prog w = .ok (.slice (some ⟨g,8 + L % 64,none⟩) (64 - L % 64) (64 - L % 64)) w:=by
 have e:(L:Int).tmod 64 = ((L % 64:Nat):Int):=by rw [Int.tmod_eq_emod_of_nonneg (by omega)];omega
 rw [e]
 have h1:L % 64 < 64:=Nat.mod_lt _ (by omega)
 generalize L % 64 = r at *
 simp [go_sem,Instr.sliceAt,Instr.slice,Instr.sliceBounds]
 rw [if_pos (by omega),if_neg (by omega)]
def sliceLen:Value → Nat
 | .slice _ n _ => n
 | _ => 0
structure WrInv (g:Nat) (w:World) (m bs:List (BitVec 8)) (k:Nat) (v:Value) (wr:World):Prop where
 le:k ≤ bs.length
 byt:Bytes wr g v (bs.drop k)
 hsh:HashIs 204 wr g (m ++ bs.take k)
 onl:Only g w wr
 kok:KOk wr
theorem mix_enter:∀ xs w,(callFunc 169 xs).run Tryz.prog w = .ok (.enter 169 xs) w:=fun _ _ => by kernel_rfl
structure WC (g:Nat) (w w3:World) (s:St) (blk:List (BitVec 8)) (n:Nat) (w':World):Prop where
 blk:Blk w' g (hc s blk n) 204
 onl:Only g w w'
 kok:KOk w'
 onl2:Only g w3 w'
theorem KOk.only {g:Nat} {w w':World} (h:KOk w) (ho:Only g w w') (hg:1 ≠ g):KOk w':=fun j hj => ho.cell hg (h j hj)
theorem write_any (g:Nat) (m bs:List (BitVec 8)) (v:Value) (w:World) (hg:1 ≠ g) (hK:KOk w) (hH:HashIs 204 w g m) (hB:Bytes w g v bs) (hl:m.length + bs.length < 4611686018427387904) :
 Calls Tryz.prog 161 #[.pointer (some ⟨g,0,none⟩),v] w fun e w' => e = .returned (.tuple #[]) ∧ HashIs 204 w' g (m ++ bs) ∧ Only g w w':=by
 have hI:WrInv g w m bs 0 v w:=⟨Nat.zero_le _,by simpa using hB,by simpa using hH,Only.refl _ _,hK⟩
 clear hK hH hB
 go_enter Tryz.func161,Tryz.ntmps161
 go_wp2
 go_loopw [1] (fun v wr => ∃ k,WrInv g w m bs k v wr) (fun v _ => sliceLen v)
 case atStart => exact ⟨0,hI⟩
 case round =>
  clear hI
  obtain ⟨k,hI⟩:=hrel
  have hle:=hI.le
  by_cases hlt:k < bs.length
  · obtain ⟨ad,cap,hv,hcap,hpos⟩:=hI.byt
    obtain ⟨b,off,rfl,hbg,hsrc⟩:=hpos (by simp;omega)
    subst hv;obtain ⟨s,blk,hblk,hsay⟩:=hI.hsh;have HL:Hid ((m ++ bs.take k).length < 4611686018427387904):=by show _ < _;simp;omega
    have HN:Hid ((bs.drop k).length = bs.length - k):=by show _ = _;simp
    have hn0:0 < (bs.drop k).length:=by have:=HN.out;omega
    have HM:Hid (m ++ bs = m ++ bs.take k ++ bs.drop k):=by show _ = _;simp
    have hL:=HL.out;obtain ⟨rest,HRest⟩:=sqn (bs.drop k);obtain ⟨cur,HCur⟩:=sqn (m ++ bs.take k);rw [← HRest.out] at hcap hsrc hn0;rw [← HCur.out] at hblk hsay hL;simp only [← HRest.out];obtain ⟨L,HLL⟩:=sqn (cur.length);obtain ⟨n,HNN⟩:=sqn (rest.length);rw [← HNN.out] at hcap hsrc hn0;rw [← HLL.out] at hblk hL;simp only [← HNN.out];have hs64:=hsay.len;have cn:wr.cell? ⟨g,72,none⟩ = some (.int .u64 (L:Int)):=by rw [hblk.cell,hc_len s blk L hs64]
    have hcapn:n < 4611686018427387904:=by have:=HN.out;rw [← HRest.out,← HNN.out] at this;omega
    obtain ⟨cs,HCS⟩:=sqn (cb (rest.take (min n (64 - L % 64))));have HCL:Hid (cs.length = min n (64 - L % 64)):=by show _ = _;rw [HCS.out,cb_len,List.length_take,← HNN.out];omega
    have HT:Hid (wr.there g (8 + L % 64) cs.length):=hblk.there _ _ (by rw [len_hc s blk L hs64,HCL.out];omega)
    have HS:Hid (∀ j v,cs[j]? = some v → wr.cell? ((⟨b,off,none⟩:Addr).add j) = some v):=by
     intro j v hj;have hj2:j < min n (64 - L % 64):=by rw [← HCL.out];exact (List.getElem?_eq_some_iff.1 hj).1
     rw [Addr.add_mid,hsrc j (by omega)]
     rw [HCS.out,cb_get _ j (by rw [List.length_take,← HNN.out];omega)] at hj
     rw [← hj];simp [hj2]
    have H1:Hid (∀ v ∈ cs,v.oneCell' = true):=by show ∀ _,_;rw [HCS.out];exact cb_one _
    have HJ:Hid (Blk (wr.drew.setCells g (8 + L % 64) cs) g (hc s (blk.take (L % 64) ++ rest.take (min n (64 - L % 64)) ++ blk.drop (L % 64 + (rest.take (min n (64 - L % 64))).length)) L) 204):=by
     have h:=setCells_eq g cs (8 + L % 64) wr.drew _ _ hblk.drew (by rw [len_hc s blk L hs64,HCL.out];omega)
     rw [HCS.out] at h ⊢;rw [hc_block s blk _ L _ hs64 (by rw [List.length_take,← HNN.out];omega)] at h
     exact h
    have HO:Hid (Only g w (wr.drew.setCells g (8 + L % 64) cs)):=Only.setCells _ _ _ hI.onl.drew;have HP:Hid (KOk (wr.drew.setCells g (8 + L % 64) cs)):=fun j hj => by rw [World.cell?_setCells_out _ _ _ _ _ (fun h => absurd h hg)];exact hI.kok j hj
    have HY:Hid (Bytes (wr.drew.setCells g (8 + L % 64) cs) g (.slice (some ⟨b,off,none⟩) n cap) rest):=⟨_,cap,by rw [← HNN.out],by rw [← HNN.out];exact hcap,fun _ => ⟨b,off,rfl,hbg,fun j hj => by rw [World.cell?_setCells_out _ _ _ _ _ (fun h => absurd h hbg)];exact hsrc j (by rw [HNN.out];exact hj)⟩⟩
    have HSay:Hid (Says s blk cur):=hsay;clear hle hlt hs64 hsrc hblk hsay hI;have hsl:=fun wx => slice_arr g L wx
    go_wp2
    go_region_law (refine step_copy_cells rfl _ _ 23 23 rfl 5 Tryz.underlying23 Tryz.info5 g (8 + L % 64) (64 - L % 64) (64 - L % 64) ⟨b,off,none⟩ n cap rfl rfl cs HCL.out ?_ ?_ H1.out ?_;(intro j v hj;simpa using HS.out j v hj);(simpa using HT.out))
    clear HS HT H1 HCS cn hsl;obtain ⟨blk2,HB2⟩:=sqn (blk.take (L % 64) ++ rest.take (min n (64 - L % 64)) ++ blk.drop (L % 64 + (rest.take (min n (64 - L % 64))).length));rw [← HB2.out] at HJ
    generalize World.setCells _ _ _ _ = w2 at *
    generalize cs.length = c at *
    as_aux_lemma =>
     have hc0:0 < c:=by have:=HCL.out;omega
     have hcn:c ≤ n:=by have:=HCL.out;omega
     have hc64:L % 64 + c ≤ 64:=by have:=HCL.out;omega
     have HW2:Hid ((rest.take (min n (64 - L % 64))).length = c):=by show _ = _;rw [List.length_take,← HNN.out];have:=HCL.out;omega
     have hb64:Hid (blk2.length = 64):=by show _ = _;rw [HB2.out];have:=HSay.out.len;have h2:=HW2.out;simp [this] at h2 ⊢;omega
     have cn:w2.cell? ⟨g,72,none⟩ = some (.int .u64 (L:Int)):=by rw [HJ.out.cell,hc_len s blk2 L hb64.out]
     have fn:w2.frozen? ⟨g,72,none⟩ = false:=HJ.out.frozen 72
     have HE:Hid (∀ w4 v4,HashIs 204 w4 g (cur ++ rest.take c) → Bytes w4 g v4 (rest.drop c) → Only g w w4 → KOk w4 → WrInv g w m bs (k + c) v4 w4):=by
      intro w4 v4 h1 h2 h3 h4;have e1:k + c ≤ bs.length:=by have:=HN.out;rw [← HRest.out,← HNN.out] at this;omega
      refine ⟨e1,?_,?_,h3,h4⟩
      · rw [HRest.out,List.drop_drop] at h2;exact h2
      · rw [HRest.out,HCur.out,List.append_assoc] at h1
        have e2:bs.take k ++ (bs.drop k).take c = bs.take (k + c):=by rw [List.take_add]
        rw [e2] at h1;exact h1
     have HF:Hid (rest.take (min n (64 - L % 64)) = rest.take c):=by show _ = _;rw [HCL.out]
     clear HRest HCur HN HL HM hpos hl
     by_cases hfull:L % 64 + c = 64
     · have ht:((((L:Int) + (c:Int)).tmod 64) == 0) = true:=by
        rw [Int.tmod_eq_emod_of_nonneg (by omega),beq_iff_eq];omega
       have H3:Hid (Blk (w2.setCell ⟨g,72,none⟩ (.int .u64 ((L:Int) + (c:Int)))) g (hc s blk2 (L + c)) 204):=by
        have h1:=HJ.out.set 72 (.int .u64 (((L + c:Nat):Int)));rw [hc_setn s blk2 L (L + c) hb64.out] at h1;exact h1
       have HO3:Hid (Only g w (w2.setCell ⟨g,72,none⟩ (.int .u64 ((L:Int) + (c:Int))))):=HO.out.setCell _ _;have HP3:Hid (KOk (w2.setCell ⟨g,72,none⟩ (.int .u64 ((L:Int) + (c:Int))))):=HP.out.only ((Only.refl _ _).setCell _ _) hg;have HY3:Hid (Bytes (w2.setCell ⟨g,72,none⟩ (.int .u64 ((L:Int) + (c:Int)))) g (.slice (some ⟨b,off,none⟩) n cap) rest):=HY.out.only ((Only.refl _ _).setCell _ _)
       have HG:Hid (Says (compress s blk2) blk2 (cur ++ rest.take c)):=by
        have h2:=HSay.out.full (y:=rest.take c) (by rw [← HLL.out,← HF.out,HW2.out];omega)
        rw [← HLL.out,← HF.out,← HB2.out,HF.out] at h2;exact h2
       have HX:Hid ((cur ++ rest.take c).length = L + c):=by show _ = _;rw [List.length_append,← HLL.out,← HF.out,HW2.out]
       by_cases hcc:cap = c
       all_goals
        go_wp2;clear cn fn HJ HO HP HY
        generalize World.setCell _ _ _ = w3 at *
        as_aux_lemma =>
         have HYO:Hid (∀ w5,Only g w3 w5 → Bytes w5 g (.slice (some ⟨b,off,none⟩) n cap) rest):=fun w5 h => HY3.out.only h
         have HZ:Hid ((Tryz.prog.info? 106).map (·.size) = some (cb blk2).length):=by rw [cb_len,hb64.out];exact Tryz.info106
         refine wp_region_last_lit (C:=WC g w w3 s blk2 (L + c)) (by simp) (by kernel_rfl) (by kernel_rfl) (by kernel_rfl) ⟨H3.out.drew,HO3.out.drew,HP3.out,(Only.refl _ _).drew⟩ ?_
         simp only [List.dropLast_cons_cons,List.dropLast_singleton,List.getLast_cons_cons,List.getLast_singleton,List.cons_append,List.nil_append,idle];refine wpQuiet_val rfl (.pointer (some ⟨g,0,none⟩)) (fun _ _ => by simp [go_sem]) ?_
         simp only [Act.put,sq];refine wpQuiet_val rfl (.pointer (some ⟨g,0,none⟩)) (fun _ _ => by simp [go_sem]) ?_
         simp only [Act.put,sq];refine wpQuiet_val rfl (.pointer (some ⟨g,0,none⟩)) (fun _ _ => by simp [go_sem]) ?_
         simp only [Act.put,sq];refine wpQuiet_val rfl (.pointer (some ⟨g,0,none⟩)) (fun _ _ => by simp [go_sem]) ?_
         simp only [Act.put,sq];refine wpQuiet_load rfl 184 _ rfl g 0 rfl (cw s.l) _ (fun _ hx => hc_range_words hx.blk) Tryz.underlying184 rfl Tryz.info184 ?_
         simp only [Act.put,sq];refine wpQuiet_val rfl (.pointer (some ⟨g,0,none⟩)) (fun _ _ => by simp [go_sem]) ?_
         simp only [Act.put,sq];refine wpQuiet_val rfl (.pointer (some ⟨g,0,none⟩)) (fun _ _ => by simp [go_sem]) ?_
         simp only [Act.put,sq];refine wpQuiet_val rfl (.pointer (some ⟨g,8,none⟩)) (fun _ _ => by simp [go_sem]) ?_
         simp only [Act.put,sq];refine wpQuiet_load rfl 106 _ rfl g 8 rfl (cb blk2) _ (fun _ hx => hc_range_block hx.blk hb64.out) Tryz.underlying106 rfl HZ.out ?_
         simp only [Act.put,sq];refine wpQuiet_call rfl 169 _ _ rfl mix_enter #[.agg (cw s.l).toArray,.agg (cb blk2).toArray] (by simp [go_sem]) (.agg (cw (compress s blk2).l).toArray) (fun wx hx => (mix_any s blk2 hb64.out wx hx.kok).mono fun e w' ⟨he,hb⟩ => ⟨he,hx.blk.below hb hx.blk.lt,hx.onl.trans (Only.of_below hb),hx.kok.below hb hx.kok.lt,hx.onl2.trans (Only.of_below hb)⟩) ?_
         simp only [Act.put,sq];refine wpQuiet_val rfl (.pointer (some ⟨g,0,none⟩)) (fun _ _ => by simp [go_sem]) ?_
         simp only [Act.put,sq];refine wpQuiet_val rfl (.pointer (some ⟨g,0,none⟩)) (fun _ _ => by simp [go_sem]) ?_
         simp only [Act.put,sq];refine wpQuiet_nil ?_;intro w5 h5;refine wp_store_mid 184 _ _ rfl g 0 (cw (compress s blk2).l).toArray rfl rfl (hc_there h5.blk hb64.out) Tryz.info184 (all_oneCell_toArray (cw_one _)) ?_;have HB5:Hid (HashIs 204 (w5.setCells g 0 (cw (compress s blk2).l)) g (cur ++ rest.take c)):=⟨_,blk2,by rw [HX.out];exact hc_store h5.blk hb64.out _,HG.out⟩
         simp only [Act.put];go_wp2;go_roundw
         case rel =>
          refine ⟨k + c,HE.out _ _ HB5.out ?_ (Only.setCells _ _ _ h5.onl) (h5.kok.only (Only.setCells _ _ _ (Only.refl _ _)) hg)⟩;have HY5:=HYO.out w5 h5.onl2
          first | exact (HY5.drop_if hcn).only (Only.setCells _ _ _ (Only.refl _ _)) | exact (HY5.drop_eq hcn ‹_›).only (Only.setCells _ _ _ (Only.refl _ _)) | exact (HY5.drop_ne hcn).only (Only.setCells _ _ _ (Only.refl _ _))
         case measure => simp [sliceLen];omega
     · have ht:((((L:Int) + (c:Int)).tmod 64) == 0) = false:=by
        rw [Int.tmod_eq_emod_of_nonneg (by omega),beq_eq_false_iff_ne];omega
       have HG:Hid (HashIs 204 (w2.setCell ⟨g,72,none⟩ (.int .u64 ((L:Int) + (c:Int)))) g (cur ++ rest.take c)):=by
        have h1:=HJ.out.set 72 (.int .u64 (((L + c:Nat):Int)));rw [hc_setn s blk2 L (L + c) hb64.out] at h1;have h2:=HSay.out.more (y:=rest.take c) (by rw [← HLL.out,← HF.out,HW2.out];omega)
        rw [← HLL.out,← HF.out,← HB2.out,HF.out] at h2;have e3:(cur ++ rest.take c).length = L + c:=by rw [List.length_append,← HLL.out,← HF.out,HW2.out]
        refine ⟨s,blk2,?_,h2⟩;rw [e3];exact h1
       go_wp2
       all_goals
        go_roundw
        case rel =>
         refine ⟨k + c,HE.out _ _ HG.out ?_ (HO.out.setCell _ _) ?_⟩
         · first | exact (HY.out.drop_if hcn).only ((Only.refl _ _).setCell _ _) | exact (HY.out.drop_eq hcn ‹_›).only ((Only.refl _ _).setCell _ _) | exact (HY.out.drop_ne hcn).only ((Only.refl _ _).setCell _ _)
         · exact HP.out.only ((Only.refl _ _).setCell _ _) hg
        case measure => simp [sliceLen];omega
  · have hk:k = bs.length:=by omega
    have HF:Hid (HashIs 204 wr g (m ++ bs)):=by have:=hI.hsh;rw [hk,List.take_length] at this;exact this
    obtain ⟨ad,cap,hv,hcap,hpos⟩:=hI.byt;have hz:(bs.drop k).length = 0:=by simp;omega
    rw [hz] at hv;subst hv;have HO:Hid (Only g w wr):=hI.onl;clear hI hpos;go_wp2
    go_end0
    exact ⟨rfl,HF.out,HO.out⟩
def zb64:List (BitVec 8):=List.replicate 64 0
theorem st0_cells:[Value.int .u32 1779033703,Value.int .u32 3144134277,Value.int .u32 1013904242,Value.int .u32 2773480762,Value.int .u32 1359893119,Value.int .u32 2600822924,Value.int .u32 528734635,Value.int .u32 1541459225] = cw st0.l:=by kernel_rfl
theorem built_hash:Tryz.prog.built 204 [(0,.agg (cw st0.l).toArray)] = some (hc st0 zb64 0).toArray:=by kernel_rfl
theorem Tryz.info204:(Tryz.prog.info? 204).map (·.size) = some 73:=by kernel_rfl
theorem wpList_build1 {P:Program} {ops:Array Oper} {rest:List Oper} {o:Oper} {a:Act} {w:World} {Q:Exit → Act → World → Prop} (hg:o.guard = none) (t:TypeId) (x:Operand)
 (ho:o.op = .build t #[(0,x)]) (v:Value) (e:a.eval x = v) (cs:Array Value) (hb:P.built t [(0,v)] = some cs) (h:wpList P ops Q rest (a.put o.dst (.agg cs)) w):wpList P ops Q (o :: rest) a w:=
 wpList_build hg t _ ho (by simp [e,hb]) (by simpa [e,hb] using h)
theorem firstWords_any (w:World):Calls Tryz.prog 168 #[] w fun e w' => e = .returned (.agg (cw st0.l).toArray) ∧ Below w.heap.size w w':=by
 go_enter Tryz.func168,Tryz.ntmps168
 go_wp2_with (first
  | (refine wpList_build8 rfl 184 _ _ _ _ _ _ _ _ rfl _ _ _ _ _ _ _ _ rfl rfl rfl rfl rfl rfl rfl rfl (built8 _ _ _ _ _ _ _ _) ?_)
  | (refine wpList_store8 rfl 184 _ _ rfl _ _ _ _ _ _ _ _ _ rfl rfl ((Blk.new w (cw z8) 184).there 0 8 (by simp [cw_len,len_z8])) Tryz.info184 ?_))
 have hB:=(Blk.new w (cw z8) 184).whole [Value.int .u32 1779033703,Value.int .u32 3144134277,Value.int .u32 1013904242,Value.int .u32 2773480762,Value.int .u32 1359893119,Value.int .u32 2600822924,Value.int .u32 528734635,Value.int .u32 1541459225] (by rw [cw_len,len_z8];rfl)
 refine bodyPost_ret (v:=.agg #[Value.int .u32 1779033703,Value.int .u32 3144134277,Value.int .u32 1013904242,Value.int .u32 2773480762,Value.int .u32 1359893119,Value.int .u32 2600822924,Value.int .u32 528734635,Value.int .u32 1541459225]) (results_cell_row (by rfl) _ _ w.heap.size 184 _ (0,0) _ rfl hB Tryz.underlying184 rfl Tryz.info184) rfl ⟨by rw [← st0_cells],Below.setCells _ (Nat.le_refl _) _ _ _ ((Below.refl _ _).alloc (Nat.le_refl _) _)⟩
def stz:St:=⟨0,0,0,0,0,0,0,0⟩
theorem zero_hash (w:World):(zeroValue 204).run Tryz.prog w = .ok (.agg (hc stz zb64 0).toArray) w:=by kernel_rfl
theorem says0:Says st0 zb64 []:=⟨rfl,rfl,rfl⟩
theorem new_any (w:World):Calls Tryz.prog 160 #[] w fun e w' => ∃ g,e = .returned (.pointer (some ⟨g,0,none⟩)) ∧ w.heap.size ≤ g ∧ HashIs 204 w' g [] ∧ Below w.heap.size w w':=by
 go_enter Tryz.func160,Tryz.ntmps160
 go_wp2_with (first
  | (go_at_call 168;refine (firstWords_any _).mono ?_;rintro e w1 ⟨rfl,hw1⟩)
  | (refine wpList_build1 rfl 204 _ rfl _ rfl _ built_hash ?_))
 go_ret
 exact ⟨w1.heap.size,rfl,hw1.size,⟨st0,zb64,Blk.new w1 _ _,says0⟩,hw1.alloc hw1.size _⟩
def padN (n:Nat):Nat:=(119 - n % 64) % 64
def bitsOf (n:Nat):Nat:=8 * n % 18446744073709551616
def padL (k B:Nat):Nat → List (BitVec 8)
 | 0 => 128#8 :: List.replicate (k + 8) 0
 | i + 1 => (padL k B i).set (k + 8 - i) (BitVec.ofNat 8 (B / 2 ^ (8 * i)))
def pad (n:Nat):List (BitVec 8):=padL (padN n) (bitsOf n) 8
theorem len_padL (k B i:Nat):(padL k B i).length = k + 9:=by
 induction i with
 | zero => simp [padL]
 | succ i ih => simp [padL,ih]
theorem padN_eq (n:Nat):(IntKind.u64.wrap (55 - (n:Int))).tmod 64 = (padN n:Int):=by
 rw [IntKind.wrap_u64,Int.tmod_eq_emod_of_nonneg (by omega),padN];omega
theorem bitsOf_eq (n:Nat):IntKind.u64.wrap (8 * (n:Int)) = (bitsOf n:Int):=by
 rw [IntKind.wrap_u64,bitsOf];omega
theorem Tryz.infob:(Tryz.prog.info? 5).map (fun i => (i.zero,i.size,i.bytes)) = some (some (.int .u8 0),1,1):=by kernel_rfl
theorem make_bytes (k:Nat) (hk:k < 281474976710600) (w:World):(Instr.makeSlice 23 (.int .u64 (1 + (k:Int) + 8)) (.int .u64 (1 + (k:Int) + 8))).run Tryz.prog w =
 .ok (.slice (some ⟨w.heap.size,0,none⟩) (k + 9) (k + 9)) (w.alloc (.cells (cb (List.replicate (k + 9) 0)).toArray 5)):=by
 obtain ⟨i0,hi,hz0,hz1,hz2⟩:=info_parts Tryz.infob
 rw [run_make (P:=Tryz.prog) w 23 5 i0 _ Tryz.underlying23 hi hz0 .u64 .u64 _ _ (by omega) (by omega) (by rw [hz2];omega) (by omega)]
 have e:(1 + (k:Int) + 8).toNat = k + 9:=by omega
 rw [e,hz1,Nat.mul_one]
 congr 3
 simp [madeCells,cb,Value.cells,Nat.mod_one]
 apply Array.ext
 · simp
 · intro j h1 h2;simp
theorem byte_of' (B j:Nat):(((BitVec.ofNat 8 (B / 2 ^ (8 * j))).toNat:Nat):Int) = (B:Int) / 2 ^ (8 * j) % 256:=by simp
theorem pad_any (n:Nat) (w:World):Calls Tryz.prog 170 #[.int .u64 (n:Int)] w fun e w' => e = .returned (.slice (some ⟨w.heap.size,0,none⟩) (padN n + 9) (padN n + 9)) ∧ Blk w' w.heap.size (cb (pad n)) 5 ∧ Below w.heap.size w w':=by
 have h1:=padN_eq n
 have h2:=bitsOf_eq n
 have HP:Hid (pad n = padL (padN n) (bitsOf n) 8):=rfl
 have hk:padN n < 64:=by unfold padN;omega
 generalize padN n = k at *
 generalize bitsOf n = B at *
 have hmk:=fun wx => make_bytes k (by omega) wx
 go_enter Tryz.func170,Tryz.ntmps170
 have hc0:(cb (List.replicate (k + 9) 0#8))[0]? = some (.int .u8 0):=by simp [cb]
 have HS:Hid (Blk (w.alloc (.cells ((cb (List.replicate (k + 9) 0)).set 0 (.int .u8 128)).toArray 5)) w.heap.size (cb (padL k B 0)) 5):=by
  have:=Blk.new w ((cb (List.replicate (k + 9) 0)).set 0 (.int .u8 128)) 5
  rw [show (Value.int .u8 128) = .int .u8 ((128#8).toNat:Int) from rfl,cb_set] at this
  exact this
 go_wp2
 go_loopw [18] (fun i wr => ∃ j:Nat,j ≤ 8 ∧ i = .int .i64 j ∧ Blk wr w.heap.size (cb (padL k B j)) 5 ∧ Below w.heap.size w wr) (fun i _ => 8 - (intOf i).toNat)
 case atStart =>
  exact ⟨0,by omega,rfl,HS.out,(Below.refl _ _).alloc (Nat.le_refl _) _⟩
 case round =>
  clear HS
  obtain ⟨j,hj,rfl,hB,hbel⟩:=hrel
  by_cases hlt:j < 8
  · obtain ⟨o,cT⟩:∃ o,wr.cell? ⟨w.heap.size,k + 8 - j,none⟩ = some o:=⟨_,by rw [hB.cell,cb_get _ _ (by rw [len_padL];omega)]⟩
    have fT:wr.frozen? ⟨w.heap.size,k + 8 - j,none⟩ = false:=hB.frozen _;have HB:Hid (Blk wr w.heap.size (cb (padL k B j)) 5):=hB;clear hB;go_wp2;go_roundw
    case rel =>
     refine ⟨j + 1,by omega,by go_num,?_,hbel.setCell (Nat.le_refl _) _⟩
     have h:=HB.out.set (k + 8 - j) (.int .u8 (((BitVec.ofNat 8 (B / 2 ^ (8 * j))).toNat:Nat):Int));rw [cb_set,byte_of'] at h;exact h
    case measure => simp [intOf];omega
  · have hj8:j = 8:=by omega
    subst hj8;have HB:Hid (Blk wr w.heap.size (cb (pad n)) 5):=by show Blk _ _ _ _;rw [HP.out];exact hB
    clear hB;go_wp2;go_ret;exact ⟨rfl,HB.out,hbel⟩
theorem Tryz.info155:(Tryz.prog.info? 155).map (·.size) = some 32:=by kernel_rfl
def outB (l:List (BitVec 32)):Nat → List (BitVec 8)
 | 0 => zb32
 | k + 1 => (outB l k).set k ((l.getD (k / 4) 0 >>> (24 - 8 * (k % 4))).setWidth 8)
theorem len_outB (l:List (BitVec 32)) (k:Nat):(outB l k).length = 32:=by
 induction k with
 | zero => rfl
 | succ k ih => simp [outB,ih]
structure OutInv (w:World) (l:List (BitVec 32)) (k:Nat) (wr:World):Prop where
 wds:Blk wr w.heap.size (cw l) 184
 res:Blk wr (w.heap.size + 1) (cb zb32) 155
 out:Blk wr (w.heap.size + 1 + 1) (cb (outB l k)) 155
 bel:Below w.heap.size w wr
theorem OutInv.store {w wr:World} {l:List (BitVec 32)} {k:Nat} (h:OutInv w l k wr) (v:Int) (hv:v = (((l.getD (k / 4) 0 >>> (24 - 8 * (k % 4))).setWidth 8).toNat:Int)) :
 OutInv w l (k + 1) (wr.setCell ⟨w.heap.size + 1 + 1,k,none⟩ (.int .u8 v)):=by
 subst hv
 exact ⟨h.wds.other _ _ (by simp;omega),h.res.other _ _ (by simp),by have:=h.out.set k (.int .u8 (((l.getD (k / 4) 0 >>> (24 - 8 * (k % 4))).setWidth 8).toNat:Int));rw [cb_set] at this;exact this,h.bel.setCell (by simp;omega) _⟩
theorem shr_byte (x:BitVec 32) (s:Nat):(x.toNat:Int) / 2 ^ s % 256 = (((x >>> s).setWidth 8).toNat:Int):=by
 simp [BitVec.toNat_ushiftRight,Nat.shiftRight_eq_div_pow]
theorem wordBytes_any (l:List (BitVec 32)) (hl:l.length = 8) (w:World) :
 Calls Tryz.prog 171 #[.agg (cw l).toArray] w fun e w' => e = .returned (.agg (cb (outB l 32)).toArray) ∧ Below w.heap.size w w':=by
 have HN:Hid (l.length = 8):=hl
 clear hl
 go_enter Tryz.func171,Tryz.ntmps171
 go_wp2
 go_loopw [6] (fun i wr => ∃ k:Nat,k ≤ 8 ∧ i = .int .i64 k ∧ OutInv w l (4 * k) wr) (fun i _ => 8 - (intOf i).toNat)
 case atStart =>
  refine ⟨0,by omega,rfl,?_,?_,?_,?_⟩
  · exact ((Blk.new w (cw l) 184).alloc _).alloc _
  · exact (Blk.new_at (w:=w.alloc (.cells (cw l).toArray 184)) (by simp) (cb zb32) 155).alloc (.cells (cb zb32).toArray 155)
  · exact Blk.new_at (w:=(w.alloc (.cells (cw l).toArray 184)).alloc (.cells (cb zb32).toArray 155)) (by simp) (cb zb32) 155
  · exact (((Below.refl _ _).alloc (Nat.le_refl _) _).alloc (by simp) _).alloc (by simp;omega) _
 case round =>
  obtain ⟨i,hi,rfl,hI⟩:=hrel
  by_cases hlt:i < 8
  · go_wp2
    go_loopw [9] (fun v wr => ∃ j:Nat,j ≤ 4 ∧ v = .int .i64 j ∧ OutInv w l (4 * i + j) wr) (fun v _ => 4 - (intOf v).toNat)
    case atStart => exact ⟨0,by omega,rfl,hI⟩
    case round =>
     clear hI;obtain ⟨j,hj,rfl,hI⟩:=hrel
     by_cases hlj:j < 4
     · obtain ⟨x,HX⟩:=sqn (l.getD i 0)
       have cx:wr.cell? ⟨w.heap.size,i,none⟩ = some (.int .u32 (x.toNat:Int)):=by rw [hI.wds.cell,cw_get l i (by have:=HN.out;omega),HX.out]
       obtain ⟨o,cT⟩:∃ o,wr.cell? ⟨w.heap.size + 1 + 1,4 * i + j,none⟩ = some o:=⟨_,by rw [hI.out.cell,cb_get _ _ (by rw [len_outB];omega)]⟩
       have fT:wr.frozen? ⟨w.heap.size + 1 + 1,4 * i + j,none⟩ = false:=hI.out.frozen _;go_wp2;go_roundw
       case rel =>
        refine ⟨j + 1,by omega,by go_num,?_⟩
        refine hI.store _ ?_;rw [show (4 * i + j) / 4 = i by omega,show (4 * i + j) % 4 = j by omega,← HX.out,shr_byte]
       case measure => simp [intOf];omega
     · have hj4:j = 4:=by omega
       subst hj4;go_wp2;go_roundw
       case rel => exact ⟨i + 1,by omega,by go_num,hI⟩
       case measure => simp [intOf];omega
  · have hi8:i = 8:=by omega
    subst hi8;obtain ⟨cs,HC⟩:=sqn (cb (outB l 32));have HO:Hid (Blk wr (w.heap.size + 1 + 1) cs 155):=by rw [HC.out];exact hI.out
    have HL:Hid (cs.length = 32):=by show _ = _;rw [HC.out,cb_len,len_outB]
    have HZ:Hid ((Tryz.prog.info? 155).map (·.size) = some cs.length):=by show _ = _;rw [HL.out];exact Tryz.info155
    have H1:Hid (∀ v ∈ cs,v.oneCell' = true):=by show ∀ _,_;rw [HC.out];exact cb_one _
    have HR:Hid (Blk wr (w.heap.size + 1) (cb zb32) 155):=hI.res;have hbel:=hI.bel;clear hI
    go_wp2_with (first
     | (refine wpList_load_mid rfl 155 _ rfl (w.heap.size + 1 + 1) 0 rfl cs _ HO.out.range Tryz.underlying155 rfl HZ.out ?_)
     | (refine wpList_store_mid rfl 155 _ _ rfl (w.heap.size + 1) 0 cs.toArray rfl rfl (HR.out.there 0 _ (by rw [List.size_toArray,HL.out,cb_len,len_zb32];omega)) (by simpa using HZ.out) (all_oneCell_toArray H1.out) ?_))
    have hB:=HR.out.whole cs (by rw [HL.out,cb_len,len_zb32])
    refine bodyPost_ret (v:=.agg cs.toArray) (results_cell_row (by rfl) _ _ (w.heap.size + 1) 155 _ (0,0) _ rfl hB Tryz.underlying155 rfl (by simpa using HZ.out)) rfl ⟨by rw [HC.out],Below.setCells _ (by omega) _ _ _ hbel⟩
def dig (m:List (BitVec 8)):List (BitVec 8):=outB (blocks ((m ++ pad m.length).length / 64) st0 (m ++ pad m.length)).l 32
theorem len_pad (n:Nat):(pad n).length = padN n + 9:=len_padL _ _ _
theorem bytes_of {w:World} {g b:Nat} {bs:List (BitVec 8)} {t:TypeId} {n:Nat} (h:Blk w b (cb bs) t) (hn:bs.length = n) (hne:b ≠ g):Bytes w g (.slice (some ⟨b,0,none⟩) n n) bs:=
 ⟨_,n,by rw [hn],by omega,fun _ => ⟨b,0,rfl,hne,fun j hj => by rw [h.cell,Nat.zero_add,cb_get bs j hj]⟩⟩
structure DgInv (w:World) (g:Nat) (m:List (BitVec 8)) (L:Nat) (w2:World):Prop where
 cell:w2.cell? ⟨g,72,none⟩ = some (.int .u64 (L:Int))
 kok:KOk w2
 res:Blk w2 w.heap.size (cb zb32) 155
 cpy:HashIs 204 w2 (w.heap.size + 1) m
 bel:Below w.heap.size w w2
theorem DgInv.start {w:World} {g:Nat} {m:List (BitVec 8)} {cs:List Value} {L:Nat} {s:St} {blk:List (BitVec 8)} (hb:Blk w g cs 204) (hK:KOk w) (hC:cs = hc s blk L) (hL:m.length = L) (hS:Says s blk m) :
 DgInv w g m L (((w.alloc (.cells (cb zb32).toArray 155)).alloc (.cells (hc stz zb64 0).toArray 204)).setCells (w.heap.size + 1) 0 cs):=by
 have hb0:Below w.heap.size w (((w.alloc (.cells (cb zb32).toArray 155)).alloc (.cells (hc stz zb64 0).toArray 204)).setCells (w.heap.size + 1) 0 cs):=
  Below.setCells _ (by omega) _ _ _ (((Below.refl _ _).alloc (Nat.le_refl _) _).alloc (by simp) _)
 refine ⟨?_,hK.below hb0 hK.lt,?_,?_,hb0⟩
 · rw [(hb.below hb0 hb.lt).cell,hC,hc_len s blk L hS.len]
 · exact Blk.others _ _ _ _ ((Blk.new w (cb zb32) _).alloc _) (by omega)
 · refine ⟨s,blk,?_,hS⟩
   rw [hL,← hC];exact (Blk.new_at (w:=w.alloc (.cells (cb zb32).toArray 155)) (by simp) (hc stz zb64 0) _).whole cs (by rw [hC,len_hc s blk L hS.len];rfl)
theorem digest_any (g:Nat) (m:List (BitVec 8)) (w:World) (hK:KOk w) (hH:HashIs 204 w g m) (hm:m.length < 2305843009213693952) :
 Calls Tryz.prog 162 #[.pointer (some ⟨g,0,none⟩)] w fun e w' => e = .returned (.agg (cb (dig m)).toArray) ∧ Below w.heap.size w w':=by
 obtain ⟨s,blk,hb,hs⟩:=hH
 obtain ⟨cs,HC⟩:=sqn (hc s blk m.length)
 have HL:Hid (cs.length = 73):=by show _ = _;rw [HC.out];exact len_hc s blk m.length hs.len
 have cn:w.cell? ⟨g,72,none⟩ = some (.int .u64 (m.length:Int)):=by rw [hb.cell,hc_len s blk _ hs.len]
 have hlt:=hb.lt
 rw [← HC.out] at hb
 have HZ:Hid ((Tryz.prog.info? 204).map (·.size) = some cs.length):=by show _ = _;rw [HL.out];exact Tryz.info204
 have H1:Hid (∀ v ∈ cs,v.oneCell' = true):=by
  show ∀ _,_
  rw [HC.out];intro v hv
  simp only [hc,List.mem_append,List.mem_singleton] at hv
  rcases hv with hv | hv | rfl
  · exact cw_one _ v hv
  · exact cb_one _ v hv
  · rfl
 have HS:Hid (Says s blk m):=hs
 have HK:Hid (KOk w):=hK
 clear hs hK
 generalize hml:m.length = L at *
 have HML:Hid (m.length = L):=hml
 clear hml
 have hal:=zero_hash
 have hb2:w.rangeAt g 0 cs:=hb.range
 go_enter Tryz.func162,Tryz.ntmps162
 go_wp2_with (first
  | (refine wpList_load_mid rfl 204 _ rfl g 0 rfl cs _ (World.rangeAt_alloc hb2 _) Tryz.underlying204 rfl HZ.out ?_)
  | (refine wpList_store_mid rfl 204 _ _ rfl _ 0 cs.toArray rfl rfl ?_ (by simpa using HZ.out) (all_oneCell_toArray H1.out) ?_;exact Blk.there (Blk.new_at (by simp) (hc stz zb64 0) _) _ _ (by rw [List.size_toArray,HL.out,len_hc _ _ _ rfl];omega);refine Hid.out ?_))
 generalize h0:Obj.cells _ 155 = o32
 have ho:o32 = Obj.cells (cb zb32).toArray 155:=h0.symm
 clear h0
 subst ho
 have hI:=DgInv.start (g:=g) hb HK.out HC.out HML.out HS.out
 clear hb hb2 HK HS cn H1 HZ HC hal
 generalize World.setCells _ _ _ _ = w2 at *
 unfold Hid
 as_aux_lemma =>
  have cn:=hI.cell
  have HI:Hid (DgInv w g m L w2):=hI
  have hp9:padN L < 64:=by unfold padN;omega
  clear hI
  have HD:Hid (∀ s4 blk4,Says s4 blk4 (m ++ pad L) → outB s4.l 32 = dig m):=by
   intro s4 blk4 h4;rw [dig,HML.out,← h4.wds]
  go_wp2_with fail
  refine (pad_any L _).mono ?_
  rintro e w3 ⟨rfl,hp3,hb3⟩
  go_wp2_with fail
  have e1:1 ≠ w.heap.size + 1:=by have:=HI.out.kok.lt;have:=HI.out.bel.size;have:=HI.out.cpy.lt;omega
  have e2:Bytes w3 (w.heap.size + 1) (.slice (some ⟨w2.heap.size,0,none⟩) (padN L + 9) (padN L + 9)) (pad L):=bytes_of hp3 (len_pad L) (Nat.ne_of_gt HI.out.cpy.lt)
  have e3:m.length + (pad L).length < 4611686018427387904:=by rw [len_pad,HML.out];omega
  refine (write_any (w.heap.size + 1) m (pad L) _ _ e1 (HI.out.kok.below hb3 HI.out.kok.lt) (HI.out.cpy.below hb3 HI.out.cpy.lt) e2 e3).mono ?_
  rintro e w4 ⟨rfl,hh4,ho4⟩
  obtain ⟨s4,blk4,hb4,hs4⟩:=hh4
  have HE:=HD.out s4 blk4 hs4
  have HR:Hid (Blk w4 w.heap.size (cb zb32) 155):=(HI.out.res.below hb3 (Nat.lt_of_lt_of_le (Nat.lt_succ_self _) (Nat.le_of_lt HI.out.cpy.lt))).only ho4 (by omega)
  have HBel:Hid (Below w.heap.size w w4):=HI.out.bel.trans ((hb3.mono HI.out.bel.size).trans (ho4.below (by omega) (by have:=hb3.size;have:=HI.out.bel.size;omega)))
  have HX:Hid (outB s4.l 32 = dig m):=HE
  clear e1 e2 e3 HI hp3 hb3 ho4 HD hs4 HE
  go_wp2_with (refine wpList_load_mid rfl 184 _ rfl (w.heap.size + 1) 0 rfl (cw s4.l) _ (hc_range_words hb4) Tryz.underlying184 rfl Tryz.info184 ?_)
  refine (wordBytes_any s4.l rfl _).mono ?_
  rintro e w5 ⟨rfl,hb5⟩
  have HL2:Hid ((cb (outB s4.l 32)).length = 32):=by show _ = _;rw [cb_len,len_outB]
  have HZ2:Hid ((Tryz.prog.info? 155).map (·.size) = some (cb (outB s4.l 32)).length):=by show _ = _;rw [HL2.out];exact Tryz.info155
  have HR5:Hid (Blk w5 w.heap.size (cb zb32) 155):=HR.out.below hb5 HR.out.lt
  obtain ⟨ds,HDS⟩:=sqn (cb (dig m))
  rw [HX.out,← HDS.out] at HL2 HZ2 ⊢
  have H1:Hid (∀ v ∈ ds,v.oneCell' = true):=by show ∀ _,_;rw [HDS.out];exact cb_one _
  clear HX
  go_wp2_with (refine wpList_store_mid rfl 155 _ _ rfl w.heap.size 0 ds.toArray rfl rfl (HR5.out.there 0 _ (by rw [List.size_toArray,HL2.out,cb_len,len_zb32];omega)) (by simpa using HZ2.out) (all_oneCell_toArray H1.out) ?_)
  have hB:=HR5.out.whole ds (by rw [HL2.out,cb_len,len_zb32])
  refine bodyPost_ret (v:=.agg ds.toArray) (results_cell_row (by rfl) _ _ w.heap.size 155 _ (0,0) _ rfl hB Tryz.underlying155 rfl (by simpa using HZ2.out)) rfl ⟨by rw [HDS.out],Below.setCells _ (Nat.le_refl _) _ _ _ (HBel.out.trans (hb5.mono HBel.out.size))⟩
def Reads (w:World) (v:Value) (bs:List (BitVec 8)):Prop:=
 ∃ ad cap,v = .slice ad bs.length cap ∧ bs.length ≤ cap ∧ (ad = none → cap = 0) ∧ (0 < bs.length → ∃ b off,ad = some ⟨b,off,none⟩ ∧ ∀ j,j < bs.length → w.cell? ⟨b,off + j,none⟩ = some (.int .u8 ((bs.getD j 0).toNat:Int)))
theorem Reads.bytes {w:World} {v:Value} {bs:List (BitVec 8)} (h:Reads w v bs) {g:Nat} (hg:w.heap.size ≤ g):Bytes w g v bs:=by
 obtain ⟨ad,cap,hv,hc,_,hx⟩:=h
 refine ⟨ad,cap,hv,hc,fun hp => ?_⟩
 obtain ⟨b,off,h1,h2⟩:=hx hp
 refine ⟨b,off,h1,?_,h2⟩
 have:=block_lt_of_cell (h2 0 hp)
 simp at this
 omega
theorem Reads.below {w w':World} {v:Value} {bs:List (BitVec 8)} (h:Reads w v bs) (hb:Below w.heap.size w w'):Reads w' v bs:=by
 obtain ⟨ad,cap,hv,hc,hn,hx⟩:=h
 refine ⟨ad,cap,hv,hc,hn,fun hp => ?_⟩
 obtain ⟨b,off,h1,h2⟩:=hx hp
 exact ⟨b,off,h1,fun j hj => by rw [hb.cell (p:=⟨b,off + j,none⟩) (block_lt_of_cell (h2 j hj))];exact h2 j hj⟩
theorem sum_any (v:Value) (bs:List (BitVec 8)) (w:World) (hK:KOk w) (hR:Reads w v bs) (hl:bs.length < 2305843009213693952) :
 Calls Tryz.prog 148 #[v] w fun e w' => e = .returned (.agg (cb (dig bs)).toArray) ∧ Below w.heap.size w w':=by
 have HK:Hid (KOk w):=hK
 have HR:Hid (Reads w v bs):=hR
 clear hK hR
 go_enter Tryz.func148,Tryz.ntmps148
 go_wp2_with fail
 generalize h0:Obj.cells _ 155 = o32
 have ho:o32 = Obj.cells (cb zb32).toArray 155:=h0.symm
 clear h0
 subst ho
 have ha:Below w.heap.size w (w.alloc (.cells (cb zb32).toArray 155)):=(Below.refl _ _).alloc (Nat.le_refl _) _
 refine (new_any _).mono ?_
 rintro e w1 ⟨g,rfl,hg,hh,hb1⟩
 simp at hg hb1
 have HB1:Hid (Below w.heap.size w w1):=ha.trans (hb1.mono (by omega))
 have HR1:Hid (Blk w1 w.heap.size (cb zb32) 155):=(Blk.new w (cb zb32) 155).below hb1 (by omega)
 have HG:Hid (w.heap.size + 1 ≤ g):=hg
 clear hg hb1 ha
 go_wp2_with fail
 have hk1:=HK.out.below HB1.out HK.out.lt
 have e1:1 ≠ g:=by have:=HK.out.lt;have:=HG.out;omega
 have e2:Bytes w1 g v bs:=by
  have:=HG.out
  exact (HR.out.bytes (g:=g) (by omega)).below HB1.out
 refine (write_any g [] bs v _ e1 hk1 hh e2 (by simp;omega)).mono ?_
 rintro e w2 ⟨rfl,hh2,ho2⟩
 have HB2:Hid (Below w.heap.size w w2):=HB1.out.trans (ho2.below (by have:=HG.out;omega) HB1.out.size)
 have HR2:Hid (Blk w2 w.heap.size (cb zb32) 155):=HR1.out.only ho2 (by have:=HG.out;omega)
 have hk2:=HK.out.below HB2.out HK.out.lt
 rw [List.nil_append] at hh2
 clear e1 e2 hk1 hh ho2 HR1 HB1
 go_wp2_with fail
 refine (digest_any g bs _ hk2 hh2 hl).mono ?_
 rintro e w3 ⟨rfl,hb3⟩
 obtain ⟨ds,HDS⟩:=sqn (cb (dig bs))
 have HL2:Hid (ds.length = 32):=by show _ = _;rw [HDS.out,cb_len,dig,len_outB]
 have HZ2:Hid ((Tryz.prog.info? 155).map (·.size) = some ds.length):=by show _ = _;rw [HL2.out];exact Tryz.info155
 have H1:Hid (∀ v ∈ ds,v.oneCell' = true):=by show ∀ _,_;rw [HDS.out];exact cb_one _
 have HR3:Hid (Blk w3 w.heap.size (cb zb32) 155):=HR2.out.below hb3 HR2.out.lt
 rw [← HDS.out]
 clear hk2 hh2
 go_wp2_with (refine wpList_store_mid rfl 155 _ _ rfl w.heap.size 0 ds.toArray rfl rfl (HR3.out.there 0 _ (by rw [List.size_toArray,HL2.out,cb_len,len_zb32];omega)) (by simpa using HZ2.out) (all_oneCell_toArray H1.out) ?_)
 have hB:=HR3.out.whole ds (by rw [HL2.out,cb_len,len_zb32])
 refine bodyPost_ret (v:=.agg ds.toArray) (results_cell_row (by rfl) _ _ w.heap.size 155 _ (0,0) _ rfl hB Tryz.underlying155 rfl (by simpa using HZ2.out)) rfl ⟨by rw [HDS.out],Below.setCells _ (Nat.le_refl _) _ _ _ (HB2.out.trans (hb3.mono HB2.out.size))⟩
def OwnB (w:World) (base:Nat) (v:Value) (l:List (BitVec 8)):Prop:=w.ownsRow base 5 1 v l.length (cb l)
theorem OwnB.nil (w:World) (base:Nat):OwnB w base (.slice none 0 0) []:=World.ownsRow_nil _ _ _ _
theorem OwnB.reads {w:World} {base:Nat} {v:Value} {l:List (BitVec 8)} (h:OwnB w base v l):Reads w v l:=by
 obtain ⟨h1,h2⟩:=h
 rcases h2 with ⟨rfl,h0⟩ | ⟨g,cap,cur,rfl,hg,hh,hc,hm,hs,ht⟩
 · exact ⟨none,0,by rw [h0],by omega,fun _ => rfl,fun hp => by omega⟩
 · refine ⟨_,cap,rfl,hc,(fun h => by cases h),fun _ => ⟨g,0,rfl,fun j hj => ?_⟩⟩
   rw [cell_of_row w g (0 + j) cur _ (0,0) hh,Nat.zero_add];rw [Nat.mul_one] at ht;have:=cb_get l j hj;rw [← ht,List.getElem?_take_of_lt hj] at this
   simpa using this
theorem OwnB.below {w w':World} {base B:Nat} {v:Value} {l:List (BitVec 8)} (h:OwnB w base v l) (hb:Below B w w') (hB:w.heap.size ≤ B):OwnB w' base v l:=by
 obtain ⟨h1,h2⟩:=h
 refine ⟨h1,?_⟩
 rcases h2 with h2 | ⟨g,cap,cur,hv,hg,hh,r⟩
 · exact Or.inl h2
 · have hlt:g < w.heap.size:=by
    rcases Nat.lt_or_ge g w.heap.size with h' | h'
    · exact h'
    · rw [Array.getElem?_eq_none h'] at hh;cases hh
   exact Or.inr ⟨g,cap,cur,hv,hg,by rw [hb.block g (by omega)];exact hh,r⟩
theorem OwnB.own {w:World} {base:Nat} {v:Value} {l:List (BitVec 8)} (h:OwnB w base v l):∀ k,v.ownBlock = some k → base ≤ k:=by
 obtain ⟨h1,h2⟩:=h
 rcases h2 with ⟨rfl,h0⟩ | ⟨g,cap,cur,rfl,hg,_⟩
 · intro k hk;simp [Value.ownBlock] at hk
 · intro k hk;simp [Value.ownBlock] at hk;omega
theorem wpList_appendB {w:World} {ops:Array Oper} {rest:List Oper} {o:Oper} {a:Act} {Q:Exit → Act → World → Prop} (hgd:o.guard = none) (s x:Operand)
 (ho:o.op = .call { callee:=.builtin .append,args:=#[s,x],argTypes:=#[23,23] }) (base:Nat)
 (v:Value) (l:List (BitVec 8)) (hs:a.eval s = v) (hown:OwnB w base v l) (vx:Value) (news:List (BitVec 8)) (hx:a.eval x = vx) (hr:Reads w vx news)
 (hlen:l.length + news.length ≤ 140737488355328) (hbase:base ≤ w.heap.size)
 (h:∀ v' w',OwnB w' base v' (l ++ news) → Below base w w' → (news ≠ [] → v' ≠ .slice none 0 0) → wpList Tryz.prog ops Q rest (a.put o.dst v') w'):wpList Tryz.prog ops Q (o :: rest) a w:=by
 obtain ⟨i0,hi,hz0,hz1,hz2⟩:=info_parts Tryz.infob
 obtain ⟨ad,cap,rfl,hcap,hnn,hpos⟩:=hr
 cases ad with
 | some ad =>
  refine wpList_append_own (P:=Tryz.prog) w hgd s x 23 ho base 5 i0 (.int .u8 0) 1 1 Tryz.underlying23 hi hz0 hz1 hz2 rfl (by decide) v l.length (cb l) hs hown ad news.length cap (cb news) hx (by rw [cb_len];omega) ?_ (cb_one _) (by unfold maxLen;omega) (by omega) hbase ?_
  · intro j u hj
    have hjl:j < news.length:=by have:=(List.getElem?_eq_some_iff.1 hj).1;rwa [cb_len] at this
    obtain ⟨b,off,h1,h2⟩:=hpos (by omega)
    cases h1
    rw [Addr.add_mid,h2 j hjl,← hj,cb_get news j hjl]
  · intro v' w' h1 h2 h3
    refine h v' w' ?_ ((Below.refl _ _).grown h2 hbase (fun k hk => hown.own k hk)) (fun hne hv => ?_)
    · have e:cb l ++ cb news = cb (l ++ news):=by simp [cb]
      rw [e] at h1;unfold OwnB;rw [List.length_append];exact h1
    · have:=(h3.1 hv).2
      exact hne (List.eq_nil_of_length_eq_zero this)
 | none =>
  have hn0:news = []:=by
   cases news with
   | nil => rfl
   | cons b r => obtain ⟨b,off,h1,_⟩:=hpos (by simp);cases h1
  subst hn0
  have hc0:=hnn rfl
  subst hc0
  refine wpList_append_own_none (P:=Tryz.prog) hgd s x 23 ho base 5 i0 1 Tryz.underlying23 hi v l.length (cb l) hs hown hx ?_
  exact h v w (by rw [List.append_nil];exact hown) (Below.refl _ _) (fun hne => absurd rfl hne)
def tl8 (B i:Nat):List (BitVec 8):=(List.range i).map fun j => BitVec.ofNat 8 (B / 2 ^ (56 - 8 * j))
theorem pad_eq (n:Nat):pad n = 128#8 :: List.replicate (padN n) 0 ++ tl8 (bitsOf n) 8:=by
 unfold pad
 generalize padN n = k
 generalize bitsOf n = B
 have e:(128#8 :: List.replicate (k + 8) (0:BitVec 8)) = (128#8 :: List.replicate k 0) ++ List.replicate 8 0:=by
  rw [List.cons_append,List.replicate_append_replicate]
 have hs:∀ (A L:List (BitVec 8)) (j:Nat) (v:BitVec 8),A.length = k + 1 → j < 8 → (A ++ L).set (k + 8 - j) v = A ++ L.set (7 - j) v:=by
  intro A L j v hA hj
  rw [List.set_append_right _ _ (by omega),hA,show k + 8 - j - (k + 1) = 7 - j by omega]
 have hA:(128#8 :: List.replicate k (0:BitVec 8)).length = k + 1:=by simp
 generalize (128#8 :: List.replicate k (0:BitVec 8)) = A at *
 simp only [padL,e]
 rw [hs A _ 0 _ hA (by omega),hs A _ 1 _ hA (by omega),hs A _ 2 _ hA (by omega),hs A _ 3 _ hA (by omega),hs A _ 4 _ hA (by omega),hs A _ 5 _ hA (by omega),hs A _ 6 _ hA (by omega),hs A _ 7 _ hA (by omega)]
 congr 1
theorem reads_val (w:World) (x:Int) (b:BitVec 8) (hx:x = (b.toNat:Int)):Reads (w.alloc (.cells #[.int .u8 x] 5)) (.slice (some ⟨w.heap.size,0,none⟩) 1 1) [b]:=by
 subst hx
 exact ⟨_,1,rfl,Nat.le_refl _,(fun h => by cases h),fun _ => ⟨w.heap.size,0,rfl,fun j hj => by match j,hj with | 0,_ => simp⟩⟩
structure RpInv (w:World) (l:List (BitVec 8)) (v:Value) (wr:World):Prop where
 own:OwnB wr w.heap.size v l
 bel:Below w.heap.size w wr
theorem rpad_any (n:Nat) (w:World):Calls Tryz.prog 150 #[.int .u64 (n:Int)] w fun e w' => ∃ v,e = .returned v ∧ Reads w' v (pad n) ∧ Below w.heap.size w w':=by
 have HP:Hid (pad n = 128#8 :: List.replicate (padN n) 0 ++ tl8 (bitsOf n) 8):=pad_eq n
 have hk:padN n < 64:=by unfold padN;omega
 have hkk:padN n = (119 - n % 64) % 64:=rfl
 have h2:=bitsOf_eq n
 have h3:IntKind.u64.wrap ((n:Int) * 8) = (bitsOf n:Int):=by rw [Int.mul_comm];exact h2
 generalize padN n = k at *
 generalize bitsOf n = B at *
 have HK:Hid (k = (119 - n % 64) % 64):=hkk
 clear hkk h2
 go_enter Tryz.func150,Tryz.ntmps150
 go_wp2_with (at_builtin;refine wpList_appendB rfl (.tmp 6) (.tmp 7) rfl w.heap.size _ [] rfl (OwnB.nil _ _) _ [128] rfl ?_ (by simp) (by simp) ?_;exact ⟨_,1,rfl,Nat.le_refl _,(fun h => by cases h),fun _ => ⟨w.heap.size,0,rfl,fun j hj => by match j,hj with | 0,_ => simp⟩⟩;intro v1 w1 hown1 hb1 _)
 have hI:RpInv w [128] v1 w1:=⟨hown1,((Below.refl _ _).alloc (Nat.le_refl _) _).trans hb1⟩
 clear hown1 hb1
 go_loopw [3] (fun v wr => ∃ j:Nat,j ≤ k ∧ RpInv w (128#8 :: List.replicate j 0) v wr) (fun v _ => k + 1 - sliceLen v)
 case atStart => exact ⟨0,by omega,hI⟩
 case round =>
  clear hI
  obtain ⟨j,hj,hI⟩:=hrel
  obtain ⟨ad,cap,hv,hcap,hnn,hpos⟩:=hI.own.reads
  have hlen:(128#8 :: List.replicate j (0:BitVec 8)).length = j + 1:=by simp
  rw [hlen] at hv hcap
  subst hv
  have HI:Hid (RpInv w (128#8 :: List.replicate j 0) (.slice ad (j + 1) cap) wr):=hI
  clear hI hpos hnn hlen hcap
  by_cases hlt:j < k
  · have ht:((IntKind.u64.wrap ((n:Int) + ((j:Int) + 1))).tmod 64 != 56) = true:=by
     rw [IntKind.wrap_u64,Int.tmod_eq_emod_of_nonneg (by omega),bne_iff_ne];have:=HK.out;omega
    go_wp2_with (at_builtin;refine wpList_appendB rfl (.tmp 16) (.tmp 17) rfl w.heap.size _ (128#8 :: List.replicate j 0) rfl (HI.out.own.below ((Below.refl _ _).alloc (Nat.le_refl _) _) (Nat.le_refl _)) _ [0] rfl (reads_val wr 0 0 rfl) (by simp;omega) (by have:=HI.out.bel.size;simp;omega) ?_;intro v2 w2 hown2 hb2 _)
    have hJ:RpInv w (128#8 :: List.replicate (j + 1) 0) v2 w2:=⟨by rw [List.cons_append,← List.replicate_succ'] at hown2;exact hown2,HI.out.bel.trans (((Below.refl _ _).alloc HI.out.bel.size _).trans hb2)⟩
    clear hown2 hb2 HI;obtain ⟨ad2,cap2,hv2,_,_,_⟩:=hJ.own.reads;simp at hv2;subst hv2;go_wp2;go_roundw
    case rel => exact ⟨j + 1,by omega,hJ⟩
    case measure => simp [sliceLen];omega
  · have hjk:j = k:=by omega
    subst hjk
    have ht:((IntKind.u64.wrap ((n:Int) + ((j:Int) + 1))).tmod 64 != 56) = false:=by
     rw [IntKind.wrap_u64,Int.tmod_eq_emod_of_nonneg (by omega),bne_eq_false_iff_eq];have:=HK.out;omega
    clear hlt hj;go_wp2
    go_loopw [3,5] (fun v i wr => ∃ q:Nat,q ≤ 8 ∧ i = .int .i64 q ∧ RpInv w (128#8 :: List.replicate j 0 ++ tl8 B q) v wr) (fun _ i _ => 8 - (intOf i).toNat)
    case atStart => exact ⟨0,by omega,rfl,by simpa [tl8] using HI.out⟩
    case round =>
     clear HI;obtain ⟨q,hq,rfl,hI⟩:=hrel;have HJ:Hid (j < 64):=hk;have HI:Hid (RpInv w (128#8 :: List.replicate j 0 ++ tl8 B q) u3 wr):=hI;clear hI
     by_cases hlt:q < 8
     · go_wp2_with (at_builtin;refine wpList_appendB rfl (.tmp 25) (.tmp 33) rfl w.heap.size _ (128#8 :: List.replicate j 0 ++ tl8 B q) rfl (HI.out.own.below ((Below.refl _ _).alloc (Nat.le_refl _) _) (Nat.le_refl _)) _ [BitVec.ofNat 8 (B / 2 ^ (56 - 8 * q))] rfl (reads_val wr _ _ ?_) (by have:=HJ.out;simp [tl8];omega) (by have:=HI.out.bel.size;simp;omega) ?_;simp;intro v2 w2 hown2 hb2 _)
       have hJ:RpInv w (128#8 :: List.replicate j 0 ++ tl8 B (q + 1)) v2 w2:=⟨by rw [List.append_assoc] at hown2;unfold tl8 at hown2 ⊢;rw [List.range_succ,List.map_append];exact hown2,HI.out.bel.trans (((Below.refl _ _).alloc HI.out.bel.size _).trans hb2)⟩
       clear hown2 hb2 HI;go_wp2;go_roundw
       case rel => exact ⟨q + 1,by omega,by go_num,hJ⟩
       case measure => simp [intOf];omega
     · have hq8:q = 8:=by omega
       subst hq8;have HR:Hid (Reads wr u3 (pad n)):=by show Reads _ _ _;rw [HP.out];exact HI.out.own.reads
       have hbel:=HI.out.bel;clear HI;go_wp2;go_ret;exact ⟨_,rfl,HR.out,hbel⟩
def strB (l:List (BitVec 8)):ByteArray:=strOfNums (l.map fun b => (b.toNat:Int))
theorem conv_reads {w:World} {v:Value} {l:List (BitVec 8)} (h:Reads w v l):(convert 23 9 v).run Tryz.prog w = .ok (.string (strB l)) w:=by
 obtain ⟨ad,cap,rfl,hcap,hnn,hpos⟩:=h
 have key:∀ a:Addr,ad = some a → (loadCells a l.length).run Tryz.prog w = .ok ((l.map fun b => (b.toNat:Int)).map (Value.int .u8)).toArray w:=by
  intro a ha
  have hh:=run_loadCells_list (P:=Tryz.prog) w a ((l.map fun b => (b.toNat:Int)).map (Value.int .u8)) (fun j u hj => by
   have hjl:j < l.length:=by have:=(List.getElem?_eq_some_iff.1 hj).1;simpa using this
   obtain ⟨b,off,h1,h2⟩:=hpos (by omega)
   rw [ha] at h1
   cases h1
   rw [Addr.add_mid,h2 j hjl,← hj];simp [hjl])
  simpa using hh
 rw [run_convert_bytes_string w 23 9 5 _ _ _ Tryz.underlying23 Tryz.underlying5 Tryz.underlying9]
 cases ad with
 | some a =>
  rw [run_bytesToString w a l.length cap _ (key a rfl),foldl_push_bytes]
  simp [strB,strOfNums]
 | none =>
  have h0:l = []:=by
   cases l with
   | nil => rfl
   | cons b r => obtain ⟨b,off,h1,_⟩:=hpos (by simp);cases h1
  subst h0
  simp [Conv.bytesToString,strB,strOfNums]
  rfl
theorem strB_inj (a b:List (BitVec 8)):((strB a).toList == (strB b).toList) = decide (a = b):=by
 rw [ByteArray.toList_eq,ByteArray.toList_eq]
 unfold strB
 rw [strOfNums_data,strOfNums_data,List.map_map,List.map_map]
 by_cases h:a = b
 · subst h;simp
 · have hinj:∀ x y:BitVec 8,UInt8.ofNat ((x.toNat:Int)).toNat = UInt8.ofNat ((y.toNat:Int)).toNat → x = y:=by
    intro x y hxy;have h2:=congrArg UInt8.toNat hxy;have hx:=x.isLt;have hy:=y.isLt;simp at h2;exact BitVec.eq_of_toNat_eq (by omega)
   have hne:∀ a b:List (BitVec 8),a.map ((fun n:Int => UInt8.ofNat n.toNat) ∘ fun b => (b.toNat:Int)) = b.map ((fun n:Int => UInt8.ofNat n.toNat) ∘ fun b => (b.toNat:Int)) → a = b:=by
    intro a
    induction a with
    | nil => intro b hb;cases b with
     | nil => rfl
     | cons y b => simp at hb
    | cons x a ih => intro b hb;cases b with
     | nil => simp at hb
     | cons y b =>
      rw [List.map_cons,List.map_cons,List.cons.injEq] at hb;rw [hinj x y hb.1,ih b hb.2]
   rw [decide_eq_false h,beq_eq_false_iff_ne];exact fun he => h (hne a b he)
theorem same_any (va vb:Value) (la lb:List (BitVec 8)) (w:World) (ha:Reads w va la) (hb:Reads w vb lb) :
 Calls Tryz.prog 16 #[va,vb] w fun e w' => e = .returned (.bool (decide (la = lb))) ∧ w' = w:=by
 have hs:=strB_inj la lb
 have ca:=conv_reads ha
 have cb:=conv_reads hb
 clear ha hb
 go_enter Tryz.func16,Tryz.ntmps16
 go_wp2
 go_ret
 exact ⟨rfl,rfl⟩
theorem len_dig' (bs:List (BitVec 8)):(dig bs).length = 32:=by unfold dig;exact len_outB _ _
def rw1 (b:List (BitVec 8)):Nat → List (BitVec 32)
 | 0 => z64
 | i + 1 => (rw1 b i).set (i / 4) ((rw1 b i).getD (i / 4) 0 * 256 + (b.getD i 0).setWidth 32)
theorem len_rw1 (b:List (BitVec 8)) (k:Nat):(rw1 b k).length = 64:=by
 induction k with
 | zero => rfl
 | succ k ih => simp [rw1,ih]
theorem word_sum (b0 b1 b2 b3:BitVec 8):((((0:BitVec 32) * (256:BitVec 32) + b0.setWidth 32) * (256:BitVec 32) + b1.setWidth 32) * (256:BitVec 32) + b2.setWidth 32) * (256:BitVec 32) + b3.setWidth 32 =
 b0.setWidth 32 <<< 24 ||| b1.setWidth 32 <<< 16 ||| b2.setWidth 32 <<< 8 ||| b3.setWidth 32:=by
 apply BitVec.eq_of_toNat_eq
 have h0:=b0.isLt
 have h1:=b1.isLt
 have h2:=b2.isLt
 have h3:=b3.isLt
 have o1:=Nat.two_pow_add_eq_or_of_lt (i:=24) (b:=b1.toNat * 65536) (by omega) b0.toNat
 have o2:=Nat.two_pow_add_eq_or_of_lt (i:=16) (b:=b2.toNat * 256) (by omega) (b0.toNat * 256 + b1.toNat)
 have o3:=Nat.two_pow_add_eq_or_of_lt (i:=8) (b:=b3.toNat) (by omega) (b0.toNat * 65536 + b1.toNat * 256 + b2.toNat)
 have e0:(b0.setWidth 32 <<< 24).toNat = 2 ^ 24 * b0.toNat:=by simp [BitVec.toNat_shiftLeft,Nat.shiftLeft_eq];omega
 have e1:(b1.setWidth 32 <<< 16).toNat = b1.toNat * 65536:=by simp [BitVec.toNat_shiftLeft,Nat.shiftLeft_eq];omega
 have e2:(b2.setWidth 32 <<< 8).toNat = b2.toNat * 256:=by simp [BitVec.toNat_shiftLeft,Nat.shiftLeft_eq];omega
 have e3:(b3.setWidth 32).toNat = b3.toNat:=by simp;omega
 rw [BitVec.toNat_or,BitVec.toNat_or,BitVec.toNat_or,e0,e1,e2,e3,← o1,
  show 2 ^ 24 * b0.toNat + b1.toNat * 65536 = 2 ^ 16 * (b0.toNat * 256 + b1.toNat) by omega,← o2,
  show 2 ^ 16 * (b0.toNat * 256 + b1.toNat) + b2.toNat * 256 = 2 ^ 8 * (b0.toNat * 65536 + b1.toNat * 256 + b2.toNat) by omega,← o3]
 simp [BitVec.toNat_add,BitVec.toNat_mul]
 omega
theorem sched1_rest (b:List (BitVec 8)) (t j:Nat) (h:t ≤ j):(sched1 b t).getD j 0 = 0:=by
 induction t with
 | zero => rw [sched1,List.getD_eq_getElem?_getD,List.getElem?_replicate];split <;> rfl
 | succ t ih =>
  rw [sched1,List.getD_eq_getElem?_getD,List.getElem?_set_ne (by omega),← List.getD_eq_getElem?_getD]
  exact ih (by omega)
theorem getD_set_self (l:List (BitVec 32)) (i:Nat) (v:BitVec 32) (h:i < l.length):(l.set i v).getD i 0 = v:=by simp [h]
theorem rw1_eq (b:List (BitVec 8)) (t:Nat) (ht:t ≤ 16):rw1 b (4 * t) = sched1 b t:=by
 induction t with
 | zero => rfl
 | succ t ih =>
  have h0:=ih (by omega)
  have hl:t < (sched1 b t).length:=by rw [len_sched1];omega
  have hz:=sched1_rest b t t (Nat.le_refl _)
  have s1:rw1 b (4 * t + 1) = (sched1 b t).set t (0 * 256 + (b.getD (4 * t) 0).setWidth 32):=by
   rw [rw1,h0,show 4 * t / 4 = t by omega,hz]
  have s2:rw1 b (4 * t + 2) = (sched1 b t).set t ((0 * 256 + (b.getD (4 * t) 0).setWidth 32) * 256 + (b.getD (4 * t + 1) 0).setWidth 32):=by
   rw [rw1,s1,show (4 * t + 1) / 4 = t by omega,getD_set_self _ _ _ hl,List.set_set]
  have s3:rw1 b (4 * t + 3) = (sched1 b t).set t (((0 * 256 + (b.getD (4 * t) 0).setWidth 32) * 256 + (b.getD (4 * t + 1) 0).setWidth 32) * 256 + (b.getD (4 * t + 2) 0).setWidth 32):=by
   rw [rw1,s2,show (4 * t + 2) / 4 = t by omega,getD_set_self _ _ _ hl,List.set_set]
  rw [show 4 * (t + 1) = 4 * t + 3 + 1 by omega,rw1,s3,show (4 * t + 3) / 4 = t by omega,getD_set_self _ _ _ hl,List.set_set,word_sum]
  rfl
theorem byte_sum (y:BitVec 32) (x:BitVec 8):(y.toNat:Int) * 256 % 4294967296 + (x.toNat:Int) = ((y * 256 + x.setWidth 32).toNat:Int):=by
 have:=x.isLt
 simp [BitVec.toNat_add,BitVec.toNat_mul]
 omega
structure RwInv (w:World) (l:List (BitVec 32)) (wr:World):Prop where
 res:Blk wr w.heap.size (cw z64) 196
 wds:Blk wr (w.heap.size + 1) (cw l) 196
 bel:Below w.heap.size w wr
theorem RwInv.store {w wr:World} {l:List (BitVec 32)} (h:RwInv w l wr) (k:Nat) (v:BitVec 32) :
 RwInv w (l.set k v) ((wr.setCell ⟨w.heap.size + 1,k,none⟩ (.int .u32 (v.toNat:Int))).drew):=
 ⟨(h.res.other _ _ (by simp)).drew,by have:=(h.wds.set k (.int .u32 (v.toNat:Int))).drew;rw [cw_set] at this;exact this,(h.bel.setCell (by simp) _).drew⟩
theorem RwInv.drewN {w wr:World} {l:List (BitVec 32)} (h:RwInv w l wr) (n:Nat):RwInv w l (wr.drewN n):=⟨h.res,h.wds,⟨h.bel.os,h.bel.tape,h.bel.output,h.bel.size,h.bel.block⟩⟩
theorem RwInv.at {w wr:World} {l:List (BitVec 32)} (h:RwInv w l wr) (j:Nat) (hj:j < l.length):wr.cell? ⟨w.heap.size + 1,j,none⟩ = some (.int .u32 ((l.getD j 0).toNat:Int)):=by
 rw [h.wds.cell,cw_get l j hj]
theorem rwords_any (b:List (BitVec 8)) (v:Value) (w:World) (hb:b.length = 64) (hR:Reads w v b) :
 Calls Tryz.prog 163 #[v] w fun e w' => e = .returned (.agg (cw (sched2 b 48)).toArray) ∧ Below w.heap.size w w':=by
 obtain ⟨ad,cap,rfl,hcap,_,hpos⟩:=hR
 obtain ⟨bb,off,rfl,hsrc⟩:=hpos (by omega)
 rw [hb] at hcap hsrc ⊢
 have HS:Hid (∀ wr,Below w.heap.size w wr → ∀ j,j < 64 → wr.cell? ⟨bb,off + j,none⟩ = some (.int .u8 ((b.getD j 0).toNat:Int))):=by
  intro wr hbl j hj
  rw [hbl.cell (p:=⟨bb,off + j,none⟩) (block_lt_of_cell (hsrc j hj))];exact hsrc j hj
 clear hpos hsrc
 go_enter Tryz.func163,Tryz.ntmps163
 go_wp2
 go_loopw [4] (fun i wr => ∃ k:Nat,k ≤ 64 ∧ i = .int .i64 k ∧ RwInv w (rw1 b k) wr) (fun i _ => 64 - (intOf i).toNat)
 case atStart =>
  refine ⟨0,by omega,rfl,?_,?_,?_⟩
  · exact (Blk.new w (cw z64) 196).alloc _
  · exact Blk.new_at (w:=w.alloc (.cells (cw z64).toArray 196)) (by simp) (cw z64) 196
  · exact ((Below.refl _ _).alloc (Nat.le_refl _) _).alloc (by simp) _
 case round =>
  obtain ⟨k,hk,rfl,hI⟩:=hrel
  by_cases hlt:k < 64
  · obtain ⟨x,HX⟩:=sqn (b.getD k 0)
    obtain ⟨y,HY⟩:=sqn ((rw1 b k).getD (k / 4) 0);have cx:wr.cell? ⟨bb,off + k,none⟩ = some (.int .u8 (x.toNat:Int)):=by rw [HX.out];exact HS.out wr hI.bel k hlt
    have cy:wr.cell? ⟨w.heap.size + 1,k / 4,none⟩ = some (.int .u32 (y.toNat:Int)):=by rw [HY.out];exact hI.at _ (by rw [len_rw1];omega)
    have fy:wr.frozen? ⟨w.heap.size + 1,k / 4,none⟩ = false:=hI.wds.frozen _;have gx:(x.toNat:Int) < 256:=by have:=x.isLt;omega
    go_wp2
    go_region
    go_wp2;go_roundw
    case rel =>
     refine ⟨k + 1,by omega,by go_num,?_⟩
     have:=hI.store (k / 4) (y * 256 + x.setWidth 32);rw [← byte_sum] at this;rw [rw1,← HX.out,← HY.out];exact this
    case measure => simp [intOf];omega
  · have hk64:k = 64:=by omega
    subst hk64;rw [show (64:Nat) = 4 * 16 from rfl,rw1_eq b 16 (Nat.le_refl _)] at hI;go_wp2
    go_loopw [5] (fun i wr => ∃ k:Nat,k ≤ 48 ∧ i = .int .i64 ((k:Int) + 16) ∧ RwInv w (sched2 b k) wr) (fun i _ => 64 - (intOf i).toNat)
    case atStart => exact ⟨0,by omega,rfl,hI⟩
    case round =>
     clear hI hlt hk HS;obtain ⟨k,hk,rfl,hI⟩:=hrel
     by_cases hlt:k < 48
     · obtain ⟨x0,H0⟩:=sqn ((sched2 b k).getD k 0)
       obtain ⟨x1,H1⟩:=sqn ((sched2 b k).getD (k + 1) 0);obtain ⟨x9,H9⟩:=sqn ((sched2 b k).getD (k + 9) 0);obtain ⟨x14,H14⟩:=sqn ((sched2 b k).getD (k + 14) 0)
       have HC:Hid (∀ wx,RwInv w (sched2 b k) wx → wx.cell? ⟨w.heap.size + 1,k,none⟩ = some (.int .u32 (x0.toNat:Int)) ∧ wx.cell? ⟨w.heap.size + 1,k + 1,none⟩ = some (.int .u32 (x1.toNat:Int)) ∧
        wx.cell? ⟨w.heap.size + 1,k + 9,none⟩ = some (.int .u32 (x9.toNat:Int)) ∧ wx.cell? ⟨w.heap.size + 1,k + 14,none⟩ = some (.int .u32 (x14.toNat:Int)) ∧
        (∃ o,wx.cell? ⟨w.heap.size + 1,k + 16,none⟩ = some o) ∧ wx.frozen? ⟨w.heap.size + 1,k + 16,none⟩ = false):=by
        intro wx hx;have hl:=len_sched2 b k;rw [H0.out,H1.out,H9.out,H14.out];exact ⟨hx.at _ (by omega),hx.at _ (by omega),hx.at _ (by omega),hx.at _ (by omega),⟨_,hx.at _ (by omega)⟩,hx.wds.frozen _⟩
       obtain ⟨c0,c1,c9,c14,⟨o,cT⟩,fT⟩:=HC.out wr hI;go_wp2
       go_quiet ((go_at_call 165;exact Calls.quiet_of_same (turn_any _ _ _ (by omega) (by omega))))
       have hI2:=hI.drewN nq;clear hI c0 c1 c9 c14 cT fT
       generalize wr.drewN nq = wq at *
       obtain ⟨c0,c1,c9,c14,⟨o,cT⟩,fT⟩:=HC.out wq hI2;go_wp2
       go_quiet ((go_at_call 165;exact Calls.quiet_of_same (turn_any _ _ _ (by omega) (by omega))))
       have hI:=hI2.drewN nq;clear hI2 c0 c1 c9 c14 cT fT
       generalize wq.drewN nq = wp at *
       obtain ⟨c0,c1,c9,c14,⟨o,cT⟩,fT⟩:=HC.out wp hI;go_wp2
       go_region
       go_wp2;go_roundw
       case rel =>
        refine ⟨k + 1,by omega,by go_num,?_⟩
        have:=hI.store (k + 16) (x0 + sig0 x1 + x9 + sig1 x14);rw [← u32_add4,← sig0_eq,← sig1_eq] at this;rw [sched2,← H0.out,← H1.out,← H9.out,← H14.out];exact this
       case measure => simp [intOf];omega
     · have hk48:k = 48:=by omega
       subst hk48;obtain ⟨cs,HCS⟩:=sqn (cw (sched2 b 48));have HL:Hid (cs.length = 64):=by show _ = _;rw [HCS.out,cw_len,len_sched2]
       have HZ:Hid ((Tryz.prog.info? 196).map (·.size) = some cs.length):=by show _ = _;rw [HL.out];exact Tryz.info196
       have H1:Hid (∀ v ∈ cs,v.oneCell' = true):=by show ∀ _,_;rw [HCS.out];exact cw_one _
       have HW:Hid (Blk wr (w.heap.size + 1) cs 196):=by show Blk _ _ _ _;rw [HCS.out];exact hI.wds
       have HR:Hid (Blk wr w.heap.size (cw z64) 196):=hI.res;have hbel:=hI.bel;clear hI
       go_wp2_with (first
        | (refine wpList_load_mid rfl 196 _ rfl (w.heap.size + 1) 0 rfl cs _ HW.out.range Tryz.underlying196 rfl HZ.out ?_)
        | (refine wpList_store_mid rfl 196 _ _ rfl w.heap.size 0 cs.toArray rfl rfl (HR.out.there 0 _ (by rw [List.size_toArray,HL.out,cw_len,len_z64];omega)) (by simpa using HZ.out) (all_oneCell_toArray H1.out) ?_))
       have hB:=HR.out.whole cs (by rw [HL.out,cw_len,len_z64])
       refine bodyPost_ret (v:=.agg cs.toArray) (results_cell_row (by rfl) _ _ w.heap.size 196 _ (0,0) _ rfl hB Tryz.underlying196 rfl (by simpa using HZ.out)) rfl ⟨by rw [HCS.out],Below.setCells _ (Nat.le_refl _) _ _ _ hbel⟩
theorem rfirst_any (w:World):Calls Tryz.prog 151 #[] w fun e w' => e = .returned (.agg (cw st0.l).toArray) ∧ Below w.heap.size w w':=by
 go_enter Tryz.func151,Tryz.ntmps151
 go_wp2_with (first
  | (refine wpList_build8 rfl 184 _ _ _ _ _ _ _ _ rfl _ _ _ _ _ _ _ _ rfl rfl rfl rfl rfl rfl rfl rfl (built8 _ _ _ _ _ _ _ _) ?_)
  | (refine wpList_store8 rfl 184 _ _ rfl _ _ _ _ _ _ _ _ _ rfl rfl ((Blk.new w (cw z8) 184).there 0 8 (by simp [cw_len,len_z8])) Tryz.info184 ?_))
 have hB:=(Blk.new w (cw z8) 184).whole [Value.int .u32 1779033703,Value.int .u32 3144134277,Value.int .u32 1013904242,Value.int .u32 2773480762,Value.int .u32 1359893119,Value.int .u32 2600822924,Value.int .u32 528734635,Value.int .u32 1541459225] (by rw [cw_len,len_z8];rfl)
 refine bodyPost_ret (v:=.agg #[Value.int .u32 1779033703,Value.int .u32 3144134277,Value.int .u32 1013904242,Value.int .u32 2773480762,Value.int .u32 1359893119,Value.int .u32 2600822924,Value.int .u32 528734635,Value.int .u32 1541459225]) (results_cell_row (by rfl) _ _ w.heap.size 184 _ (0,0) _ rfl hB Tryz.underlying184 rfl Tryz.info184) rfl ⟨by rw [← st0_cells],Below.setCells _ (Nat.le_refl _) _ _ _ ((Below.refl _ _).alloc (Nat.le_refl _) _)⟩
def kcs:List Value:=cw kw
theorem len_kcs:kcs.length = 64:=rfl
theorem one_kcs:∀ v ∈ kcs,v.oneCell' = true:=cw_one _
theorem kcs_get (j:Nat) (h:j < 64):kcs[j]? = some (.int .u32 ((kw.getD j 0).toNat:Int)):=cw_get kw j h
theorem rround_any (w:World):Calls Tryz.prog 164 #[] w fun e w' => e = .returned (.agg kcs.toArray) ∧ Below w.heap.size w w':=by
 have HZ:Hid ((Tryz.prog.info? 196).map (·.size) = some kcs.length):=Tryz.info196
 go_enter Tryz.func164,Tryz.ntmps164
 go_wp2_with (first
  | (refine wpList_buildc rfl 196 _ rfl kcs.toArray (fun _ => by kernel_rfl) ?_)
  | (refine wpList_store_mid rfl 196 _ _ rfl w.heap.size 0 kcs.toArray rfl rfl ((Blk.new w (cw z64) 196).there 0 _ (by rw [List.size_toArray,len_kcs,cw_len,len_z64];omega)) (by simpa using HZ.out) (all_oneCell_toArray one_kcs) ?_))
 have hB:=(Blk.new w (cw z64) 196).whole kcs (by rw [len_kcs,cw_len,len_z64])
 refine bodyPost_ret (v:=.agg kcs.toArray) (results_cell_row (by rfl) _ _ w.heap.size 196 _ (0,0) _ rfl hB Tryz.underlying196 rfl (by simpa using HZ.out)) rfl ⟨rfl,Below.setCells _ (Nat.le_refl _) _ _ _ ((Below.refl _ _).alloc (Nat.le_refl _) _)⟩
structure Rb1 (w:World) (s:St) (ws:List (BitVec 32)) (g5:Nat) (wr:World):Prop where
 box:Blk wr w.heap.size (cw s.l) 184
 res:Blk wr (w.heap.size + 1) (cw z8) 184
 sch:Blk wr g5 (cw ws) 196
 bel:Below w.heap.size w wr
 lt5:w.heap.size + 1 < g5
theorem Rb1.start {w w1:World} {s:St} {ws:List (BitVec 32)} (hl:ws.length = 64)
 (h:Below (w.heap.size + 1 + 1) ((w.alloc (.cells (cw s.l).toArray 184)).alloc (.cells (cw z8).toArray 184)) w1) :
 Rb1 w s ws w1.heap.size ((w1.alloc (.cells (cw z64).toArray 196)).setCells w1.heap.size 0 (cw ws)):=by
 have h1:=h.size
 simp at h1
 have b0:Below w.heap.size w ((w.alloc (.cells (cw s.l).toArray 184)).alloc (.cells (cw z8).toArray 184)):=((Below.refl _ _).alloc (Nat.le_refl _) _).alloc (by simp) _
 have b1:Below w.heap.size w w1:=b0.trans (h.mono (by omega))
 refine ⟨?_,?_,?_,Below.setCells _ (by omega) _ _ _ (b1.alloc (by omega) _),by omega⟩
 · exact Blk.others _ _ _ _ ((Blk.below ((Blk.new w (cw s.l) _).alloc _) h (by omega)).alloc _) (by omega)
 · exact Blk.others _ _ _ _ ((Blk.below (Blk.new_at (by simp) (cw z8) _) h (by omega)).alloc _) (by omega)
 · exact (Blk.new w1 _ _).whole _ (by simp [cw_len,hl,len_z64])
theorem Rb1.below {w w1 w2:World} {s:St} {ws:List (BitVec 32)} {g5:Nat} (h:Rb1 w s ws g5 w1) (hb:Below w1.heap.size w1 w2):Rb1 w s ws g5 w2:=
 ⟨h.box.below hb h.box.lt,h.res.below hb h.res.lt,h.sch.below hb h.sch.lt,h.bel.trans (hb.mono h.bel.size),h.lt5⟩
structure Rb2 (w:World) (s:St) (ws:List (BitVec 32)) (g5 g6:Nat) (wr:World):Prop where
 one:Rb1 w s ws g5 wr
 kks:Blk wr g6 kcs 196
 lt6:g5 < g6
theorem Rb2.start {w w1 w2:World} {s:St} {ws:List (BitVec 32)} {g5:Nat} (h:Rb1 w s ws g5 w1) (hb:Below w1.heap.size w1 w2) :
 Rb2 w s ws g5 w2.heap.size ((w2.alloc (.cells (cw z64).toArray 196)).setCells w2.heap.size 0 kcs):=by
 have h2:=h.below hb
 have hlt:=h2.sch.lt
 refine ⟨⟨?_,?_,?_,Below.setCells _ h2.bel.size _ _ _ (h2.bel.alloc h2.bel.size _),h2.lt5⟩,(Blk.new w2 _ _).whole _ (by rw [cw_len,len_z64,len_kcs]),hlt⟩
 · exact Blk.others _ _ _ _ (h2.box.alloc _) (by have:=h2.box.lt;omega)
 · exact Blk.others _ _ _ _ (h2.res.alloc _) (by have:=h2.res.lt;omega)
 · exact Blk.others _ _ _ _ (h2.sch.alloc _) (by omega)
structure Rb3 (w:World) (s:St) (ws:List (BitVec 32)) (g5 g6 g7:Nat) (q:St) (wr:World):Prop where
 two:Rb2 w s ws g5 g6 wr
 stt:Blk wr g7 (cw q.l) 184
 lt7:g6 < g7
theorem Rb3.start {w w1:World} {s:St} {ws:List (BitVec 32)} {g5 g6:Nat} (h:Rb2 w s ws g5 g6 w1) :
 Rb3 w s ws g5 g6 w1.heap.size s ((w1.alloc (.cells (cw z8).toArray 184)).setCells w1.heap.size 0 (cw s.l)):=by
 have hlt:=h.kks.lt
 refine ⟨⟨⟨?_,?_,?_,Below.setCells _ h.one.bel.size _ _ _ (h.one.bel.alloc h.one.bel.size _),h.one.lt5⟩,?_,h.lt6⟩,(Blk.new w1 _ _).whole _ rfl,hlt⟩
 · exact Blk.others _ _ _ _ (h.one.box.alloc _) (by have:=h.one.box.lt;omega)
 · exact Blk.others _ _ _ _ (h.one.res.alloc _) (by have:=h.one.res.lt;omega)
 · exact Blk.others _ _ _ _ (h.one.sch.alloc _) (by have:=h.one.sch.lt;omega)
 · exact Blk.others _ _ _ _ (h.kks.alloc _) (by omega)
theorem Rb3.drewN {w wr:World} {s q:St} {ws:List (BitVec 32)} {g5 g6 g7:Nat} (h:Rb3 w s ws g5 g6 g7 q wr) (n:Nat):Rb3 w s ws g5 g6 g7 q (wr.drewN n):=
 ⟨⟨⟨h.two.one.box,h.two.one.res,h.two.one.sch,⟨h.two.one.bel.os,h.two.one.bel.tape,h.two.one.bel.output,h.two.one.bel.size,h.two.one.bel.block⟩,h.two.one.lt5⟩,h.two.kks,h.two.lt6⟩,h.stt,h.lt7⟩
theorem Rb3.store {w wr:World} {s q:St} {ws:List (BitVec 32)} {g5 g6 g7:Nat} (h:Rb3 w s ws g5 g6 g7 q wr) (q':St):Rb3 w s ws g5 g6 g7 q' (wr.setCells g7 0 (cw q'.l)):=by
 have h5:=h.two.one.lt5
 have h6:=h.two.lt6
 have h7:=h.lt7
 have hb:=h.two.one.bel
 refine ⟨⟨⟨?_,?_,?_,Below.setCells _ (by omega) _ _ _ hb,h5⟩,?_,h6⟩,h.stt.whole _ rfl,h7⟩
 · exact Blk.others _ _ _ _ h.two.one.box (by omega)
 · exact Blk.others _ _ _ _ h.two.one.res (by omega)
 · exact Blk.others _ _ _ _ h.two.one.sch (by omega)
 · exact Blk.others _ _ _ _ h.two.kks (by omega)
theorem Rb3.words {w wr:World} {s q:St} {ws:List (BitVec 32)} {g5 g6 g7:Nat} (h:Rb3 w s ws g5 g6 g7 q wr) :
 wr.cell? ⟨g7,0,none⟩ = some (.int .u32 (q.a.toNat:Int)) ∧ wr.cell? ⟨g7,1,none⟩ = some (.int .u32 (q.b.toNat:Int)) ∧
 wr.cell? ⟨g7,2,none⟩ = some (.int .u32 (q.c.toNat:Int)) ∧ wr.cell? ⟨g7,3,none⟩ = some (.int .u32 (q.d.toNat:Int)) ∧
 wr.cell? ⟨g7,4,none⟩ = some (.int .u32 (q.e.toNat:Int)) ∧ wr.cell? ⟨g7,5,none⟩ = some (.int .u32 (q.f.toNat:Int)) ∧
 wr.cell? ⟨g7,6,none⟩ = some (.int .u32 (q.g.toNat:Int)) ∧ wr.cell? ⟨g7,7,none⟩ = some (.int .u32 (q.h.toNat:Int)):=by
 simp only [h.stt.cell]
 exact ⟨rfl,rfl,rfl,rfl,rfl,rfl,rfl,rfl⟩
theorem rnd_cells (q:St) (y x:BitVec 32) :
 [Value.int .u32 (((q.h.toNat:Int) + ((big1 q.e).toNat:Int) + ((cho q.e q.f q.g).toNat:Int) + (y.toNat:Int) + (x.toNat:Int) + ((big0 q.a).toNat:Int) + ((maj q.a q.b q.c).toNat:Int)) % 4294967296),
  Value.int .u32 (q.a.toNat:Int),Value.int .u32 (q.b.toNat:Int),Value.int .u32 (q.c.toNat:Int),
  Value.int .u32 (((q.d.toNat:Int) + ((q.h.toNat:Int) + ((big1 q.e).toNat:Int) + ((cho q.e q.f q.g).toNat:Int) + (y.toNat:Int) + (x.toNat:Int))) % 4294967296),
  Value.int .u32 (q.e.toNat:Int),Value.int .u32 (q.f.toNat:Int),Value.int .u32 (q.g.toNat:Int)] = cw (rnd q y x).l:=by
 have e1:((q.h.toNat:Int) + ((big1 q.e).toNat:Int) + ((cho q.e q.f q.g).toNat:Int) + (y.toNat:Int) + (x.toNat:Int) + ((big0 q.a).toNat:Int) + ((maj q.a q.b q.c).toNat:Int)) % 4294967296 =
  ((q.h + big1 q.e + cho q.e q.f q.g + y + x + (big0 q.a + maj q.a q.b q.c)).toNat:Int):=by
  rw [← sum_a];omega
 have e2:((q.d.toNat:Int) + ((q.h.toNat:Int) + ((big1 q.e).toNat:Int) + ((cho q.e q.f q.g).toNat:Int) + (y.toNat:Int) + (x.toNat:Int))) % 4294967296 =
  ((q.d + (q.h + big1 q.e + cho q.e q.f q.g + y + x)).toNat:Int):=by
  rw [← sum_e];omega
 rw [e1,e2];rfl
def plusL (s q:St):Nat → List (BitVec 32)
 | 0 => s.l
 | k + 1 => (plusL s q k).set k ((plusL s q k).getD k 0 + q.l.getD k 0)
theorem len_plusL (s q:St) (k:Nat):(plusL s q k).length = 8:=by
 induction k with
 | zero => rfl
 | succ k ih => simp [plusL,ih]
theorem plusL_eq (s q:St):plusL s q 8 = (s.plus q).l:=rfl
structure Rb4 (w:World) (s q:St) (g7 k:Nat) (wr:World):Prop where
 box:Blk wr w.heap.size (cw (plusL s q k)) 184
 res:Blk wr (w.heap.size + 1) (cw z8) 184
 stt:Blk wr g7 (cw q.l) 184
 bel:Below w.heap.size w wr
 lt7:w.heap.size + 1 < g7
theorem Rb4.start {w wr:World} {s q:St} {ws:List (BitVec 32)} {g5 g6 g7:Nat} (h:Rb3 w s ws g5 g6 g7 q wr):Rb4 w s q g7 0 wr:=
 ⟨h.two.one.box,h.two.one.res,h.stt,h.two.one.bel,by have:=h.two.one.lt5;have:=h.two.lt6;have:=h.lt7;omega⟩
theorem Rb4.store {w wr:World} {s q:St} {g7 k':Nat} (h:Rb4 w s q g7 k' wr) (k:Nat) (v:BitVec 32) (hv:v = (plusL s q k').getD k 0 + q.l.getD k 0) (hk:k = k':=by rfl) :
 Rb4 w s q g7 (k' + 1) ((wr.setCell ⟨w.heap.size,k,none⟩ (.int .u32 (v.toNat:Int))).drew):=by
 subst hk
 subst hv
 have h7:=h.lt7
 refine ⟨?_,(h.res.other _ _ (by simp)).drew,(h.stt.other _ _ (by simp;omega)).drew,(h.bel.setCell (by simp) _).drew,h7⟩
 have:=(h.box.set k (.int .u32 (((plusL s q k).getD k 0 + q.l.getD k 0).toNat:Int))).drew
 rw [cw_set] at this
 exact this
theorem rblock_any (s:St) (b:List (BitVec 8)) (v:Value) (w:World) (hb:b.length = 64) (hR:Reads w v b) :
 Calls Tryz.prog 152 #[.agg (cw s.l).toArray,v] w fun e w' => e = .returned (.agg (cw (compress s b).l).toArray) ∧ Below w.heap.size w w':=by
 obtain ⟨r,HR⟩:∃ r,Hid (compress s b = r):=⟨_,rfl⟩
 rw [HR.out]
 have HRd:Hid (Reads w v b):=hR
 have HN:Hid (b.length = 64):=hb
 clear hR hb
 go_enter Tryz.func152,Tryz.ntmps152
 go_wp2_with fail
 generalize h0:Obj.cells #[.int .u32 0,_,_,_,_,_,_,_] 184 = o8
 have ho:o8 = Obj.cells (cw z8).toArray 184:=h0.symm
 clear h0
 subst ho
 refine (rwords_any b v _ HN.out (HRd.out.below (((Below.refl _ _).alloc (Nat.le_refl _) _).alloc (by simp) _))).mono ?_
 rintro e w1 ⟨rfl,hb1⟩
 have h2:=hb1.mono (B':=w.heap.size + 1 + 1) (by simp)
 clear hb1 HRd HN
 have HL:Hid ((sched2 b 48).length = 64):=len_sched2 b 48
 generalize hws:sched2 b 48 = ws at *
 have HW:Hid (sched2 b 48 = ws):=hws
 clear hws
 have HZ:Hid ((Tryz.prog.info? 196).map (·.size) = some (cw ws).length):=by rw [cw_len,HL.out];exact Tryz.info196
 go_wp2_with (refine wpList_store_mid rfl 196 _ _ rfl _ 0 (cw ws).toArray rfl rfl ?_ (by simpa using HZ.out) (all_oneCell_toArray (cw_one _)) ?_;exact Blk.there (Blk.new_at rfl (cw z64) _) _ _ (by simp [cw_len,HL.out,len_z64]);refine Hid.out ?_)
 generalize h0:Obj.cells _ 196 = o64
 have ho:o64 = Obj.cells (cw z64).toArray 196:=h0.symm
 clear h0
 subst ho
 have hI:=Rb1.start (ws:=ws) HL.out h2
 clear h2 HZ
 generalize World.setCells _ _ _ _ = w2 at *
 generalize w1.heap.size = g5 at *
 unfold Hid
 as_aux_lemma =>
  go_wp2_with fail
  refine (rround_any _).mono ?_
  rintro e w3 ⟨rfl,hb3⟩
  have HK:Hid ((Tryz.prog.info? 196).map (·.size) = some kcs.length):=Tryz.info196
  go_wp2_with (refine wpList_store_mid rfl 196 _ _ rfl _ 0 kcs.toArray rfl rfl ?_ (by simpa using HK.out) (all_oneCell_toArray one_kcs) ?_;exact Blk.there (Blk.new_at rfl (cw z64) _) _ _ (by rw [List.size_toArray,len_kcs,cw_len,len_z64];omega);refine Hid.out ?_)
  generalize h0:Obj.cells _ 196 = o64
  have ho:o64 = Obj.cells (cw z64).toArray 196:=h0.symm
  clear h0
  subst ho
  have hJ:=Rb2.start hI hb3
  clear hI hb3 HK
  generalize World.setCells _ _ _ _ = w4 at *
  generalize w3.heap.size = g6 at *
  unfold Hid
  as_aux_lemma =>
   go_wp2_with (first
    | (refine wpList_load_mid rfl 184 _ rfl w.heap.size 0 rfl (cw s.l) _ hJ.one.box.range Tryz.underlying184 rfl Tryz.info184 ?_)
    | (refine wpList_store_mid rfl 184 _ _ rfl _ 0 (cw s.l).toArray rfl rfl ?_ Tryz.info184 (all_oneCell_toArray (cw_one _)) ?_;exact Blk.there (Blk.new_at rfl (cw z8) _) _ _ (Nat.le_refl 8);refine Hid.out ?_))
   generalize h0:Obj.cells #[.int .u32 0,_,_,_,_,_,_,_] 184 = o8;have ho:o8 = Obj.cells (cw z8).toArray 184:=h0.symm;clear h0;subst ho;have hI:=Rb3.start hJ;clear hJ
   generalize World.setCells _ _ _ _ = w5 at *
   generalize w4.heap.size = g7 at *
   unfold Hid
   as_aux_lemma =>
    go_wp2
    go_loopw [8] (fun i wr => ∃ k:Nat,k ≤ 64 ∧ i = .int .i64 k ∧ Rb3 w s ws g5 g6 g7 (rounds ws s k) wr) (fun i _ => 64 - (intOf i).toNat)
    case atStart => exact ⟨0,by omega,rfl,hI⟩
    case round =>
     clear hI;obtain ⟨k,hk,rfl,hI⟩:=hrel
     by_cases hlt:k < 64
     · obtain ⟨x,y,HXY,HS⟩:∃ x y:BitVec 32,Hid (∀ wx q,Rb3 w s ws g5 g6 g7 q wx → wx.cell? ⟨g5,k,none⟩ = some (.int .u32 (x.toNat:Int)) ∧ wx.cell? ⟨g6,k,none⟩ = some (.int .u32 (y.toNat:Int))) ∧ Hid (rounds ws s (k + 1) = rnd (rounds ws s k) y x):=
        ⟨ws.getD k 0,kw.getD k 0,(fun wx q hx => ⟨by rw [hx.two.one.sch.cell,cw_get ws k (by have:=HL.out;omega)],by rw [hx.two.kks.cell,kcs_get k hlt]⟩),rounds_succ' ws s k⟩
       clear HL HW HR
       generalize rounds ws s k = q at *
       obtain ⟨c0,c1,c2,c3,c4,c5,c6,c7⟩:=hI.words;go_wp2
       go_quiet ((go_at_call 165;exact Calls.quiet_of_same (turn_any _ _ _ (by omega) (by omega))))
       have hJ:=hI.drewN nq;clear hI c0 c1 c2 c3 c4 c5 c6 c7
       generalize wr.drewN nq = wq at *
       obtain ⟨c0,c1,c2,c3,c4,c5,c6,c7⟩:=hJ.words;obtain ⟨cx,cy⟩:=HXY.out wq q hJ;go_wp2
       go_quiet (fail)
       have hI:=hJ.drewN nq;clear hJ c0 c1 c2 c3 c4 c5 c6 c7 cx cy
       generalize wq.drewN nq = wp at *
       obtain ⟨c0,c1,c2,c3,c4,c5,c6,c7⟩:=hI.words;go_wp2
       go_quiet ((go_at_call 165;exact Calls.quiet_of_same (turn_any _ _ _ (by omega) (by omega))))
       have hJ:=hI.drewN nq;clear hI c0 c1 c2 c3 c4 c5 c6 c7
       generalize wp.drewN nq = wq at *
       obtain ⟨c0,c1,c2,c3,c4,c5,c6,c7⟩:=hJ.words
       go_wp2_with (refine wpList_build8 rfl 184 _ _ _ _ _ _ _ _ rfl _ _ _ _ _ _ _ _ rfl rfl rfl rfl rfl rfl rfl rfl (built8 _ _ _ _ _ _ _ _) ?_;refine Hid.out ?_)
       unfold Hid;simp only [big1_eq,cho_ref,big0_eq,maj_eq];refine wpList_store8 rfl 184 (.tmp 7) (.tmp 109) rfl g7 _ _ _ _ _ _ _ _ rfl rfl (hJ.stt.there 0 8 (Nat.le_refl 8)) Tryz.info184 ?_;have hK:=hJ.store (rnd q y x);rw [← rnd_cells] at hK;clear hJ c0 c1 c2 c3 c4 c5 c6 c7
       generalize World.setCells _ _ _ _ = wz at *
       simp only [Act.put];go_wp2;go_roundw
       case rel => exact ⟨k + 1,by omega,by go_num,by rw [HS.out];exact hK⟩
       case measure => simp [intOf];omega
     · have hk64:k = 64:=by omega
       subst hk64;have HC:Hid (r = s.plus (rounds ws s 64)):=by have:=HR.out;rw [compress_eq,HW.out] at this;exact this.symm
       clear HW HR
       generalize rounds ws s 64 = q at *
       as_aux_lemma =>
        go_wp2
        go_loopw [14] (fun i wr => ∃ k:Nat,k ≤ 8 ∧ i = .int .i64 k ∧ Rb4 w s q g7 k wr) (fun i _ => 8 - (intOf i).toNat)
        case atStart => exact ⟨0,by omega,rfl,Rb4.start hI⟩
        case round =>
         clear hI hlt hk;obtain ⟨k,hk,rfl,hI⟩:=hrel
         by_cases hlt:k < 8
         · obtain ⟨x,HX⟩:=sqn ((plusL s q k).getD k 0)
           obtain ⟨y,HY⟩:=sqn (q.l.getD k 0);have cx:wr.cell? ⟨w.heap.size,k,none⟩ = some (.int .u32 (x.toNat:Int)):=by rw [hI.box.cell,cw_get _ k (by rw [len_plusL];omega),HX.out]
           have cy:wr.cell? ⟨g7,k,none⟩ = some (.int .u32 (y.toNat:Int)):=by rw [hI.stt.cell,cw_get q.l k hlt,HY.out]
           have fx:wr.frozen? ⟨w.heap.size,k,none⟩ = false:=hI.box.frozen _;go_wp2
           go_region
           go_wp2;go_roundw
           case rel =>
            refine ⟨k + 1,by omega,by go_num,?_⟩
            have:=hI.store k (x + y) (by rw [HX.out,HY.out])
            rw [← u32_add] at this;exact this
           case measure => simp [intOf];omega
         · have hk8:k = 8:=by omega
           subst hk8;have HB:Hid (Blk wr w.heap.size (cw r.l) 184):=by show Blk _ _ _ _;rw [HC.out,← plusL_eq];exact hI.box
           have HRs:Hid (Blk wr (w.heap.size + 1) (cw z8) 184):=hI.res;have hbel:=hI.bel;clear hI HC
           go_wp2_with (first
            | (refine wpList_load_mid rfl 184 _ rfl w.heap.size 0 rfl (cw r.l) _ HB.out.range Tryz.underlying184 rfl Tryz.info184 ?_)
            | (refine wpList_store_mid rfl 184 _ _ rfl (w.heap.size + 1) 0 (cw r.l).toArray rfl rfl (HRs.out.there 0 8 (Nat.le_refl 8)) Tryz.info184 (all_oneCell_toArray (cw_one _)) ?_))
           have hB:=HRs.out.whole (cw r.l) rfl;refine bodyPost_ret (v:=.agg (cw r.l).toArray) (results_cell_row (by rfl) _ _ (w.heap.size + 1) 184 _ (0,0) _ rfl hB Tryz.underlying184 rfl Tryz.info184) rfl ⟨rfl,Below.setCells _ (by omega) _ _ _ hbel⟩
structure RsInv (w:World) (g4:Nat) (m:List (BitVec 8)) (va:Value) (q:St) (wr:World):Prop where
 res:Blk wr w.heap.size (cb zb32) 155
 hh:Blk wr g4 (cw q.l) 184
 rd:Bytes wr g4 va m
 bel:Below w.heap.size w wr
 lt:w.heap.size < g4
structure OsInv (w:World) (g4 g6:Nat) (q:St) (k:Nat) (wr:World):Prop where
 res:Blk wr w.heap.size (cb zb32) 155
 hh:Blk wr g4 (cw q.l) 184
 out:Blk wr g6 (cb (outB q.l k)) 155
 bel:Below w.heap.size w wr
 lt4:w.heap.size < g4
 lt6:g4 < g6
theorem OsInv.store {w wr:World} {g4 g6:Nat} {q:St} {k:Nat} (h:OsInv w g4 g6 q k wr) (v:Int) (hv:v = (((q.l.getD (k / 4) 0 >>> (24 - 8 * (k % 4))).setWidth 8).toNat:Int)) :
 OsInv w g4 g6 q (k + 1) (wr.setCell ⟨g6,k,none⟩ (.int .u8 v)):=by
 subst hv
 have h4:=h.lt4
 have h6:=h.lt6
 exact ⟨h.res.other _ _ (by simp;omega),h.hh.other _ _ (by simp;omega),by have:=h.out.set k (.int .u8 (((q.l.getD (k / 4) 0 >>> (24 - 8 * (k % 4))).setWidth 8).toNat:Int));rw [cb_set] at this;exact this,h.bel.setCell (by simp;omega) _,h4,h6⟩
theorem wpStill_val {P:Program} {ops:Array Oper} {w:World} {Q:Act → Prop} {o:Oper} {rest:List Oper} {a:Act} (hgd:o.guard = none) (v:Value) (hr:(execOp a.eval o).run P w = .ok (.value v) w)
 (h:wpStill P ops w Q rest (a.put o.dst v)):wpStill P ops w Q (o :: rest) a:=by
 have hw:Region.wanted o (yielded ops a.tmps) = true:=by simp [Region.wanted,hgd]
 rw [wpStill,if_pos hw]
 unfold Oper.still
 rw [hr]
 exact ⟨rfl,h⟩
theorem slice_mid (ga off N cap k:Nat) (h1:64 * k + 64 ≤ N) (h2:N ≤ cap) (w:World) :
 (Instr.sliceAt 23 (.slice (some ⟨ga,off,none⟩) N cap) (some (.int .i64 (64 * (k:Int)))) (some (.int .i64 (64 * (k:Int) + 64))) none).run Tryz.prog w = .ok (.slice (some ⟨ga,off + 64 * k,none⟩) 64 (cap - 64 * k)) w:=by
 have e1:(64 * (k:Int) + 64).toNat = 64 * k + 64:=by omega
 have e2:(64 * (k:Int)).toNat = 64 * k:=by omega
 have hs:(sizeOf 5).run Tryz.prog w = .ok 1 w:=by kernel_rfl
 rw [run_sliceAt_slice w 23 _ _ _ _ (by kernel_rfl),run_slice_lh w 23 _ _ _ (by kernel_rfl) .i64 .i64 _ _ (by omega) (by omega) (by omega)]
 rw [show Tryz.prog.elem 23 = 5 from by kernel_rfl,hs]
 simp only [Result.andThen_ok,sliced,e1,e2,Nat.mul_one]
 rw [if_neg (by omega)]
 simp [Addr.add_mid]
theorem reads_mid {w:World} {g ga off N cap k:Nat} {m:List (BitVec 8)} (h:Bytes w g (.slice (some ⟨ga,off,none⟩) N cap) m) (hN:N = m.length) (hk:64 * k + 64 ≤ N) :
 Reads w (.slice (some ⟨ga,off + 64 * k,none⟩) 64 (cap - 64 * k)) ((m.drop (64 * k)).take 64):=by
 obtain ⟨ad,cap',hv,hcap,hx⟩:=h
 simp only [Value.slice.injEq] at hv
 obtain ⟨rfl,_,rfl⟩:=hv
 have hl:((m.drop (64 * k)).take 64).length = 64:=by simp;omega
 refine ⟨some ⟨ga,off + 64 * k,none⟩,cap - 64 * k,by rw [hl],by rw [hl];omega,(fun h => by cases h),fun _ => ⟨ga,off + 64 * k,rfl,fun j hj => ?_⟩⟩
 rw [hl] at hj
 obtain ⟨b',off',e1,e2,e3⟩:=hx (by omega)
 simp only [Option.some.injEq,Addr.mk.injEq,and_true] at e1
 obtain ⟨rfl,rfl⟩:=e1
 have:=e3 (64 * k + j) (by omega)
 rw [show off + 64 * k + j = off + (64 * k + j) by omega,this]
 congr 3
 simp [List.getElem?_take_of_lt hj]
theorem rsum_big (v:Value) (bs:List (BitVec 8)) (w:World) (hR:Reads w v bs) (hl:bs.length < 140737488355000) :
 Calls Tryz.prog 132 #[v] w fun e w' => e = .returned (.agg (cb (dig bs)).toArray) ∧ Below w.heap.size w w':=by
 have HR:Hid (Reads w v bs):=hR
 obtain ⟨ad,cap,hv,_,_,_⟩:=hR
 obtain ⟨n,HNN⟩:=sqn (bs.length)
 rw [← HNN.out] at hv hl
 subst hv
 go_enter Tryz.func132,Tryz.ntmps132
 go_wp2_with (at_builtin;refine wpList_appendB rfl (.tmp 8) (.tmp 9) rfl (w.heap.size + 1) _ [] rfl (OwnB.nil _ _) _ bs rfl (HR.out.below ((Below.refl _ _).alloc (Nat.le_refl _) _)) (by rw [← HNN.out];simp;omega) (by simp) ?_;intro v1 w1 hown1 hb1 _;refine Hid.out ?_)
 generalize h0:Obj.cells _ 155 = o32 at *
 have ho:o32 = Obj.cells (cb zb32).toArray 155:=h0.symm
 clear h0
 subst ho
 have HB1:Hid (Below w.heap.size w w1):=((Below.refl _ _).alloc (Nat.le_refl _) _).trans (hb1.mono (by omega))
 have HR1:Hid (Blk w1 w.heap.size (cb zb32) 155):=(Blk.new w (cb zb32) 155).below hb1 (by omega)
 have HO1:Hid (OwnB w1 (w.heap.size + 1) v1 bs):=by show OwnB _ _ _ _;simpa using hown1
 have hs1:w.heap.size + 1 ≤ w1.heap.size:=by have:=hb1.size;simp at this;omega
 clear hown1 hb1 HR
 unfold Hid
 go_wp2_with fail
 refine (rpad_any n _).mono ?_
 rintro e w2 ⟨v2,rfl,hr2,hb2⟩
 have hp9:(pad n).length < 80:=by rw [len_pad];unfold padN;omega
 go_wp2_with (at_builtin;refine wpList_appendB rfl (.tmp 11) (.tmp 15) rfl (w.heap.size + 1) _ bs rfl (HO1.out.below hb2 (Nat.le_refl _)) _ (pad n) rfl hr2 (by rw [← HNN.out];omega) (by have:=hb2.size;omega) ?_;intro v3 w3 hown3 hb3 _;refine Hid.out ?_)
 have HB3:Hid (Below w.heap.size w w3):=HB1.out.trans ((hb2.mono HB1.out.size).trans (hb3.mono (by omega)))
 have HR3:Hid (Blk w3 w.heap.size (cb zb32) 155):=(HR1.out.below hb2 HR1.out.lt).below hb3 (by omega)
 have HO3:Hid (OwnB w3 (w.heap.size + 1) v3 (bs ++ pad n)):=hown3
 have hs3:w.heap.size + 1 ≤ w3.heap.size:=by have:=hb2.size;have:=hb3.size;omega
 clear hown3 hb3 hb2 hr2 HO1 HR1 HB1 hs1
 unfold Hid
 go_wp2_with fail
 refine (rfirst_any _).mono ?_
 rintro e w4 ⟨rfl,hb4⟩
 go_wp2_with (refine wpList_store_mid rfl 184 _ _ rfl _ 0 (cw st0.l).toArray rfl rfl ?_ Tryz.info184 (all_oneCell_toArray (cw_one _)) ?_;exact Blk.there (Blk.new_at rfl (cw z8) _) _ _ (Nat.le_refl 8);refine Hid.out ?_)
 generalize h0:Obj.cells #[.int .u32 0,_,_,_,_,_,_,_] 184 = o8
 have ho:o8 = Obj.cells (cw z8).toArray 184:=h0.symm
 clear h0
 subst ho
 have hI:RsInv w w4.heap.size (bs ++ pad n) v3 st0 ((w4.alloc (.cells (cw z8).toArray 184)).setCells w4.heap.size 0 (cw st0.l)):=by
  have hs4:=hb4.size
  have b5:Below w4.heap.size w4 ((w4.alloc (.cells (cw z8).toArray 184)).setCells w4.heap.size 0 (cw st0.l)):=Below.setCells _ (Nat.le_refl _) _ _ _ ((Below.refl _ _).alloc (Nat.le_refl _) _)
  have hR4:=HR3.out.below hb4 HR3.out.lt
  refine ⟨hR4.below b5 hR4.lt,(Blk.new w4 _ _).whole _ rfl,?_,HB3.out.trans ((hb4.mono HB3.out.size).trans (b5.mono (by omega))),by omega⟩
  exact ((HO3.out.reads.below hb4).bytes (Nat.le_refl _)).below b5
 clear HB3 HR3 HO3 hs3 hb4
 generalize World.setCells _ _ _ _ = w5 at *
 generalize w4.heap.size = g4 at *
 unfold Hid
 as_aux_lemma =>
  have HD:Hid (∀ q,q = blocks ((bs ++ pad n).length / 64) st0 (bs ++ pad n) → outB q.l 32 = dig bs):=by
   intro q hq;rw [dig,← HNN.out,← hq]
  have HM:Hid ((bs ++ pad n).length % 64 = 0):=by
   show _ = _;rw [List.length_append,len_pad,← HNN.out];unfold padN;omega
  have HLm:Hid ((bs ++ pad n).length < 140737488360000 ∧ 0 < (bs ++ pad n).length):=by
   show _ ∧ _;rw [List.length_append,← HNN.out,len_pad] at *;omega
  generalize bs ++ pad n = m at *
  obtain ⟨N,HNm⟩:=sqn (m.length)
  obtain ⟨ad3,cap3,hv3,hcap3,hpos3⟩:=hI.rd
  obtain ⟨ga,offa,rfl,_,_⟩:=hpos3 HLm.out.2
  rw [← HNm.out] at hv3 hcap3
  subst hv3
  have hN:=HLm.out
  rw [← HNm.out] at hN
  have hN0:N % 64 = 0:=by rw [HNm.out];exact HM.out
  clear hpos3 HLm HM hp9 hl
  go_wp2
  go_loopw [5] (fun i wr => ∃ k:Nat,64 * k ≤ N ∧ i = .int .i64 (64 * (k:Int)) ∧ RsInv w g4 m (.slice (some ⟨ga,offa,none⟩) N cap3) (blocks k st0 m) wr) (fun i _ => N - (intOf i).toNat)
  case atStart => exact ⟨0,by omega,rfl,hI⟩
  case round =>
   clear hI;obtain ⟨k,hk,rfl,hI⟩:=hrel
   by_cases hlt:64 * k + 64 ≤ N
   · have HBl:Hid (blocks (k + 1) st0 m = compress (blocks k st0 m) ((m.drop (64 * k)).take 64)):=blocks_last k st0 m
     generalize blocks k st0 m = q at *
     have HRd:Hid (∀ wx,Bytes wx g4 (.slice (some ⟨ga,offa,none⟩) N cap3) m → Reads wx (.slice (some ⟨ga,offa + 64 * k,none⟩) 64 (cap3 - 64 * k)) ((m.drop (64 * k)).take 64)):=fun wx hx => reads_mid hx HNm.out hlt
     have H64:Hid (((m.drop (64 * k)).take 64).length = 64):=by show _ = _;have:=HNm.out;simp;omega
     have hsl:=slice_mid ga offa N cap3 k (by omega) (by omega)
     have hwr:IntKind.i64.wrap (64 * (k:Int) + 64) = 64 * (k:Int) + 64:=by rw [IntKind.wrap_i64];omega
     generalize (m.drop (64 * k)).take 64 = bk at *
     go_wp2;refine wp_region_still_tail 6 (by kernel_rfl) (by kernel_rfl) ?_
     simp only [List.take_succ_cons,List.take_zero,List.drop_succ_cons,List.drop_zero];refine wpStill_load rfl 184 _ rfl g4 0 rfl (cw q.l) _ hI.hh.drew.range Tryz.underlying184 rfl Tryz.info184 ?_;simp only [Act.put,sq];refine wpStill_val rfl (.slice (some ⟨ga,offa,none⟩) N cap3) (by simp [go_sem]) ?_
     simp only [Act.put,sq];refine wpStill_val rfl (.int .i64 (64 * (k:Int))) (by simp [go_sem]) ?_
     simp only [Act.put,sq];refine wpStill_val rfl (.int .i64 (64 * (k:Int))) (by simp [go_sem]) ?_
     simp only [Act.put,sq];refine wpStill_val rfl (.int .i64 (64 * (k:Int) + 64)) (by simp [go_sem,hwr]) ?_
     simp only [Act.put,sq];refine wpStill_val rfl (.slice (some ⟨ga,offa + 64 * k,none⟩) 64 (cap3 - 64 * k)) (by simp [execOp,Act.eval,hsl]) ?_
     simp only [Act.put,sq];refine wpStill_nil ?_;clear hsl hwr
     go_wp2_with fail
     refine (rblock_any q bk _ _ H64.out (HRd.out _ (by exact hI.rd))).mono ?_
     rintro e w6 ⟨rfl,hb6⟩;have hb6':Below wr.heap.size wr w6:=⟨hb6.os,hb6.tape,hb6.output,hb6.size,hb6.block⟩;have hh6:=hI.hh.below hb6' hI.hh.lt
     have hK:RsInv w g4 m (.slice (some ⟨ga,offa,none⟩) N cap3) (compress q bk) (w6.setCells g4 0 (cw (compress q bk).l)):=by
      have hlt4:=hI.lt;exact ⟨Blk.others _ _ _ _ (hI.res.below hb6' hI.res.lt) (by omega),hh6.whole _ ((len_l _).trans (len_l _).symm),(hI.rd.below hb6').only (Only.setCells _ _ _ (Only.refl _ _)),Below.setCells _ (by omega) _ _ _ (hI.bel.trans (hb6'.mono hI.bel.size)),hlt4⟩
     generalize compress q bk = q' at *
     go_wp2_with (refine wpList_store_mid rfl 184 _ _ rfl g4 0 (cw q'.l).toArray rfl rfl (hh6.there 0 8 (Nat.le_refl 8)) Tryz.info184 (all_oneCell_toArray (cw_one _)) ?_;refine Hid.out ?_)
     clear hI hh6 hb6 hb6'
     generalize World.setCells _ _ _ _ = w7 at *
     unfold Hid;go_wp2;go_roundw
     case rel => exact ⟨k + 1,by omega,by go_num,by rw [HBl.out];exact hK⟩
     case measure => simp [intOf];omega
   · have hkN:N = 64 * k:=by omega
     have HQ:Hid (outB (blocks k st0 m).l 32 = dig bs):=HD.out _ (by rw [← HNm.out,hkN];congr 1;omega)
     clear HD HNm HNN;subst hkN
     generalize blocks k st0 m = q at *
     have hJ:OsInv w g4 wr.heap.size q 0 (wr.alloc (.cells (cb zb32).toArray 155)):=
      ⟨hI.res.alloc _,hI.hh.alloc _,Blk.new wr (cb zb32) _,hI.bel.alloc hI.bel.size _,hI.lt,hI.hh.lt⟩
     have hwr:IntKind.i64.wrap (64 * (k:Int) + 64) = 64 * (k:Int) + 64:=by rw [IntKind.wrap_i64];omega
     have hN1:¬ (64 * (k:Int) + 64 ≤ ((64 * k:Nat):Int)):=by omega
     have hN2:¬ (64 * (k:Int) + 64 ≤ 64 * (k:Int)):=by omega
     clear hI hN0 hlt hk hN hcap3
     as_aux_lemma =>
      go_wp2
      generalize h0:Obj.cells _ 155 = o32;have ho:o32 = Obj.cells (cb zb32).toArray 155:=h0.symm;clear h0;subst ho;clear hN1 hN2 hwr
      generalize World.alloc wr _ = w8 at *
      generalize wr.heap.size = g6 at *
      go_loopw [7] (fun i wx => ∃ j:Nat,j ≤ 32 ∧ i = .int .i64 j ∧ OsInv w g4 g6 q j wx) (fun i _ => 32 - (intOf i).toNat)
      case atStart => exact ⟨0,by omega,rfl,hJ⟩
      case round =>
       clear hJ;obtain ⟨j,hj,rfl,hI⟩:=hrel
       by_cases hlj:j < 32
       · obtain ⟨x,HX⟩:=sqn (q.l.getD (j / 4) 0)
         have cx:wr.cell? ⟨g4,j / 4,none⟩ = some (.int .u32 (x.toNat:Int)):=by rw [hI.hh.cell,cw_get q.l _ (show j / 4 < 8 by omega),HX.out]
         obtain ⟨o,cT⟩:∃ o,wr.cell? ⟨g6,j,none⟩ = some o:=⟨_,by rw [hI.out.cell,cb_get _ _ (by rw [len_outB];omega)]⟩
         have fT:wr.frozen? ⟨g6,j,none⟩ = false:=hI.out.frozen _;obtain ⟨d,s,hd,hs,hjd⟩:∃ d s,d < 8 ∧ s < 4 ∧ j = 4 * d + s:=⟨j / 4,j % 4,by omega,by omega,by omega⟩
         have hj4:j / 4 = d:=by omega
         have e1:(j:Int).tdiv 4 = (d:Int):=by rw [Int.tdiv_eq_ediv_of_nonneg (by omega)];omega
         have e2:(j:Int).tmod 4 = (s:Int):=by rw [Int.tmod_eq_emod_of_nonneg (by omega)];omega
         have e3:IntKind.i64.wrap (d:Int) = (d:Int):=by rw [IntKind.wrap_i64];omega
         have e4:IntKind.i64.wrap (8 * (s:Int)) = 8 * (s:Int):=by rw [IntKind.wrap_i64];omega
         have e5:IntKind.i64.wrap (24 - 8 * (s:Int)) = 24 - 8 * (s:Int):=by rw [IntKind.wrap_i64];omega
         have e6:IntKind.u64.wrap (24 - 8 * (s:Int)) = 24 - 8 * (s:Int):=by rw [IntKind.wrap_u64];omega
         have e7:(24 - 8 * (s:Int)).toNat = 24 - 8 * s:=by omega
         rw [hj4] at cx;have HJ:Hid (j = 4 * d + s ∧ s < 4 ∧ d < 8):=⟨hjd,hs,hd⟩;have HI:Hid (OsInv w g4 g6 q j wr):=hI;have HX':Hid (x = q.l.getD d 0):=by rw [← hj4];exact HX
         clear hI hjd hj4;clear HX HQ
         go_wp2_with fail
         refine ⟨⟨j + 1,by omega,by go_num,?_⟩,by simp [intOf];omega⟩
         refine HI.out.store _ ?_;have hh:=HJ.out;rw [show j / 4 = d by omega,show j % 4 = s by omega,← HX'.out,shr_byte]
       · have hj8:j = 32:=by omega
         subst hj8;obtain ⟨cs,HC⟩:=sqn (cb (outB q.l 32));have HO:Hid (Blk wr g6 cs 155):=by rw [HC.out];exact hI.out
         have HL:Hid (cs.length = 32):=by show _ = _;rw [HC.out,cb_len,len_outB]
         have HZ:Hid ((Tryz.prog.info? 155).map (·.size) = some cs.length):=by show _ = _;rw [HL.out];exact Tryz.info155
         have H1:Hid (∀ v ∈ cs,v.oneCell' = true):=by show ∀ _,_;rw [HC.out];exact cb_one _
         have HR:Hid (Blk wr w.heap.size (cb zb32) 155):=hI.res;have hbel:=hI.bel;clear hI
         go_wp2_with (first
          | (refine wpList_load_mid rfl 155 _ rfl g6 0 rfl cs _ HO.out.range Tryz.underlying155 rfl HZ.out ?_)
          | (refine wpList_store_mid rfl 155 _ _ rfl w.heap.size 0 cs.toArray rfl rfl (HR.out.there 0 _ (by rw [List.size_toArray,HL.out,cb_len,len_zb32];omega)) (by simpa using HZ.out) (all_oneCell_toArray H1.out) ?_))
         have hB:=HR.out.whole cs (by rw [HL.out,cb_len,len_zb32])
         refine bodyPost_ret (v:=.agg cs.toArray) (results_cell_row (by rfl) _ _ w.heap.size 155 _ (0,0) _ rfl hB Tryz.underlying155 rfl (by simpa using HZ.out)) rfl ⟨by rw [HC.out,HQ.out],Below.setCells _ (Nat.le_refl _) _ _ _ hbel⟩
theorem make_n (kd:IntKind) (k:Nat) (hk:k < 281474976710600) (w:World):(Instr.makeSlice 23 (.int kd (k:Int)) (.int kd (k:Int))).run Tryz.prog w =
 .ok (.slice (some ⟨w.heap.size,0,none⟩) k k) (w.alloc (.cells (cb (List.replicate k 0)).toArray 5)):=by
 obtain ⟨i0,hi,hz0,hz1,hz2⟩:=info_parts Tryz.infob
 rw [run_make (P:=Tryz.prog) w 23 5 i0 _ Tryz.underlying23 hi hz0 kd kd _ _ (by omega) (by omega) (by rw [hz2];omega) (by omega)]
 rw [Int.toNat_natCast,hz1,Nat.mul_one]
 congr 3
 simp [madeCells,cb,Value.cells,Nat.mod_one]
 apply Array.ext
 · simp
 · intro j h1 h2;simp
theorem Blk.reads {w:World} {g:Nat} {bs:List (BitVec 8)} {t:TypeId} (h:Blk w g (cb bs) t) {n c:Nat} (hn:n = bs.length) (hc:bs.length ≤ c):Reads w (.slice (some ⟨g,0,none⟩) n c) bs:=by
 subst hn
 exact ⟨_,_,rfl,hc,(fun h => by cases h),fun _ => ⟨g,0,rfl,fun j hj => by rw [h.cell,Nat.zero_add,cb_get _ j hj]⟩⟩
def ReadsL (w:World) (v:Value) (ls:List (List (BitVec 8))):Prop:=
 ∃ ad cap,v = .slice ad ls.length cap ∧ ls.length ≤ cap ∧ (ad = none → cap = 0) ∧ (0 < ls.length → ∃ b off,ad = some ⟨b,off,none⟩ ∧ ∀ j,j < ls.length → ∃ vj,w.cell? ⟨b,off + j,none⟩ = some vj ∧ Reads w vj (ls.getD j []))
theorem ReadsL.below {w w':World} {v:Value} {ls:List (List (BitVec 8))} (h:ReadsL w v ls) (hb:Below w.heap.size w w'):ReadsL w' v ls:=by
 obtain ⟨ad,cap,hv,hc,hn,hx⟩:=h
 refine ⟨ad,cap,hv,hc,hn,fun hp => ?_⟩
 obtain ⟨b,off,h1,h2⟩:=hx hp
 refine ⟨b,off,h1,fun j hj => ?_⟩
 obtain ⟨vj,h3,h4⟩:=h2 j hj
 exact ⟨vj,by rw [hb.cell (p:=⟨b,off + j,none⟩) (block_lt_of_cell h3)];exact h3,h4.below hb⟩
theorem flat_take (ls:List (List (BitVec 8))) (k:Nat) (h:k < ls.length):(ls.take (k + 1)).flatten = (ls.take k).flatten ++ ls.getD k []:=by
 rw [List.take_add_one,List.getElem?_eq_getElem h,List.flatten_append]
 simp [h]
theorem flat_le (ls:List (List (BitVec 8))) (k:Nat):(ls.take k).flatten.length ≤ ls.flatten.length:=by
 have:=congrArg (fun l => (List.flatten l).length) (List.take_append_drop k ls)
 simp only [List.flatten_append,List.length_append] at this
 omega
theorem rjoin_any (v:Value) (ls:List (List (BitVec 8))) (w:World) (hR:ReadsL w v ls) (hl:ls.flatten.length ≤ 140737488355328) (hn:ls.length < 4611686018427387904) :
 Calls Tryz.prog 74 #[v] w fun e w' => ∃ v',e = .returned v' ∧ Reads w' v' ls.flatten ∧ Below w.heap.size w w':=by
 have HR:Hid (ReadsL w v ls):=hR
 obtain ⟨ad,cap,hv,hcap,_,_⟩:=hR
 obtain ⟨n,HNN⟩:=sqn (ls.length)
 rw [← HNN.out] at hv hcap hn
 subst hv
 go_enter Tryz.func74,Tryz.ntmps74
 go_wp2
 go_loopw [3,4] (fun u i wr => ∃ k:Nat,k ≤ n ∧ i = .int .i64 k ∧ RpInv w (ls.take k).flatten u wr) (fun _ i _ => n - (intOf i).toNat)
 case atStart => exact ⟨0,by omega,rfl,OwnB.nil _ _,Below.refl _ _⟩
 case round =>
  obtain ⟨k,hk,rfl,hI⟩:=hrel
  have HI:Hid (RpInv w (ls.take k).flatten u3 wr):=hI
  by_cases hlt:k < n
  · obtain ⟨ad',cap',hv',_,_,hx⟩:=HR.out.below hI.bel
    rw [← HNN.out] at hv' hx;simp only [Value.slice.injEq,true_and] at hv';obtain ⟨rfl,rfl⟩:=hv';obtain ⟨b,off,rfl,hx2⟩:=hx (by omega)
    obtain ⟨vj,cj,hj⟩:=hx2 k hlt;have HJ:Hid (Reads wr vj (ls.getD k [])):=hj;have HF:Hid ((ls.take (k + 1)).flatten = (ls.take k).flatten ++ ls.getD k []):=flat_take ls k (by rw [← HNN.out];exact hlt)
    have HL:Hid ((ls.take k).flatten.length + (ls.getD k []).length ≤ 140737488355328):=by
     have h1:=flat_le ls (k + 1);rw [HF.out,List.length_append] at h1;exact Nat.le_trans h1 hl
    clear hx hx2 hj hI
    go_wp2_with (at_builtin;refine wpList_appendB rfl (.tmp 11) (.tmp 15) rfl w.heap.size _ (ls.take k).flatten rfl HI.out.own _ (ls.getD k []) rfl HJ.out HL.out HI.out.bel.size ?_;intro v2 w2 hown2 hb2 _)
    have hJ:RpInv w (ls.take (k + 1)).flatten v2 w2:=⟨by rw [HF.out];exact hown2,HI.out.bel.trans hb2⟩
    clear hown2 hb2 HI;go_roundw
    case rel => exact ⟨k + 1,by omega,by go_num,hJ⟩
    case measure => simp [intOf];omega
  · have hkn:k = n:=by omega
    subst hkn
    have HV:Hid (Reads wr u3 ls.flatten):=by
     have:=hI.own.reads;rw [HNN.out,List.take_of_length_le (Nat.le_refl _)] at this;exact this
    have hbel:=hI.bel;clear hI HI HR;go_wp2;go_ret;exact ⟨_,rfl,HV.out,hbel⟩
theorem readsL_two {w:World} {va vb:Value} {la lb:List (BitVec 8)} (ha:Reads w va la) (hb:Reads w vb lb) :
 ReadsL (w.alloc (.cells #[va,vb] 23)) (.slice (some ⟨w.heap.size,0,none⟩) 2 2) [la,lb]:=by
 have hbl:Below w.heap.size w (w.alloc (.cells #[va,vb] 23)):=(Below.refl _ _).alloc (Nat.le_refl _) _
 refine ⟨_,_,rfl,Nat.le_refl _,(fun h => by cases h),fun _ => ⟨w.heap.size,0,rfl,fun j hj => ?_⟩⟩
 match j,hj with
 | 0,_ => exact ⟨va,by rw [World.cell?_alloc_mark];rfl,ha.below hbl⟩
 | 1,_ => exact ⟨vb,by rw [World.cell?_alloc_mark];rfl,hb.below hbl⟩
theorem below_alloc (w:World) (o:Obj):Below w.heap.size w (w.alloc o):=(Below.refl _ _).alloc (Nat.le_refl _) _
def num8 (n:Nat):List (BitVec 8):=tl8 n 8
theorem len_num8 (n:Nat):(num8 n).length = 8:=by simp [num8,tl8]
def numL (n:Nat):Nat → List (BitVec 8)
 | 0 => List.replicate 8 0
 | k + 1 => (numL n k).set (7 - k) (BitVec.ofNat 8 (n / 2 ^ (8 * k)))
theorem len_numL (n k:Nat):(numL n k).length = 8:=by
 induction k with
 | zero => rfl
 | succ k ih => simp [numL,ih]
theorem numL_eq (n:Nat):numL n 8 = num8 n:=by
 simp [numL,num8,tl8,List.range_succ,List.replicate]
structure NmInv (w:World) (g:Nat) (l:List (BitVec 8)) (t:TypeId) (wr:World):Prop where
 blk:Blk wr g (cb l) t
 bel:Below w.heap.size w wr
 le:w.heap.size ≤ g
theorem NmInv.set {w wr:World} {g:Nat} {n k:Nat} {t:TypeId} (h:NmInv w g (numL n k) t wr) (v:Int) (hv:v = ((BitVec.ofNat 8 (n / 2 ^ (8 * k))).toNat:Int)):NmInv w g (numL n (k + 1)) t (wr.setCell ⟨g,7 - k,none⟩ (.int .u8 v)):=by
 subst hv
 exact ⟨by have:=h.blk.set (7 - k) (.int .u8 ((BitVec.ofNat 8 (n / 2 ^ (8 * k))).toNat:Int));rw [cb_set] at this;exact this,h.bel.setCell h.le _,h.le⟩
theorem div_step (n k:Nat):n / 2 ^ (8 * k) / 256 = n / 2 ^ (8 * (k + 1)):=by
 rw [Nat.div_div_eq_div_mul,Nat.mul_add,Nat.pow_add]
theorem rnumber_any (n:Nat) (hn:n < 18446744073709551616) (w:World):Calls Tryz.prog 110 #[.int .u64 (n:Int)] w fun e w' => ∃ v,e = .returned v ∧ Reads w' v (num8 n) ∧ Below w.heap.size w w':=by
 have HE:Hid (numL n 8 = num8 n):=numL_eq n
 have hm:(Instr.makeSlice 23 (.int .i64 8) (.int .i64 8)).run Tryz.prog w = .ok (.slice (some ⟨w.heap.size,0,none⟩) 8 8) (w.alloc (.cells (cb (List.replicate 8 0)).toArray 5)):=make_n .i64 8 (by decide) w
 go_enter Tryz.func110,Tryz.ntmps110
 go_wp2
 go_loopw [0,4] (fun u i wr => ∃ k:Nat,k ≤ 8 ∧ i = .int .i64 (7 - (k:Int)) ∧ u = .int .u64 ((n / 2 ^ (8 * k):Nat):Int) ∧ NmInv w w.heap.size (numL n k) 5 wr) (fun _ i _ => (intOf i + 1).toNat)
 case atStart => exact ⟨0,by omega,rfl,by simp,Blk.new w (cb (numL n 0)) 5,below_alloc _ _,Nat.le_refl _⟩
 case round =>
  clear hm
  obtain ⟨k,hk,rfl,rfl,hI⟩:=hrel
  by_cases hlt:k < 8
  · obtain ⟨o,cT⟩:∃ o,wr.cell? ⟨w.heap.size,7 - k,none⟩ = some o:=⟨_,by rw [hI.blk.cell,cb_get _ _ (by rw [len_numL];omega)]⟩
    have fT:wr.frozen? ⟨w.heap.size,7 - k,none⟩ = false:=hI.blk.frozen _;have e7:(7:Int) - (k:Int) = ((7 - k:Nat):Int):=by omega
    have HD:Hid (n / 2 ^ (8 * k) / 256 = n / 2 ^ (8 * (k + 1))):=div_step n k;have HI:Hid (∀ v:Int,v = ((BitVec.ofNat 8 (n / 2 ^ (8 * k))).toNat:Int) → NmInv w w.heap.size (numL n (k + 1)) 5 (wr.setCell ⟨w.heap.size,7 - k,none⟩ (.int .u8 v))):=fun v hv => hI.set v hv
    have hx:n / 2 ^ (8 * k) < 18446744073709551616:=Nat.lt_of_le_of_lt (Nat.div_le_self _ _) hn;clear hI HE hn
    generalize n / 2 ^ (8 * k) = x at *
    go_wp2;go_roundw
    case rel =>
     refine ⟨k + 1,by omega,by congr 1;omega,?_,?_⟩
     · rw [← HD.out];simp
     · refine HI.out _ ?_
       simp
    case measure => simp [intOf];omega
  · have hk8:k = 8:=by omega
    subst hk8;rw [HE.out] at hI;go_wp2;go_ret;exact ⟨_,rfl,hI.blk.reads (len_num8 n).symm (by rw [len_num8];omega),hI.bel⟩
theorem strB_size (l:List (BitVec 8)):(strB l).size = l.length:=by
 have h:=congrArg List.length (strOfNums_data (l.map fun b => (b.toNat:Int)))
 simpa [strB] using h
theorem strB_data (l:List (BitVec 8)):(strB l).data.toList = l.map fun b => UInt8.ofNat b.toNat:=by
 unfold strB
 rw [strOfNums_data]
 simp
theorem conv_string (l:List (BitVec 8)) (w:World):(convert 9 23 (.string (strB l))).run Tryz.prog w = .ok (.slice (some ⟨w.heap.size,0,none⟩) l.length (grownCap w l.length 0 5)) (Lib.bytesWorld w 5 (strB l)):=by
 have:=Lib.run_convert_string_bytes (P:=Tryz.prog) w 9 23 5 (strB l) Tryz.underlying9 Tryz.underlying23 Tryz.underlying5
 rw [strB_size] at this
 exact this
theorem bytesWorld_reads (l:List (BitVec 8)) (w:World):Reads (Lib.bytesWorld w 5 (strB l)) (.slice (some ⟨w.heap.size,0,none⟩) l.length (grownCap w l.length 0 5)) l:=by
 refine ⟨_,_,rfl,grownCap_ge _ _ _ _,(fun h => by cases h),fun _ => ⟨w.heap.size,0,rfl,fun j hj => ?_⟩⟩
 rw [Nat.zero_add,Lib.bytesWorld_cell _ _ _ _ (by rw [strB_size];exact hj),strB_data]
 have h2:(l.map fun b => UInt8.ofNat b.toNat).getD j 0 = UInt8.ofNat (l.getD j 0).toNat:=by simp [hj]
 rw [h2]
 have:=(l.getD j 0).isLt
 simp
theorem bytesWorld_below (l:List (BitVec 8)) (w:World):Below w.heap.size w (Lib.bytesWorld w 5 (strB l)):=
 ⟨rfl,rfl,rfl,by rw [Lib.bytesWorld_size];omega,fun k hk => Lib.bytesWorld_at_old _ _ _ _ hk⟩
theorem wpAnyH_enter {P:Program} {md:Region.Mode} {ops:Array Oper} {Q:Exit → Act → World → Prop} {S:World → Prop} {fuel:Nat} {listed:Array Bool} {a:Act} {w:World} (i:Nat) {oi:Oper} {f:FuncId} {args:Array Value} {R:Ending → World → Prop}
 (hr:Region.ready md ops listed = [i]) (hi:ops[i]? = some oi) (hw:Region.wanted oi (yielded ops a.tmps) = true) (he:(execOp a.eval oi).run P w = .ok (.enter f args) w) (hc:Calls P f args w R)
 (h:∀ e w',R e w' → ∃ v,e = .returned v ∧ S w' ∧ wpAnyH P md ops Q S fuel (listed.setIfInBounds i true) (a.put oi.dst v) w'):wpAnyH P md ops Q S (fuel + 1) listed a w:=by
 refine wpAnyH_all hr (by simp) (fun j hj => ?_)
 obtain rfl:j = i:=by simpa using hj
 unfold wpOp
 rw [hi]
 simp only [hw,if_true]
 left
 unfold Oper.wp
 rw [he,Oper.upon_enter]
 refine hc.mono ?_
 intro e w' hR
 obtain ⟨v,rfl,hv⟩:=h e w' hR
 exact hv
theorem wpAnyH_step {P:Program} {md:Region.Mode} {ops:Array Oper} {Q:Exit → Act → World → Prop} {S:World → Prop} {fuel:Nat} {listed:Array Bool} {a:Act} {w:World} (i:Nat) {oi:Oper} (v:Value) (w':World)
 (hr:Region.ready md ops listed = [i]) (hi:ops[i]? = some oi) (hw:Region.wanted oi (yielded ops a.tmps) = true) (he:(execOp a.eval oi).run P w = .ok (.value v) w') (hS:S w')
 (h:wpAnyH P md ops Q S fuel (listed.setIfInBounds i true) (a.put oi.dst v) w'):wpAnyH P md ops Q S (fuel + 1) listed a w:=by
 refine wpAnyH_all hr (by simp) (fun j hj => ?_)
 obtain rfl:j = i:=by simpa using hj
 unfold wpOp
 rw [hi]
 simp only [hw,if_true]
 left
 unfold Oper.wp
 rw [he,Oper.upon_value]
 exact ⟨hS,h⟩
theorem load_run {P:Program} {a:Act} {o:Oper} (ty:TypeId) (x:Operand) (ho:o.op = .load ty x) (b of:Nat) (hx:a.eval x = .pointer (some ⟨b,of,none⟩)) (cs:List Value) (d:TypeDesc) {w:World} (hc:w.rangeAt b of cs)
 (hu:P.underlying ty = some d) (hd:d.isRow = true) (hi:(P.info? ty).map (·.size) = some cs.length):(execOp a.eval o).run P w = .ok (.value (.agg cs.toArray)) w:=by
 unfold execOp
 simp only [ho,hx,Instr.loadAt,Instr.sureAddr,Sem.run_bind,Sem.run_pure,Result.andThen_ok,run_loadVar_mid w b of ty cs d hc hu hd hi]
theorem info_dig (dd:List (BitVec 8)) (h:dd.length = 32):(Tryz.prog.info? 155).map (·.size) = some (cb dd).length:=by rw [cb_len,h];first | exact Tryz.info155 | kernel_rfl
theorem wpOp_vl {P:Program} {ops:Array Oper} {Q:Exit → Act → World → Prop} {K:Act → World → Prop} {a:Act} {w:World} (i:Nat) {oi:Oper} (v:Value) (w':World) (hi:ops[i]? = some oi) (hw:Region.wanted oi (yielded ops a.tmps) = true)
 (he:(execOp a.eval oi).run P w = .ok (.value v) w') (h:K (a.put oi.dst v) w'):wpOp P ops Q i K a w:=by
 unfold wpOp
 rw [hi]
 simp only [hw,if_true]
 left
 unfold Oper.wp
 rw [he,Oper.upon_value]
 exact h
theorem wpOp_en {P:Program} {ops:Array Oper} {Q:Exit → Act → World → Prop} {K:Act → World → Prop} {a:Act} {w:World} (i:Nat) {oi:Oper} {f:FuncId} {args:Array Value} {R:Ending → World → Prop} (hi:ops[i]? = some oi) (hw:Region.wanted oi (yielded ops a.tmps) = true)
 (he:(execOp a.eval oi).run P w = .ok (.enter f args) w) (hc:Calls P f args w R) (h:∀ e w',R e w' → ∃ v,e = .returned v ∧ K (a.put oi.dst v) w'):wpOp P ops Q i K a w:=by
 unfold wpOp
 rw [hi]
 simp only [hw,if_true]
 left
 unfold Oper.wp
 rw [he,Oper.upon_enter]
 refine hc.mono ?_
 intro e w' hR
 obtain ⟨v,rfl,hv⟩:=h e w' hR
 exact hv
theorem wpAnyH_pair {P:Program} {md:Region.Mode} {ops:Array Oper} {Q:Exit → Act → World → Prop} {S:World → Prop} {fuel:Nat} {listed:Array Bool} {a:Act} {w:World} (i j:Nat) (hr:Region.ready md ops listed = [i,j])
 (h1:wpOp P ops Q i (fun a' w' => S w' ∧ wpAnyH P md ops Q S fuel (listed.setIfInBounds i true) a' w') a w) (h2:wpOp P ops Q j (fun a' w' => S w' ∧ wpAnyH P md ops Q S fuel (listed.setIfInBounds j true) a' w') a w):wpAnyH P md ops Q S (fuel + 1) listed a w:=by
 refine wpAnyH_all hr (by simp) (fun k hk => ?_)
 rcases List.mem_cons.1 hk with rfl | hk
 · exact h1
 · obtain rfl:k = j:=by simpa using hk
   exact h2
def Over (w0 wx:World):Prop:=Below w0.heap.size w0 wx
theorem Over.out {w0 wx:World} (h:Over w0 wx):Below w0.heap.size w0 wx:=h
theorem Over.refl (w:World):Over w w:=Below.refl _ _
theorem Over.more {w0 wx wy:World} (h:Over w0 wx) (hb:Below wx.heap.size wx wy):Over w0 wy:=Below.trans h (hb.mono (Below.size h))
theorem fl2 (a b:List (BitVec 8)):[a,b].flatten.length = a.length + b.length:=by simp
theorem fl4 (a b c d:List (BitVec 8)):[a,b,c,d].flatten.length = a.length + (b.length + (c.length + d.length)):=by simp
theorem below_cell {w0 wx:World} {p:Addr} {v:Value} (h:Over w0 wx) (hc:w0.cell? p = some v):wx.cell? p = some v:=by
 rw [Below.cell h (block_lt_of_cell hc)];exact hc
theorem slice_dig_at (g o:Nat) (w:World):(Instr.sliceAt 155 (.pointer (some ⟨g,o,none⟩)) none none none).run Tryz.prog w = .ok (.slice (some ⟨g,o,none⟩) 32 32) w:=by kernel_rfl
theorem tOf_any (v:Value) (bs:List (BitVec 8)) (w:World) (hK:KOk w) (hR:Reads w v bs) (hl:bs.length < 2305843009213693952) :
 Calls Tryz.prog 125 #[v] w fun e w' => e = .returned (.agg (cb (dig bs)).toArray) ∧ Below w.heap.size w w':=by
 have HK:Hid (KOk w):=hK
 have HR:Hid (Reads w v bs):=hR
 clear hK hR
 go_enter Tryz.func125,Tryz.ntmps125
 go_wp2_with fail
 generalize h0:Obj.cells _ 155 = o32
 have ho:o32 = Obj.cells (cb zb32).toArray 155:=h0.symm
 clear h0
 subst ho
 have hb0:=below_alloc w (Obj.cells (cb zb32).toArray 155)
 refine (sum_any _ bs _ (HK.out.below hb0 HK.out.lt) (HR.out.below hb0) hl).mono ?_
 rintro e w1 ⟨rfl,hb1⟩
 simp at hb1
 obtain ⟨es,HES⟩:=sqn (cb (dig bs))
 have HLe:Hid (es.length = 32):=by show _ = _;rw [HES.out,cb_len,len_dig']
 have HZe:Hid ((Tryz.prog.info? 155).map (·.size) = some es.length):=by show _ = _;rw [HLe.out];exact Tryz.info155
 have H1e:Hid (∀ v ∈ es,v.oneCell' = true):=by show ∀ _,_;rw [HES.out];exact cb_one _
 have HR1:Hid (Blk w1 w.heap.size (cb zb32) 155):=(Blk.new w (cb zb32) 155).below hb1 (by omega)
 have HS1:Hid (Below w.heap.size w w1):=hb0.trans (hb1.mono (by omega))
 clear hb0 hb1
 rw [← HES.out]
 go_wp2_with (refine wpList_store_mid rfl 155 _ _ rfl w.heap.size 0 es.toArray rfl rfl (HR1.out.there 0 _ (by rw [List.size_toArray,HLe.out,cb_len,len_zb32];omega)) (by simpa using HZe.out) (all_oneCell_toArray H1e.out) ?_)
 have hB:=HR1.out.whole es (by rw [HLe.out,cb_len,len_zb32])
 refine bodyPost_ret (v:=.agg es.toArray) (results_cell_row (by rfl) _ _ w.heap.size 155 _ (0,0) _ rfl hB Tryz.underlying155 rfl (by simpa using HZe.out)) rfl ⟨by rw [HES.out],Below.setCells _ (Nat.le_refl _) _ _ _ HS1.out⟩
theorem rOf_big (v:Value) (bs:List (BitVec 8)) (w:World) (hR:Reads w v bs) (hl:bs.length < 140737488355000) :
 Calls Tryz.prog 107 #[v] w fun e w' => e = .returned (.agg (cb (dig bs)).toArray) ∧ Below w.heap.size w w':=by
 have HR:Hid (Reads w v bs):=hR
 clear hR
 go_enter Tryz.func107,Tryz.ntmps107
 go_wp2_with fail
 generalize h0:Obj.cells _ 155 = o32
 have ho:o32 = Obj.cells (cb zb32).toArray 155:=h0.symm
 clear h0
 subst ho
 have hb0:=below_alloc w (Obj.cells (cb zb32).toArray 155)
 refine (rsum_big _ bs _ (HR.out.below hb0) hl).mono ?_
 rintro e w1 ⟨rfl,hb1⟩
 simp at hb1
 obtain ⟨es,HES⟩:=sqn (cb (dig bs))
 have HLe:Hid (es.length = 32):=by show _ = _;rw [HES.out,cb_len,len_dig']
 have HZe:Hid ((Tryz.prog.info? 155).map (·.size) = some es.length):=by show _ = _;rw [HLe.out];exact Tryz.info155
 have H1e:Hid (∀ v ∈ es,v.oneCell' = true):=by show ∀ _,_;rw [HES.out];exact cb_one _
 have HR1:Hid (Blk w1 w.heap.size (cb zb32) 155):=(Blk.new w (cb zb32) 155).below hb1 (by omega)
 have HS1:Hid (Below w.heap.size w w1):=hb0.trans (hb1.mono (by omega))
 clear hb0 hb1
 rw [← HES.out]
 go_wp2_with (refine wpList_store_mid rfl 155 _ _ rfl w.heap.size 0 es.toArray rfl rfl (HR1.out.there 0 _ (by rw [List.size_toArray,HLe.out,cb_len,len_zb32];omega)) (by simpa using HZe.out) (all_oneCell_toArray H1e.out) ?_)
 have hB:=HR1.out.whole es (by rw [HLe.out,cb_len,len_zb32])
 refine bodyPost_ret (v:=.agg es.toArray) (results_cell_row (by rfl) _ _ w.heap.size 155 _ (0,0) _ rfl hB Tryz.underlying155 rfl (by simpa using HZe.out)) rfl ⟨by rw [HES.out],Below.setCells _ (Nat.le_refl _) _ _ _ HS1.out⟩
theorem rOf_any (v:Value) (bs:List (BitVec 8)) (w:World) (hR:Reads w v bs) (hl:bs.length < 140737488350000) :
 Calls Tryz.prog 107 #[v] w fun e w' => e = .returned (.agg (cb (dig bs)).toArray) ∧ Below w.heap.size w w':=rOf_big v bs w hR (by omega)
theorem reads_drew {w:World} {v:Value} {bs:List (BitVec 8)} (h:Reads w v bs):Reads w.drew v bs:=h
end Go.Proofs.YtheincjkoefalaaGreatDoor

namespace Go.Proofs.YtheincjkoefalaaGreatDoor
open Go.RowKit
abbrev Bs:=List (BitVec 8)
structure DkT where
 safe:Bs
 wait:List (Nat × Bs)
 left:Int
 down:Bool
def layD (b:Bs) (at_:Nat) (x:Bs) (n:Nat):Bs:=b.take (64 * at_) ++ (x.take n ++ b.drop (64 * at_ + n))
def dumpW (b:Bs) (l:List (Nat × Bs)):Bs:=l.foldl (fun b p => layD b p.1 p.2 64) b
def dumpD (D:DkT):Bs:=dumpW D.safe D.wait
def sizeD (D:DkT):Nat:=D.safe.length / 64
def hasD (D:DkT) (i:Int):Bool:=decide (0 ≤ i) && decide (i < (sizeD D:Int))
theorem hasD_iff (D:DkT) (i:Int):hasD D i = true ↔ 0 ≤ i ∧ i < (sizeD D:Int):=by simp [hasD]
theorem hasD_not (D:DkT) (i:Int):hasD D i = false ↔ ¬ (0 ≤ i ∧ i < (sizeD D:Int)):=by rw [← hasD_iff];simp
def readX13 (D:DkT) (i:Int):Int:=if D.down then 14 else if hasD D i = false then 2 else 0
def lessL (n:Int):Int:=if 0 < n then n - 1 else n
def putX13 (D:DkT) (i:Int) (b:Bs):Int:=if D.down then 14 else if hasD D i = false then 2 else if b.length ≠ 64 then 1 else if D.left = 0 then 14 else 0
def putD13 (D:DkT) (i:Int) (b:Bs):DkT:=if D.down then D else if hasD D i = false then D else if b.length ≠ 64 then D else ⟨D.safe,D.wait ++ [(i.toNat,b)],lessL D.left,decide (D.left = 0)⟩
def syncX13 (D:DkT):Int:=if D.down then 14 else if D.left = 0 then 14 else 0
def syncD13 (D:DkT):DkT:=if D.down then D else if D.left = 0 then ⟨D.safe,D.wait,D.left,true⟩ else ⟨dumpD D,[],lessL D.left,false⟩
structure okD (D:DkT):Prop where
 ex:∃ n,1 ≤ n ∧ n ≤ 16384 ∧ D.safe.length = 64 * n ∧ ∀ p ∈ D.wait,p.1 < n ∧ p.2.length = 64
 lo:-1 ≤ D.left
 hi:D.left < 9223372036854775808
theorem okD.size {D:DkT} (h:okD D):D.safe.length = 64 * sizeD D ∧ 1 ≤ sizeD D ∧ sizeD D ≤ 16384:=by
 obtain ⟨n,h1,h2,h3,_⟩:=h.ex
 have e:sizeD D = n:=by rw [sizeD,h3,Nat.mul_div_cancel_left _ (by decide)]
 rw [e]
 exact ⟨h3,h1,h2⟩
theorem okD.wait {D:DkT} (h:okD D):∀ p ∈ D.wait,p.1 < sizeD D ∧ p.2.length = 64:=by
 obtain ⟨n,h1,h2,h3,h4⟩:=h.ex
 have e:sizeD D = n:=by rw [sizeD,h3,Nat.mul_div_cancel_left _ (by decide)]
 rw [e]
 exact h4
theorem len_layD {b x:Bs} {at_ n:Nat} (h:64 * at_ + n ≤ b.length) (hx:n ≤ x.length):(layD b at_ x n).length = b.length:=by
 rw [layD,List.length_append,List.length_append,List.length_take,List.length_take,List.length_drop]
 omega
theorem layD_at {b x:Bs} {at_ n:Nat} (h:64 * at_ + n ≤ b.length) (hx:n ≤ x.length) (j:Nat):(layD b at_ x n)[j]? = if 64 * at_ ≤ j ∧ j < 64 * at_ + n then x[j - 64 * at_]? else b[j]?:=by
 have e1:(b.take (64 * at_)).length = 64 * at_:=by rw [List.length_take];omega
 have e2:(x.take n).length = n:=by rw [List.length_take];omega
 rw [layD]
 by_cases h1:j < 64 * at_
 · rw [if_neg (by omega),List.getElem?_append_left (by omega),List.getElem?_take_of_lt h1]
 · rw [List.getElem?_append_right (by omega),e1]
   by_cases h2:j < 64 * at_ + n
   · rw [if_pos ⟨by omega,h2⟩,List.getElem?_append_left (by omega),List.getElem?_take_of_lt (by omega)]
   · rw [if_neg (by omega),List.getElem?_append_right (by omega),e2,List.getElem?_drop]
     congr 1
     omega
theorem dumpW_snoc (b:Bs) (l:List (Nat × Bs)) (p:Nat × Bs):dumpW b (l ++ [p]) = layD (dumpW b l) p.1 p.2 64:=by rw [dumpW,List.foldl_append];rfl
theorem take_snocW {l:List (Nat × Bs)} {k:Nat} (hk:k < l.length):l.take (k + 1) = l.take k ++ [l[k]]:=by
 rw [List.take_add_one,List.getElem?_eq_getElem hk]
 rfl
theorem len_dumpW {n:Nat}:∀ (l:List (Nat × Bs)) (b:Bs),b.length = 64 * n → (∀ p ∈ l,p.1 < n ∧ p.2.length = 64) → (dumpW b l).length = 64 * n
 | [],b,h,_ => h
 | p :: l,b,h,hl => by
  have h1:=hl p (by simp)
  show (dumpW (layD b p.1 p.2 64) l).length = _
  exact len_dumpW l _ (by rw [len_layD (by omega) (by omega)];exact h) (fun q hq => hl q (by simp [hq]))
theorem len_dumpD {D:DkT} (h:okD D):(dumpD D).length = D.safe.length:=by
 rw [h.size.1]
 exact len_dumpW D.wait D.safe h.size.1 h.wait
theorem okD.put {D:DkT} (h:okD D) (i:Int) (b:Bs):okD (putD13 D i b):=by
 unfold putD13
 by_cases hd:D.down
 · rw [if_pos hd];exact h
 rw [if_neg hd]
 by_cases hh:hasD D i = false
 · rw [if_pos hh];exact h
 rw [if_neg hh]
 rw [Bool.not_eq_false] at hh
 by_cases hb:b.length = 64
 case neg => rw [if_pos hb];exact h
 rw [if_neg (by simpa using hb)]
 obtain ⟨h1,h2,h3⟩:=h.size
 refine ⟨⟨sizeD D,h2,h3,h1,fun p hp => ?_⟩,?_,?_⟩
 · rcases List.mem_append.1 hp with hp | hp
   · exact h.wait p hp
   · rw [List.mem_singleton.1 hp]
     obtain ⟨h4,h5⟩:=(hasD_iff D i).1 hh;exact ⟨by show i.toNat < _;omega,hb⟩
 · show -1 ≤ lessL D.left
   have:=h.lo;unfold lessL
   split <;> omega
 · show lessL D.left < _
   have:=h.hi;unfold lessL
   split <;> omega
theorem okD.sync {D:DkT} (h:okD D):okD (syncD13 D):=by
 unfold syncD13
 by_cases hd:D.down
 · rw [if_pos hd];exact h
 rw [if_neg hd]
 obtain ⟨h1,h2,h3⟩:=h.size
 by_cases h0:D.left = 0
 · rw [if_pos h0]
   exact ⟨⟨sizeD D,h2,h3,h1,h.wait⟩,h.lo,h.hi⟩
 rw [if_neg h0]
 refine ⟨⟨sizeD D,h2,h3,by show (dumpD D).length = _;rw [len_dumpD h,h1],fun p hp => by cases hp⟩,?_,?_⟩
 · show -1 ≤ lessL D.left
   have:=h.lo;unfold lessL
   split <;> omega
 · show lessL D.left < _
   have:=h.hi;unfold lessL
   split <;> omega
def zeroD (n:Nat):DkT:=⟨List.replicate (64 * n) 0,[],-1,false⟩
def loadD (b:Bs):DkT:=⟨b,[],-1,false⟩
theorem okD_load {b:Bs} {n:Nat} (h:b.length = 64 * n) (h1:1 ≤ n) (h2:n ≤ 16384):okD (loadD b):=⟨⟨n,h1,h2,h,fun p hp => by cases hp⟩,by show (-1:Int) ≤ -1;omega,by show (-1:Int) < _;omega⟩
theorem okD_zero {n:Nat} (h1:1 ≤ n) (h2:n ≤ 16384):okD (zeroD n):=okD_load (List.length_replicate) h1 h2
theorem zeroD_load (n:Nat):zeroD n = loadD (List.replicate (64 * n) 0):=rfl
theorem size_put (D:DkT) (i:Int) (b:Bs):(putD13 D i b).safe = D.safe:=by
 unfold putD13
 split
 · rfl
 · split
   · rfl
   · split <;> rfl
theorem size_sync {D:DkT} (h:okD D):sizeD (syncD13 D) = sizeD D:=by
 unfold syncD13 sizeD
 split
 · rfl
 · split
   · rfl
   · show (dumpD D).length / 64 = _
     rw [len_dumpD h]
structure ActT where
 key:Bs
 set:Bool
 data:Bs
def ltB:Bs → Bs → Bool
 | _,[] => false
 | [],_ :: _ => true
 | a :: x,b :: y => decide (a.toNat < b.toNat) || (decide (a = b) && ltB x y)
theorem ltB_irr:∀ (a:Bs),ltB a a = false
 | [] => rfl
 | a :: x => by simp [ltB,ltB_irr x]
theorem ltB_nil (a:Bs):ltB [] a = true ↔ a ≠ []:=by cases a <;> simp [ltB]
theorem ltB_trans:∀ (a b c:Bs),ltB a b = true → ltB b c = true → ltB a c = true
 | _,[],_,h,_ => by simp [ltB] at h
 | _,_ :: _,[],_,h => by simp [ltB] at h
 | [],_ :: _,_ :: _,_,_ => by simp [ltB]
 | a :: x,b :: y,c :: z,h1,h2 => by
  simp only [ltB,Bool.or_eq_true,Bool.and_eq_true,decide_eq_true_eq] at h1 h2 ⊢
  rcases h1 with h1 | ⟨rfl,h1⟩
  · rcases h2 with h2 | ⟨rfl,h2⟩
    · exact Or.inl (by omega)
    · exact Or.inl h1
  · rcases h2 with h2 | ⟨rfl,h2⟩
    · exact Or.inl h2
    · exact Or.inr ⟨rfl,ltB_trans x y z h1 h2⟩
theorem ltB_tri:∀ (a b:Bs),ltB a b = true ∨ a = b ∨ ltB b a = true
 | [],[] => Or.inr (Or.inl rfl)
 | [],_ :: _ => Or.inl rfl
 | _ :: _,[] => Or.inr (Or.inr rfl)
 | a :: x,b :: y => by
  by_cases h1:a.toNat < b.toNat
  · exact Or.inl (by simp [ltB,h1])
  by_cases h2:b.toNat < a.toNat
  · exact Or.inr (Or.inr (by simp [ltB,h2]))
  have e:a = b:=BitVec.eq_of_toNat_eq (by omega)
  subst e
  rcases ltB_tri x y with h | h | h
  · exact Or.inl (by simp [ltB,h])
  · exact Or.inr (Or.inl (by rw [h]))
  · exact Or.inr (Or.inr (by simp [ltB,h]))
theorem ltB_asym {a b:Bs} (h:ltB a b = true):ltB b a = false:=by
 cases h2:ltB b a with
 | false => rfl
 | true =>
  have:=ltB_trans _ _ _ h h2
  rw [ltB_irr] at this
  cases this
theorem ltB_ne {a b:Bs} (h:ltB a b = true):a ≠ b:=fun e => by rw [e,ltB_irr] at h;cases h
def okA (a:ActT):Bool:=decide (a.key.length ≤ 64) && (if a.set then decide (a.data.length ≤ 1048576) else decide (a.data.length = 0))
def goodF:Bs → List ActT → Bool
 | _,[] => true
 | k,a :: r => ltB k a.key && okA a && goodF a.key r
def lastK (k:Bs) (l:List ActT):Bs:=(l.getLast?.map ActT.key).getD k
theorem lastK_cons (k:Bs) (a:ActT) (l:List ActT):lastK k (a :: l) = lastK a.key l:=by
 unfold lastK
 cases l with
 | nil => rfl
 | cons b l => rw [List.getLast?_cons_cons];cases h:(b :: l).getLast? with
  | none => simp at h
  | some c => rfl
theorem lastK_snoc (k:Bs) (l:List ActT) (a:ActT):lastK k (l ++ [a]) = a.key:=by simp [lastK]
theorem goodF_snoc:∀ (l:List ActT) (k:Bs) (a:ActT),goodF k (l ++ [a]) = (goodF k l && (ltB (lastK k l) a.key && okA a))
 | [],k,a => by simp [goodF,lastK]
 | b :: l,k,a => by
  rw [List.cons_append,goodF,goodF,goodF_snoc l,lastK_cons]
  simp only [Bool.and_assoc]
theorem goodF_false:∀ (l r:List ActT) (k:Bs),goodF k l = false → goodF k (l ++ r) = false
 | [],_,_,h => by simp [goodF] at h
 | b :: l,r,k,h => by
  rw [goodF,Bool.and_eq_false_iff] at h
  rw [List.cons_append,goodF,Bool.and_eq_false_iff]
  exact h.imp id (goodF_false l r b.key)
def chkL (l:List ActT):Int:=if l.length ≤ 4096 ∧ goodF [] l = true then 0 else 1
theorem chkL_or (l:List ActT):chkL l = 0 ∨ chkL l = 1:=by unfold chkL;split;exact Or.inl rfl;exact Or.inr rfl
theorem chkL_ok {l:List ActT}:chkL l = 0 ↔ l.length ≤ 4096 ∧ goodF [] l = true:=by
 unfold chkL
 split
 next h => exact ⟨fun _ => h,fun _ => rfl⟩
 next h => exact ⟨fun e => absurd e (by decide),fun e => absurd e h⟩
theorem goodF_mem:∀ (l:List ActT) (k:Bs),goodF k l = true → ∀ a ∈ l,okA a = true ∧ ltB k a.key = true
 | [],_,_,a,ha => by cases ha
 | b :: l,k,h,a,ha => by
  simp only [goodF,Bool.and_eq_true] at h
  rcases List.mem_cons.1 ha with rfl | ha
  · exact ⟨h.1.2,h.1.1⟩
  · have:=goodF_mem l b.key h.2 a ha
    exact ⟨this.1,ltB_trans _ _ _ h.1.1 this.2⟩
def encA (a:ActT):Bs:=encText a.key ++ (if a.set then encNum 1 ++ encText a.data else encNum 0)
def batchB (l:List ActT):Bs:=encList encA l
def readCt (most:Nat) (l:Bs):Option (Nat × Bs):=
 match readNum l with
 | none => none
 | some (n,r) => if n ≤ most then some (n,r) else none
theorem readCt_iff (most n:Nat) (hm:most < 18446744073709551616) (b r:Bs):readCt most b = some (n,r) ↔ n ≤ most ∧ b = encNum n ++ r:=by
 unfold readCt
 constructor
 · intro h
   cases h1:readNum b with
   | none => rw [h1] at h;cases h
   | some p =>
    obtain ⟨m,q⟩:=p;rw [h1] at h;simp only at h
    split at h
    next hle =>
     cases h
     exact ⟨hle,((readNum_iff _ _ _).1 h1).2⟩
    · cases h
 · rintro ⟨h1,rfl⟩
   rw [(readNum_iff _ _ _).2 ⟨by omega,rfl⟩]
   simp only;rw [if_pos h1]
def readA (b:Bs):Option (ActT × Bs):=
 match readText b with
 | none => none
 | some (k,r) =>
  match readCt 1 r with
  | none => none
  | some (n,s) =>
   if n = 1 then
    match readText s with
    | none => none
    | some (d,t) => some (⟨k,true,d⟩,t)
   else some (⟨k,false,[]⟩,s)
def okE (a:ActT):Prop:=a.key.length ≤ 1048576 ∧ a.data.length ≤ 1048576 ∧ (a.set = false → a.data = [])
theorem readA_iff (b r:Bs) (a:ActT):readA b = some (a,r) ↔ okE a ∧ b = encA a ++ r:=by
 unfold readA
 constructor
 · intro h
   cases h1:readText b with
   | none => rw [h1] at h;cases h
   | some p =>
    obtain ⟨k,q⟩:=p;rw [h1] at h;simp only at h;obtain ⟨k1,k2⟩:=(readText_iff _ _ _).1 h1
    cases h2:readCt 1 q with
    | none => rw [h2] at h;cases h
    | some p =>
     obtain ⟨n,s⟩:=p;rw [h2] at h;simp only at h;obtain ⟨n1,n2⟩:=(readCt_iff 1 _ (by decide) _ _).1 h2
     split at h
     next e =>
      subst e
      cases h3:readText s with
      | none => rw [h3] at h;cases h
      | some p =>
       obtain ⟨d,t⟩:=p;rw [h3] at h;simp only [Option.some.injEq,Prod.mk.injEq] at h;obtain ⟨rfl,rfl⟩:=h;obtain ⟨d1,d2⟩:=(readText_iff _ _ _).1 h3;exact ⟨⟨k1,d1,fun e => by cases e⟩,by rw [k2,n2,d2,encA,if_pos rfl];simp only [List.append_assoc]⟩
     next e =>
      simp only [Option.some.injEq,Prod.mk.injEq] at h;obtain ⟨rfl,rfl⟩:=h;obtain rfl:n = 0:=by omega
      exact ⟨⟨k1,Nat.zero_le _,fun _ => rfl⟩,by rw [k2,n2,encA,if_neg Bool.false_ne_true];simp only [List.append_assoc]⟩
 · rintro ⟨⟨h1,h2,h3⟩,rfl⟩
   obtain ⟨k,st,d⟩:=a
   cases st with
   | true =>
    rw [encA,if_pos rfl,List.append_assoc,(readText_iff _ _ _).2 ⟨h1,rfl⟩];simp only;rw [List.append_assoc,(readCt_iff 1 1 (by decide) _ _).2 ⟨Nat.le_refl _,rfl⟩]
    simp only [if_true];rw [(readText_iff _ _ _).2 ⟨h2,rfl⟩]
   | false =>
    obtain rfl:d = []:=h3 rfl;rw [encA,if_neg Bool.false_ne_true,List.append_assoc,(readText_iff _ _ _).2 ⟨h1,rfl⟩];simp only;rw [(readCt_iff 1 0 (by decide) _ _).2 ⟨by decide,rfl⟩]
    rfl
def readB (b:Bs):Option (List ActT):=
 match readList readA b with
 | none => none
 | some l => if goodF [] l = true then some l else none
theorem okA_okE {a:ActT} (h:okA a = true):okE a:=by
 unfold okA at h
 rw [Bool.and_eq_true,decide_eq_true_eq] at h
 cases hs:a.set with
 | true =>
  rw [hs,if_pos rfl,decide_eq_true_eq] at h
  exact ⟨by omega,h.2,fun e => by rw [hs] at e;cases e⟩
 | false =>
  rw [hs,if_neg Bool.false_ne_true,decide_eq_true_eq] at h
  exact ⟨by omega,by omega,fun _ => List.eq_nil_of_length_eq_zero h.2⟩
theorem readB_iff (b:Bs) (l:List ActT):readB b = some l ↔ chkL l = 0 ∧ b = batchB l:=by
 unfold readB
 rw [chkL_ok]
 constructor
 · intro h
   cases h1:readList readA b with
   | none => rw [h1] at h;cases h
   | some m =>
    rw [h1] at h;simp only at h
    split at h
    next hg =>
     cases h
     obtain ⟨a1,_,a3⟩:=(readList_iff readA_iff b l).1 h1;exact ⟨⟨a1,hg⟩,a3⟩
    · cases h
 · rintro ⟨⟨h1,h2⟩,rfl⟩
   rw [batchB,(readList_iff readA_iff _ l).2 ⟨h1,fun a ha => okA_okE (goodF_mem l [] h2 a ha).1,rfl⟩]
   simp only;rw [if_pos h2]
theorem readB_batch {l:List ActT} (h:chkL l = 0):readB (batchB l) = some l:=(readB_iff _ l).2 ⟨h,rfl⟩
abbrev KM:=List (Bs × Bs)
def Rise (m:KM):Prop:=m.Pairwise fun p q => ltB p.1 q.1 = true
def oneM (m:KM) (a:ActT):KM:=m.filter (fun p => ltB p.1 a.key) ++ ((if a.set then [(a.key,a.data)] else []) ++ m.filter (fun p => ltB a.key p.1))
def doneM (m:KM) (l:List ActT):KM:=l.foldl oneM m
def wholeM (m:KM):List ActT:=m.map fun p => ⟨p.1,true,p.2⟩
def getM (m:KM) (k:Bs):Option Bs:=(m.find? fun p => decide (p.1 = k)).map (·.2)
theorem Rise.one {m:KM} (h:Rise m) (a:ActT):Rise (oneM m a):=by
 unfold oneM Rise
 rw [List.pairwise_append,List.pairwise_append]
 refine ⟨List.Pairwise.filter _ h,⟨?_,List.Pairwise.filter _ h,?_⟩,?_⟩
 · split
   · exact List.pairwise_singleton _ _
   · exact List.Pairwise.nil
 · intro p hp q hq
   split at hp
   · rw [List.mem_singleton] at hp
     subst hp;exact (List.mem_filter.1 hq).2
   · cases hp
 · intro p hp q hq
   have h1:=(List.mem_filter.1 hp).2
   rcases List.mem_append.1 hq with hq | hq
   · split at hq
     · rw [List.mem_singleton] at hq
       subst hq;exact h1
     · cases hq
   · exact ltB_trans _ _ _ h1 (List.mem_filter.1 hq).2
theorem Rise.done:∀ (l:List ActT) {m:KM},Rise m → Rise (doneM m l)
 | [],_,h => h
 | a :: l,_,h => Rise.done l (h.one a)
theorem doneM_snoc (m:KM) (l:List ActT) (a:ActT):doneM m (l ++ [a]) = oneM (doneM m l) a:=by rw [doneM,List.foldl_append];rfl
theorem mem_one {m:KM} {a:ActT} {p:Bs × Bs}:p ∈ oneM m a ↔ (p ∈ m ∧ p.1 ≠ a.key) ∨ (a.set = true ∧ p = (a.key,a.data)):=by
 unfold oneM
 rw [List.mem_append,List.mem_append,List.mem_filter,List.mem_filter]
 constructor
 · rintro (⟨h1,h2⟩ | h | ⟨h1,h2⟩)
   · exact Or.inl ⟨h1,ltB_ne h2⟩
   · split at h
     next e => exact Or.inr ⟨e,List.mem_singleton.1 h⟩
     · cases h
   · exact Or.inl ⟨h1,(ltB_ne h2).symm⟩
 · rintro (⟨h1,h2⟩ | ⟨h1,h2⟩)
   · rcases ltB_tri p.1 a.key with h | h | h
     · exact Or.inl ⟨h1,h⟩
     · exact absurd h h2
     · exact Or.inr (Or.inr ⟨h1,h⟩)
   · refine Or.inr (Or.inl ?_)
     rw [if_pos h1];exact List.mem_singleton.2 h2
theorem rise_key {m:KM} (h:Rise m) {p q:Bs × Bs} (hp:p ∈ m) (hq:q ∈ m) (e:p.1 = q.1):p = q:=by
 induction m with
 | nil => cases hp
 | cons a m ih =>
  have h2:=List.pairwise_cons.1 h
  rcases List.mem_cons.1 hp with e1 | e1 <;> rcases List.mem_cons.1 hq with e2 | e2
  · rw [e1,e2]
  · rw [e1] at e
    exact absurd e (ltB_ne (h2.1 q e2))
  · rw [e2] at e
    exact absurd e.symm (ltB_ne (h2.1 p e1))
  · exact ih h2.2 e1 e2
theorem getM_mem {m:KM} (h:Rise m) (k d:Bs):getM m k = some d ↔ (k,d) ∈ m:=by
 unfold getM
 constructor
 · intro hh
   rw [Option.map_eq_some_iff] at hh;obtain ⟨p,h1,rfl⟩:=hh;have h2:=List.find?_some h1;rw [decide_eq_true_eq] at h2;rw [← h2];exact List.mem_of_find?_eq_some h1
 · intro hh
   cases hf:m.find? fun p => decide (p.1 = k) with
   | none =>
    have:=List.find?_eq_none.1 hf _ hh;simp at this
   | some p =>
    have h2:=List.find?_some hf;rw [decide_eq_true_eq] at h2;have:=rise_key h (List.mem_of_find?_eq_some hf) hh h2;rw [this]
    rfl
theorem done_whole:∀ {m n:KM},Rise (n ++ m) → doneM n (wholeM m) = n ++ m
 | [],n,_ => by simp [wholeM,doneM]
 | p :: m,n,h => by
  have h1:oneM n ⟨p.1,true,p.2⟩ = n ++ [p]:=by
   rw [Rise,List.pairwise_append] at h;have a1:∀ q ∈ n,ltB q.1 p.1 = true:=fun q hq => h.2.2 q hq p (by simp)
   unfold oneM;rw [List.filter_eq_self.2 a1,if_pos rfl,List.filter_eq_nil_iff.2 (fun q hq => by rw [ltB_asym (a1 q hq)];exact Bool.false_ne_true),List.append_nil]
  show doneM (oneM n ⟨p.1,true,p.2⟩) (wholeM m) = _
  rw [h1,done_whole (by rw [List.append_assoc];exact h),List.append_assoc]
  rfl
theorem wholeM_inj {m n:KM} (h:wholeM m = wholeM n):m = n:=by
 have:=congrArg (List.map fun (a:ActT) => (a.key,a.data)) h
 simp only [wholeM,List.map_map] at this
 have e:((fun (a:ActT) => (a.key,a.data)) ∘ fun (p:Bs × Bs) => (⟨p.1,true,p.2⟩:ActT)) = id:=by funext p;rfl
 rwa [e,List.map_id,List.map_id] at this
def ofM:List Bs → Option KM
 | l => l.foldl (fun o b => match o with | none => none | some m => match readB b with | none => none | some a => some (doneM m a)) (some [])
theorem ofM_nil:ofM [] = some []:=rfl
theorem ofM_snoc (l:List Bs) (b:Bs):ofM (l ++ [b]) = (match ofM l with | none => none | some m => match readB b with | none => none | some a => some (doneM m a)):=by
 unfold ofM
 rw [List.foldl_append]
 rfl
theorem ofM_none:∀ (r l:List Bs),ofM l = none → ofM (l ++ r) = none
 | [],l,h => by rw [List.append_nil];exact h
 | b :: r,l,h => by
  have:l ++ b :: r = (l ++ [b]) ++ r:=by simp
  rw [this]
  exact ofM_none r _ (by rw [ofM_snoc,h])
theorem wpSeq_val {P:Program} {ops:Array Oper} {Q:Exit → Act → World → Prop} {rest:List Oper} {o:Oper} {a:Act} {w:World} (v:Value) (w':World) (hw:Region.wanted o (yielded ops a.tmps) = true)
 (he:(execOp a.eval o).run P w = .ok (.value v) w') (h:wpList P ops Q rest (a.put o.dst v) w'):wpList P ops Q (o :: rest) a w:=by
 unfold wpList
 simp only [hw,if_true]
 left
 unfold Oper.wp
 rw [he,Oper.upon_value]
 exact h
theorem wpAnyH_law {P:Program} {md:Region.Mode} {ops:Array Oper} {Q:Exit → Act → World → Prop} {S:World → Prop} {fuel:Nat} {listed:Array Bool} {a:Act} {w:World} (i:Nat) {oi:Oper}
 (hr:Region.ready md ops listed = [i]) (hi:ops[i]? = some oi) (hw:Region.wanted oi (yielded ops a.tmps) = true)
 (h:Oper.wp P oi a w (fun a' w' => S w' ∧ wpAnyH P md ops Q S fuel (listed.setIfInBounds i true) a' w') Q):wpAnyH P md ops Q S (fuel + 1) listed a w:=by
 refine wpAnyH_all hr (by simp) (fun j hj => ?_)
 obtain rfl:j = i:=by simpa using hj
 unfold wpOp
 rw [hi]
 simp only [hw,if_true]
 exact Or.inl h
theorem wpSeq_box {ops:Array Oper} {Q:Exit → Act → World → Prop} {rest:List Oper} {o:Oper} {a:Act} {w:World} (ty:TypeId) (x:Operand) (ho:o.op = .box ty x) (cs:List Value) (hx:a.eval x = .agg cs.toArray) (hw:Region.wanted o (yielded ops a.tmps) = true) (w0:World) (h0:w0 = w.alloc (.cells cs.toArray ty))
 (h:wpList Tryz.prog ops Q rest (a.put o.dst (.pointer (some ⟨w.heap.size,0,none⟩))) w0):wpList Tryz.prog ops Q (o :: rest) a w:=by
 refine wpSeq_val _ w0 hw ?_ h
 subst h0
 unfold execOp
 rw [ho]
 simp only [hx]
 rfl
theorem Reads.form {w:World} {v:Value} {l:List (BitVec 8)} (h:Reads w v l):∃ a n c,v = .slice a n c:=by
 obtain ⟨a,c,hv,_⟩:=h
 exact ⟨_,_,_,hv⟩
theorem fold_set (off:Nat):∀ (vs B A C:List Value) (k:Nat),A.length = off + k → B.length = vs.length → (vs.zipIdx k).foldl (fun (cs:Array Value) (p:Value × Nat) => cs.setIfInBounds (off + p.2) p.1) (A ++ (B ++ C)).toArray = (A ++ (vs ++ C)).toArray
 | [],B,A,C,k,_,hB => by
  obtain rfl:B = []:=List.length_eq_zero_iff.1 hB
  rfl
 | v :: vs,[],A,C,k,_,hB => by simp at hB
 | v :: vs,b :: B,A,C,k,hA,hB => by
  rw [List.zipIdx_cons,List.foldl_cons]
  have e:(A ++ (b :: B ++ C)).toArray.setIfInBounds (off + k) v = ((A ++ [v]) ++ (B ++ C)).toArray:=by
   rw [List.setIfInBounds_toArray,← hA]
   congr 1
   rw [List.set_append_right _ _ (Nat.le_refl _),Nat.sub_self];simp
  rw [e,fold_set off vs B (A ++ [v]) C (k + 1) (by rw [List.length_append,hA];rfl) (by simpa using hB)]
  simp
theorem fill_seg {place:Nat → Option (Nat × Nat)} {A B C vs:List Value} {i off size:Nat} {rest:List (Nat × Value)} {v:Value} (hp:place i = some (off,size)) (hA:A.length = off) (hB:B.length = size) (hv:v.cells = vs.toArray) (hvl:vs.length = size) :
 Instr.fill place (A ++ (B ++ C)).toArray ((i,v) :: rest) = Instr.fill place (A ++ (vs ++ C)).toArray rest:=by
 have h1:v.cells.size = size:=by rw [hv,List.size_toArray,hvl]
 have h2:(A ++ (B ++ C)).toArray.size = off + size + C.length:=by simp [hA,hB];omega
 rw [Instr.fill,hp]
 simp only [h1,h2]
 rw [if_neg (by simp)]
 congr 1
 rw [hv,← fold_set off vs B A C 0 (by omega) (by omega),← Array.foldl_toList,Array.toList_zipIdx]
theorem build_op (f:Operand → Value) (o:Oper) (t:TypeId) (ps:List (Nat × Operand)) (ho:o.op = .build t ps.toArray) (cells:Array Value) (h:Tryz.prog.built t (ps.map fun p => (p.1,f p.2)) = some cells) (w:World):(execOp f o).run Tryz.prog w = .ok (.value (.agg cells)) w:=by
 unfold execOp
 rw [ho]
 have hm:(ps.toArray.map fun (p:Nat × Operand) => (p.1,f p.2)) = (ps.map fun p => (p.1,f p.2)).toArray:=by simp
 have hr:=run_build (P:=Tryz.prog) w t (ps.map fun p => (p.1,f p.2)).toArray cells (by simpa using h)
 simp only [hm,Sem.run_bind,hr,Result.andThen_ok,Sem.run_pure]
theorem wpSeq_build {ops:Array Oper} {Q:Exit → Act → World → Prop} {rest:List Oper} {o:Oper} {a:Act} {w:World} (t:TypeId) (ps:List (Nat × Operand)) (cells:List Value) (h1:Tryz.prog.built t (ps.map fun p => (p.1,a.eval p.2)) = some cells.toArray) (ho:o.op = .build t ps.toArray) (hw:Region.wanted o (yielded ops a.tmps) = true)
 (h:wpList Tryz.prog ops Q rest (a.put o.dst (.agg cells.toArray)) w):wpList Tryz.prog ops Q (o :: rest) a w:=
 wpSeq_val _ _ hw (build_op a.eval o t ps ho cells.toArray h1 w) h
structure NewR (cs:List Value) (t:TypeId) (w:World) (g:Nat) (w':World):Prop where
 ge:w.heap.size ≤ g
 blk:Blk w' g cs t
 below:Below w.heap.size w w'
theorem NewR.of (cs:List Value) (t:TypeId) (w:World):NewR cs t w w.heap.size (w.alloc (.cells cs.toArray t)):=⟨Nat.le_refl _,Blk.new w cs t,below_alloc w _⟩
theorem wpSeq_boxW {ops:Array Oper} {Q:Exit → Act → World → Prop} {rest:List Oper} {o:Oper} {a:Act} {w:World} (ty:TypeId) (x:Operand) (cs:List Value) (ho:o.op = .box ty x) (hx:a.eval x = .agg cs.toArray) (hw:Region.wanted o (yielded ops a.tmps) = true)
 (h:∀ g w',NewR cs ty w g w' → wpList Tryz.prog ops Q rest (a.put o.dst (.pointer (some ⟨g,0,none⟩))) w'):wpList Tryz.prog ops Q (o :: rest) a w:=
 wpSeq_box ty x ho cs hx hw _ rfl (h _ _ (NewR.of cs ty w))
structure SetR (cs:List Value) (t:TypeId) (w:World) (g:Nat) (w':World):Prop where
 blk:Blk w' g cs t
 only:Only g w w'
theorem SetR.of {cs ns:List Value} {t:TypeId} {w:World} {g:Nat} (hb:Blk w g cs t) (hl:ns.length = cs.length):SetR ns t w g (w.setCells g 0 ns):=⟨hb.whole ns hl,Only.setCells _ _ _ (Only.refl g w)⟩
theorem wpSeq_storeRow {ops:Array Oper} {Q:Exit → Act → World → Prop} {rest:List Oper} {o:Oper} {a:Act} {w:World} (ty:TypeId) (x y:Operand) (g:Nat) (cs ns:List Value) (hb:Blk w g cs ty) (hl:ns.length = cs.length) (hi:(Tryz.prog.info? ty).map (·.size) = some ns.length) (h1:∀ v ∈ ns,v.oneCell' = true)
 (ho:o.op = .store ty x y) (hx:a.eval x = .pointer (some ⟨g,0,none⟩)) (hy:a.eval y = .agg ns.toArray) (hgd:o.guard = none)
 (h:∀ w',SetR ns ty w g w' → wpList Tryz.prog ops Q rest (a.put o.dst undef) w'):wpList Tryz.prog ops Q (o :: rest) a w:=
 wpList_store_mid hgd ty x y ho g 0 _ hx hy (hb.there 0 _ (by rw [List.size_toArray,hl];omega)) (by rw [List.size_toArray];exact hi) (all_oneCell_toArray h1)
  (by rw [List.toList_toArray];exact h _ (SetR.of hb hl))
theorem wpSeq_loadW {ops:Array Oper} {Q:Exit → Act → World → Prop} {rest:List Oper} {o:Oper} {a:Act} {w:World} (ty:TypeId) (x:Operand) (b off:Nat) (cs:List Value) (d:TypeDesc) (hb:w.rangeAt b off cs) (hu:Tryz.prog.underlying ty = some d) (hd:d.isRow = true) (hi:(Tryz.prog.info? ty).map (·.size) = some cs.length) (ho:o.op = .load ty x) (hx:a.eval x = .pointer (some ⟨b,off,none⟩)) (hw:Region.wanted o (yielded ops a.tmps) = true)
 (h:wpList Tryz.prog ops Q rest (a.put o.dst (.agg cs.toArray)) w):wpList Tryz.prog ops Q (o :: rest) a w:=
 wpSeq_val _ _ hw (load_run ty x ho b off hx cs d hb hu hd hi) h
theorem wpAnyH_storeRow {md:Region.Mode} {ops:Array Oper} {Q:Exit → Act → World → Prop} {S:World → Prop} {fuel:Nat} {listed:Array Bool} {a:Act} {w:World} (i:Nat) {oi:Oper} (ty:TypeId) (x y:Operand) (g:Nat) (cs ns:List Value) (hb:Blk w g cs ty) (hl:ns.length = cs.length) (hi0:(Tryz.prog.info? ty).map (·.size) = some ns.length) (h1:∀ v ∈ ns,v.oneCell' = true)
 (hr:Region.ready md ops listed = [i]) (hi:ops[i]? = some oi) (hw:Region.wanted oi (yielded ops a.tmps) = true) (ho:oi.op = .store ty x y) (hx:a.eval x = .pointer (some ⟨g,0,none⟩)) (hy:a.eval y = .agg ns.toArray)
 (h:∀ w',SetR ns ty w g w' → S w' ∧ wpAnyH Tryz.prog md ops Q S fuel (listed.setIfInBounds i true) (a.put oi.dst undef) w'):wpAnyH Tryz.prog md ops Q S (fuel + 1) listed a w:=
 wpAnyH_law i hr hi hw (wp_store_mid ty x y ho g 0 ns.toArray hx hy (hb.there 0 _ (by rw [List.size_toArray,hl];omega)) (by rw [List.size_toArray];exact hi0) (all_oneCell_toArray h1) (by rw [List.toList_toArray];exact h _ (SetR.of hb hl)))
theorem results_row_tmp {fn:Func} {p u:Tmp} {ty:TypeId} (h:fn.results = #[.cell p ty,.tmp u]) (tmps:Array Value) (w:World) (g:Nat) (v:Value) (hp:tmps.getD p undef = .pointer (some ⟨g,0,none⟩)) (e1:(loadVar ty ⟨g,0,none⟩).run Tryz.prog w = .ok v w) :
 (results fn tmps).run Tryz.prog w = .ok (.tuple #[v,tmps.getD u undef]) w:=by
 have hp':tmps[p]?.getD undef = .pointer (some ⟨g,0,none⟩):=by simpa using hp
 simp [results,h,hp',asAddr,e1]
theorem results_row_tmp2 {fn:Func} {p u x:Tmp} {ty:TypeId} (h:fn.results = #[.cell p ty,.tmp u,.tmp x]) (tmps:Array Value) (w:World) (g:Nat) (v:Value) (hp:tmps.getD p undef = .pointer (some ⟨g,0,none⟩)) (e1:(loadVar ty ⟨g,0,none⟩).run Tryz.prog w = .ok v w) :
 (results fn tmps).run Tryz.prog w = .ok (.tuple #[v,tmps.getD u undef,tmps.getD x undef]) w:=by
 have hp':tmps[p]?.getD undef = .pointer (some ⟨g,0,none⟩):=by simpa using hp
 simp [results,h,hp',asAddr,e1]
theorem make_cap (k c:Nat) (hkc:k ≤ c) (hc:c < 281474976710600) (w:World):(Instr.makeSlice 23 (.int .i64 (k:Int)) (.int .i64 (c:Int))).run Tryz.prog w =
 .ok (.slice (some ⟨w.heap.size,0,none⟩) k c) (w.alloc (.cells (cb (List.replicate c 0)).toArray 5)):=by
 obtain ⟨i0,hi,hz0,hz1,hz2⟩:=info_parts Tryz.infob
 rw [run_make (P:=Tryz.prog) w 23 5 i0 _ Tryz.underlying23 hi hz0 .i64 .i64 _ _ (by omega) (by omega) (by rw [hz2];omega) (by omega)]
 rw [Int.toNat_natCast,Int.toNat_natCast,hz1,Nat.mul_one]
 congr 3
 simp [madeCells,cb,Value.cells,Nat.mod_one]
 apply Array.ext
 · simp
 · intro j h1 h2;simp
theorem wpSeq_make {ops:Array Oper} {Q:Exit → Act → World → Prop} {rest:List Oper} {o:Oper} {a:Act} {w:World} (x y:Operand) (k c:Nat) (hkc:k ≤ c) (hc:c < 281474976710600) (ho:o.op = .makeSlice 23 x y) (hx:a.eval x = .int .i64 (k:Int)) (hy:a.eval y = .int .i64 (c:Int)) (hw:Region.wanted o (yielded ops a.tmps) = true)
 (h:∀ g w' z,z = List.replicate c (0:BitVec 8) → w.heap.size ≤ g → Blk w' g (cb z) 5 → Below w.heap.size w w' → wpList Tryz.prog ops Q rest (a.put o.dst (.slice (some ⟨g,0,none⟩) k c)) w'):wpList Tryz.prog ops Q (o :: rest) a w:=by
 refine wpSeq_val _ _ hw ?_ (h _ _ _ rfl (Nat.le_refl _) (Blk.new w _ 5) (below_alloc _ _))
 unfold execOp
 rw [ho]
 simp only [hx,hy,Sem.run_bind,make_cap k c hkc hc]
 rfl
theorem cut_run (ga off n cap l m:Nat) (hm:0 < m) (hn:l + m ≤ n) (hc:n ≤ cap) (w:World) :
 (Instr.sliceAt 23 (.slice (some ⟨ga,off,none⟩) n cap) (some (.int .i64 (l:Int))) (some (.int .i64 ((l + m:Nat):Int))) none).run Tryz.prog w = .ok (.slice (some ⟨ga,off + l,none⟩) m (cap - l)) w:=by
 have hs:(sizeOf 5).run Tryz.prog w = .ok 1 w:=by kernel_rfl
 rw [run_sliceAt_slice w 23 _ _ _ _ (by kernel_rfl),run_slice_lh w 23 _ _ _ (by kernel_rfl) .i64 .i64 _ _ (by omega) (by omega) (by omega)]
 rw [show Tryz.prog.elem 23 = 5 from by kernel_rfl,hs]
 simp only [Result.andThen_ok,sliced,Int.toNat_natCast,Nat.mul_one]
 rw [show l + m - l = m by omega,if_neg (by omega)]
 simp [Addr.add_mid]
theorem wpSeq_cut {ops:Array Oper} {Q:Exit → Act → World → Prop} {rest:List Oper} {o:Oper} {a:Act} {w:World} (x lo hi:Operand) (ga off n cap l m:Nat) (L H:Int) (hL:L = (l:Int)) (hH:H = ((l + m:Nat):Int)) (hm:0 < m) (hn:l + m ≤ n) (hc:n ≤ cap) (ho:o.op = .slice 23 x (some lo) (some hi) none) (hx:a.eval x = .slice (some ⟨ga,off,none⟩) n cap) (hlo:a.eval lo = .int .i64 L) (hhi:a.eval hi = .int .i64 H) (hw:Region.wanted o (yielded ops a.tmps) = true)
 (h:wpList Tryz.prog ops Q rest (a.put o.dst (.slice (some ⟨ga,off + l,none⟩) m (cap - l))) w):wpList Tryz.prog ops Q (o :: rest) a w:=by
 subst hL hH
 refine wpSeq_val _ _ hw ?_ h
 unfold execOp
 rw [ho]
 simp only [hx,hlo,hhi,Option.map_some,Option.map_none,Sem.run_bind,cut_run ga off n cap l m hm hn hc w]
 rfl
theorem wpSeq_cellI {ops:Array Oper} {Q:Exit → Act → World → Prop} {rest:List Oper} {o:Oper} {a:Act} {w:World} (x y:Operand) (g k:Nat) (cs:List Value) (n:Int) (tb:TypeId) (hk:k < cs.length) (hb:Blk w g cs tb) (ho:o.op = .store 3 x y) (hx:a.eval x = .pointer (some ⟨g,k,none⟩)) (hy:a.eval y = .int .i64 n) (hw:Region.wanted o (yielded ops a.tmps) = true)
 (h:∀ w',Blk w' g (cs.set k (.int .i64 n)) tb → Only g w w' → wpList Tryz.prog ops Q rest (a.put o.dst undef) w'):wpList Tryz.prog ops Q (o :: rest) a w:=by
 have hc:w.cell? ⟨g,k,none⟩ = some cs[k]:=by rw [hb.cell,List.getElem?_eq_getElem hk]
 have hf:w.frozen? ⟨g,k,none⟩ = false:=hb.frozen k
 have he:(execOp a.eval o).run Tryz.prog w = .ok .skip (w.setCell ⟨g,k,none⟩ (.int .i64 n)):=by
  clear h hw
  generalize a.eval = f at hx hy ⊢
  unfold execOp
  rw [ho]
  simp [go_sem,hx,hy,hc,hf]
 unfold wpList
 simp only [hw,if_true]
 left
 unfold Oper.wp
 rw [he,Oper.upon_skip]
 exact h _ (hb.set k _) (Only.setCell (Only.refl g w) k _)
theorem wpSeq_cellB {ops:Array Oper} {Q:Exit → Act → World → Prop} {rest:List Oper} {o:Oper} {a:Act} {w:World} (x y:Operand) (g k:Nat) (cs:List Value) (b:Bool) (tb:TypeId) (hk:k < cs.length) (hb:Blk w g cs tb) (ho:o.op = .store 4 x y) (hx:a.eval x = .pointer (some ⟨g,k,none⟩)) (hy:a.eval y = .bool b) (hw:Region.wanted o (yielded ops a.tmps) = true)
 (h:∀ w',Blk w' g (cs.set k (.bool b)) tb → Only g w w' → wpList Tryz.prog ops Q rest (a.put o.dst undef) w'):wpList Tryz.prog ops Q (o :: rest) a w:=by
 have hc:w.cell? ⟨g,k,none⟩ = some cs[k]:=by rw [hb.cell,List.getElem?_eq_getElem hk]
 have hf:w.frozen? ⟨g,k,none⟩ = false:=hb.frozen k
 have he:(execOp a.eval o).run Tryz.prog w = .ok .skip (w.setCell ⟨g,k,none⟩ (.bool b)):=by
  clear h hw
  generalize a.eval = f at hx hy ⊢
  unfold execOp
  rw [ho]
  simp [go_sem,hx,hy,hc,hf]
 unfold wpList
 simp only [hw,if_true]
 left
 unfold Oper.wp
 rw [he,Oper.upon_skip]
 exact h _ (hb.set k _) (Only.setCell (Only.refl g w) k _)
theorem wpSeq_cellY {ops:Array Oper} {Q:Exit → Act → World → Prop} {rest:List Oper} {o:Oper} {a:Act} {w:World} (x y:Operand) (g k:Nat) (cs:List Value) (ad:Option Addr) (n c:Nat) (tb:TypeId) (hk:k < cs.length) (hb:Blk w g cs tb) (ho:o.op = .store 23 x y) (hx:a.eval x = .pointer (some ⟨g,k,none⟩)) (hy:a.eval y = .slice ad n c) (hw:Region.wanted o (yielded ops a.tmps) = true)
 (h:∀ w',Blk w' g (cs.set k (.slice ad n c)) tb → Only g w w' → wpList Tryz.prog ops Q rest (a.put o.dst undef) w'):wpList Tryz.prog ops Q (o :: rest) a w:=by
 have hc:w.cell? ⟨g,k,none⟩ = some cs[k]:=by rw [hb.cell,List.getElem?_eq_getElem hk]
 have hf:w.frozen? ⟨g,k,none⟩ = false:=hb.frozen k
 have he:(execOp a.eval o).run Tryz.prog w = .ok .skip (w.setCell ⟨g,k,none⟩ (.slice ad n c)):=by
  clear h hw
  generalize a.eval = f at hx hy ⊢
  unfold execOp
  rw [ho]
  simp [go_sem,hx,hy,hc,hf]
 unfold wpList
 simp only [hw,if_true]
 left
 unfold Oper.wp
 rw [he,Oper.upon_skip]
 exact h _ (hb.set k _) (Only.setCell (Only.refl g w) k _)
structure Mut (P:Nat → Prop) (w w':World):Prop where
 os:w'.os = w.os
 tape:w'.tape = w.tape
 output:w'.output = w.output
 size:w.heap.size ≤ w'.heap.size
 block:∀ k,k < w.heap.size → ¬ P k → w'.heap[k]? = w.heap[k]?
theorem Mut.refl (P:Nat → Prop) (w:World):Mut P w w:=⟨rfl,rfl,rfl,Nat.le_refl _,fun _ _ _ => rfl⟩
theorem Mut.trans {P P':Nat → Prop} {a b c:World} (h:Mut P a b) (hP:∀ k,k < a.heap.size → P' k → P k) (k:Mut P' b c):Mut P a c:=
 ⟨k.os.trans h.os,k.tape.trans h.tape,k.output.trans h.output,Nat.le_trans h.size k.size,fun i hi hn => (k.block i (Nat.lt_of_lt_of_le hi h.size) (fun hp => hn (hP i hi hp))).trans (h.block i hi hn)⟩
theorem mut_below {w w':World} (h:Below w.heap.size w w') (P:Nat → Prop):Mut P w w':=⟨h.os,h.tape,h.output,h.size,fun k hk _ => h.block k hk⟩
theorem Only.mut {g:Nat} {w w':World} (h:Only g w w') {P:Nat → Prop} (hg:P g):Mut P w w':=⟨h.os,h.tape,h.output,h.size,fun k hk hn => h.block k (fun e => hn (e ▸ hg)) hk⟩
theorem Mut.below {P:Nat → Prop} {w w':World} (h:Mut P w w') {B:Nat} (hB:B ≤ w.heap.size) (hP:∀ k,P k → B ≤ k):Below B w w':=⟨h.os,h.tape,h.output,h.size,fun k hk => h.block k (Nat.lt_of_lt_of_le hk hB) (fun hp => absurd (hP k hp) (by omega))⟩
theorem Mut.blk {P:Nat → Prop} {w w':World} {g:Nat} {cs:List Value} {t:TypeId} (h:Mut P w w') (hb:Blk w g cs t) (hg:¬ P g):Blk w' g cs t:=by
 have hl:=hb.lt
 unfold Blk at hb ⊢
 rw [h.block g hl hg]
 exact hb
theorem Mut.drew {P:Nat → Prop} {w w':World} (h:Mut P w w'):Mut P w w'.drew:=⟨h.os,h.tape,h.output,h.size,h.block⟩
theorem mut_drew (P:Nat → Prop) (w:World):Mut P w w.drew:=(Mut.refl P w).drew
def Sta (P:Nat → Prop) (w:World) (X:World → Prop):Prop:=∀ w',Mut P w w' → X w'
theorem Sta.now {P:Nat → Prop} {w:World} {X:World → Prop} (h:Sta P w X):X w:=h w (Mut.refl P w)
theorem Sta.at {P:Nat → Prop} {w w':World} {X:World → Prop} (h:Sta P w X) (m:Mut P w w'):X w':=h w' m
theorem Sta.go {P P':Nat → Prop} {w w':World} {X:World → Prop} (h:Sta P w X) (m:Mut P w w') (hP:∀ k,k < w.heap.size → P' k → P k):Sta P' w' X:=fun w2 m2 => h w2 (m.trans hP m2)
theorem Sta.below {P:Nat → Prop} {w w':World} {X:World → Prop} (h:Sta P w X) (hb:Below w.heap.size w w'):Sta P w' X:=h.go (mut_below hb P) (fun _ _ h => h)
theorem Sta.mono {P:Nat → Prop} {w:World} {X Y:World → Prop} (h:Sta P w X) (f:∀ w,X w → Y w):Sta P w Y:=fun w' m => f w' (h w' m)
theorem OwnB.st {w:World} {base:Nat} {v:Value} {l:Bs} (h:OwnB w base v l) {P:Nat → Prop} (hP:∀ k,P k → k < base):Sta P w (fun W => Reads W v l):=fun W m => by
 have hb:=h
 obtain ⟨h1,h2⟩:=hb
 refine OwnB.reads (base:=base) ⟨h1,?_⟩
 rcases h2 with h2 | ⟨g,cap,cur,hv,hg,hh,r⟩
 · exact Or.inl h2
 · have hlt:g < w.heap.size:=by
    rcases Nat.lt_or_ge g w.heap.size with h' | h'
    · exact h'
    · rw [Array.getElem?_eq_none h'] at hh;cases hh
   exact Or.inr ⟨g,cap,cur,hv,hg,by rw [m.block g hlt (fun hp => absurd (hP g hp) (by omega))];exact hh,r⟩
theorem Blk.stB {w:World} {g:Nat} {bs:Bs} {t:TypeId} (h:Blk w g (cb bs) t) {P:Nat → Prop} (hg:¬ P g) {n c:Nat} (hn:n = bs.length) (hc:bs.length ≤ c):Sta P w (fun W => Reads W (.slice (some ⟨g,0,none⟩) n c) bs):=fun _ m => (m.blk h hg).reads hn hc
theorem reads_nil13 (w:World):Reads w (.slice none 0 0) []:=⟨none,0,rfl,Nat.le_refl _,fun _ => rfl,fun h => by simp at h⟩
theorem Sta.nil (P:Nat → Prop) (w:World):Sta P w (fun W => Reads W (.slice none 0 0) []):=fun W _ => reads_nil13 W
theorem Mut.cell {P:Nat → Prop} {w w':World} {b k:Nat} {v:Value} (m:Mut P w w') (hb:¬ P b) (h:w.cell? ⟨b,k,none⟩ = some v):w'.cell? ⟨b,k,none⟩ = some v:=by
 have hlt:b < w.heap.size:=block_lt_of_cell h
 have hm:=m.block b hlt hb
 have e:∀ W:World,W.heap[b]? = w.heap[b]? → W.cell? ⟨b,k,none⟩ = w.cell? ⟨b,k,none⟩:=fun W hW => by
  unfold World.cell?
  rw [hW]
 rw [e w' hm]
 exact h
def Grew (w:World) (P P':Nat → Prop):Prop:=∀ k,P' k → P k ∨ w.heap.size ≤ k
theorem Grew.old {w:World} {P P':Nat → Prop} (h:Grew w P P'):∀ k,k < w.heap.size → P' k → P k:=fun k hk hp => (h k hp).elim id (fun h => absurd h (by omega))
theorem Grew.trans {w w':World} {P P' P'':Nat → Prop} (h:Grew w P P') (hs:w.heap.size ≤ w'.heap.size) (h2:Grew w' P' P''):Grew w P P'':=fun k hk => by
 rcases h2 k hk with h3 | h3
 · exact h k h3
 · exact Or.inr (Nat.le_trans hs h3)
theorem Grew.refl (w:World) (P:Nat → Prop):Grew w P P:=fun _ h => Or.inl h
theorem Reads.atB {w:World} {ad:Option Addr} {n c:Nat} {l:Bs} (h:Reads w (.slice ad n c) l) (hp:0 < l.length):∃ b off,ad = some ⟨b,off,none⟩ ∧ ∀ j,j < l.length → w.cell? ⟨b,off + j,none⟩ = some (.int .u8 ((l.getD j 0).toNat:Int)):=by
 obtain ⟨ad',cap,hv,_,_,hx⟩:=h
 simp only [Value.slice.injEq] at hv
 obtain ⟨rfl,_,_⟩:=hv
 exact hx hp
end Go.Proofs.YtheincjkoefalaaGreatDoor

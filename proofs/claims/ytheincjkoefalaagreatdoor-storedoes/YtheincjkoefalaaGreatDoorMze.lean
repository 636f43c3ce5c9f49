/- Texts that the proof leans on, one behind the other: The walks of the reader's Num and Count. The walks of bytes.Clone, of the reader's Text and Digest. The walks of codec.Read and of what it defers: what is thrown is caught. .. -/
import Derived.Test.YtheincjkoefalaaGreatDoorMzd
import Derived.BigQuiet
import Derived.Deep.RegionHeld3
import Derived.Laws.Rows
import Derived.Maps.OwnSet
set_option maxRecDepth 100000
set_option maxHeartbeats 16000000
namespace Go.Proofs.YtheincjkoefalaaGreatDoor
open Go.RowKit
structure RnInv (gr gi:Nat) (v0:Value) (w:World) (l:List (BitVec 8)) (k acc:Nat) (rest:List (BitVec 8)) (wr:World):Prop where
 le:k ≤ 10
 lt:acc < 2 ^ (7 * k)
 eq:readNum l = decNum (10 - k) k acc rest
 rd:∃ v,Rd wr gr gi v rest ∧ v.ownBlock = v0.ownBlock
 onl:Only gi w wr
theorem dec_step (k acc:Nat) (hk:k < 10) (c:BitVec 8) (r:List (BitVec 8)):decNum (10 - k) k acc (c :: r) =
 if (k = 9 ∧ 1 < c.toNat) ∨ (0 < k ∧ c.toNat = 0) then none else if c.toNat < 128 then some (acc + c.toNat % 128 * 2 ^ (7 * k),r) else decNum (10 - (k + 1)) (k + 1) (acc + c.toNat % 128 * 2 ^ (7 * k)) r:=by
 rw [show 10 - k = (10 - (k + 1)) + 1 by omega,decNum]
theorem dec_nil (k acc:Nat) (hk:k < 10):decNum (10 - k) k acc [] = none:=by
 rw [show 10 - k = (10 - (k + 1)) + 1 by omega,decNum]
theorem or_add (acc g k:Nat) (hk:k < 10) (h:acc < 2 ^ (7 * k)) (h2:g * 2 ^ (7 * k) < 18446744073709551616):bits .or .u64 (acc:Int) (IntKind.u64.wrap ((g:Int) * 2 ^ (7 * k))) = ((acc + g * 2 ^ (7 * k):Nat):Int):=by
 have e:(g:Int) * 2 ^ (7 * k) = ((g * 2 ^ (7 * k):Nat):Int):=by simp
 have hs:acc + g * 2 ^ (7 * k) < 18446744073709551616 ∧ acc ||| g * 2 ^ (7 * k) = acc + g * 2 ^ (7 * k):=by
  have h3:=Nat.two_pow_add_eq_or_of_lt h g
  rw [Nat.mul_comm] at h3
  have h4:g * 2 ^ (7 * k) ||| acc = acc ||| g * 2 ^ (7 * k):=Nat.or_comm _ _
  have h5:acc ||| g * 2 ^ (7 * k) < 2 ^ 64:=by
   by_cases hg:g = 0
   · subst hg
     simp only [Nat.zero_mul,Nat.or_zero] at *
     exact Nat.lt_of_lt_of_le h (Nat.pow_le_pow_right (by omega) (by omega))
   · apply Nat.or_lt_two_pow
     · have:2 ^ (7 * k) ≤ g * 2 ^ (7 * k):=Nat.le_mul_of_pos_left _ (by omega)
       omega
     · omega
  omega
 rw [e]
 have hw:IntKind.u64.wrap ((g * 2 ^ (7 * k):Nat):Int) = ((g * 2 ^ (7 * k):Nat):Int):=by rw [IntKind.wrap_u64];omega
 rw [hw]
 generalize g * 2 ^ (7 * k) = x at *
 show IntKind.u64.wrap ((BitVec.ofInt 64 (acc:Int) ||| BitVec.ofInt 64 (x:Int)).toNat:Int) = _
 rw [BitVec.ofInt_natCast,BitVec.ofInt_natCast,BitVec.toNat_or,BitVec.toNat_ofNat,BitVec.toNat_ofNat,Nat.mod_eq_of_lt (by omega),Nat.mod_eq_of_lt (by omega),hs.2,IntKind.wrap_u64]
 omega
theorem top_small (k g:Nat) (hk:k < 10) (hg:g < 128) (h:18446744073709551615 / 2 ^ (7 * k) < g):k = 9 ∧ 1 < g:=by
 by_cases h9:k = 9
 · subst h9
   simp only [Nat.reduceMul,Nat.reducePow,Nat.reduceDiv] at h;omega
 · exfalso
   have h1:18446744073709551615 / 2 ^ 56 ≤ 18446744073709551615 / 2 ^ (7 * k):=Nat.div_le_div_left (Nat.pow_le_pow_right (by omega) (by omega)) (Nat.pow_pos (by omega))
   simp only [Nat.reducePow,Nat.reduceDiv] at h1;omega
theorem top_cast (k:Nat):(18446744073709551615:Int) / 2 ^ (7 * k) = ((18446744073709551615 / 2 ^ (7 * k):Nat):Int):=by simp
theorem crnum_any (gr gi:Nat) (v:Value) (l:List (BitVec 8)) (w:World) (h:Rd w gr gi v l) :
 Calls Tryz.prog 68 #[.pointer (some ⟨gr,0,none⟩)] w fun e w' => RdDoes gr gi v w (readNum l) (fun a _ v => v = .int .u64 (a:Int)) e w':=by
 have hI:RnInv gr gi v w l 0 0 l w:=⟨by omega,by simp,rfl,⟨v,h,rfl⟩,Only.refl _ _⟩
 clear h
 go_enter Tryz.func68,Tryz.ntmps68
 go_wp2
 go_loopw [3,8] (fun x i wr => ∃ (k acc:Nat) (rest:List (BitVec 8)),i = .int .i64 (k:Int) ∧ x = .int .u64 (acc:Int) ∧ RnInv gr gi v w l k acc rest wr) (fun _ i _ => 10 - (intOf i).toNat)
 case atStart => exact ⟨0,0,l,rfl,rfl,hI⟩
 case round =>
  clear hI
  obtain ⟨k,acc,rest,rfl,rfl,hI⟩:=hrel
  have hk:=hI.le
  have HI:Hid (RnInv gr gi v w l k acc rest wr):=hI
  clear hI
  by_cases hlt:k < 10
  · go_wp2_with fail
    obtain ⟨v1,h1,hob1⟩:=HI.out.rd;refine (take_any gr gi 1 v1 rest wr h1 (by omega)).mono ?_
    rintro e w1 hT
    rcases hT with ⟨a,r,va,v2,hc,rfl,hr,hrd,ho,hob⟩ | ⟨hc,hT⟩
    · obtain ⟨c,rest2,rfl⟩:∃ c rest2,rest = c :: rest2:=by
       cases rest with
       | nil => simp [cut] at hc
       | cons c r => exact ⟨c,r,rfl⟩
      simp [cut] at hc
      obtain ⟨rfl,rfl⟩:=hc;obtain ⟨ad,cap,rfl,_,_,hx⟩:=hr;obtain ⟨b,off,rfl,hy⟩:=hx (by simp)
      have cc:=hy 0 (by simp)
      simp at cc
      have hc8:=c.isLt
      have HE:Hid (readNum l = if (k = 9 ∧ 1 < c.toNat) ∨ (0 < k ∧ c.toNat = 0) then none else if c.toNat < 128 then some (acc + c.toNat % 128 * 2 ^ (7 * k),rest2) else decNum (10 - (k + 1)) (k + 1) (acc + c.toNat % 128 * 2 ^ (7 * k)) rest2):=by
       show _ = _;rw [HI.out.eq,dec_step k acc hlt]
      obtain ⟨cn,HCN⟩:=sqn (c.toNat);rw [← HCN.out] at cc hc8 HE;have HRD:Hid (Rd w1 gr gi v2 rest2):=hrd;have HOB:Hid (v2.ownBlock = v.ownBlock):=hob.trans hob1;clear hob hob1;have HO:Hid (Only gi w w1):=HI.out.onl.trans ho;have HA:Hid (acc < 2 ^ (7 * k)):=HI.out.lt;clear hx hy hrd ho h1 HI;have h7:IntKind.i64.wrap (7 * (k:Int)) = 7 * (k:Int):=by rw [IntKind.wrap_i64];omega
      have h70:¬ (7 * (k:Int) < 0):=by omega
      have HT:=top_cast k
      by_cases hA:18446744073709551615 / 2 ^ (7 * k) < cn % 128
      · have hAi:(18446744073709551615:Int) / 2 ^ (7 * k) < (cn:Int) % 128:=by rw [HT];omega
        have HNo:Hid (readNum l = none):=by
         show _ = _;obtain ⟨h9,h10⟩:=top_small k _ hlt (by omega) hA
         rw [HE.out,if_pos (Or.inl ⟨h9,by omega⟩)]
        clear HT hA HE
        go_wp2_with fail
        refine (cfail_any gr gi v2 rest2 w1 HRD.out).mono ?_;rintro e w2 ⟨rfl,rfl⟩;have hT:=HRD.out.threw.after HO.out;obtain ⟨w2,HW2⟩:∃ x,Hid (x = w1.setCell ⟨gi,2,none⟩ (.bool true)):=⟨_,rfl⟩;rw [← HW2.out] at hT ⊢;unfold thrown at hT ⊢;go_wp2;exact ⟨rfl,Or.inr ⟨HNo.out,hT⟩⟩
      · have hAi:¬ ((18446744073709551615:Int) / 2 ^ (7 * k) < (cn:Int) % 128):=by rw [HT];omega
        have HG:Hid (cn % 128 * 2 ^ (7 * k) < 18446744073709551616):=by
         have h1:cn % 128 * 2 ^ (7 * k) ≤ 18446744073709551615 / 2 ^ (7 * k) * 2 ^ (7 * k):=Nat.mul_le_mul_right _ (by omega)
         have h2:=Nat.div_mul_le_self 18446744073709551615 (2 ^ (7 * k));show _ < _;omega
        have hor:=or_add acc (cn % 128) k hlt HA.out HG.out;rw [show ((cn % 128:Nat):Int) = (cn:Int) % 128 by omega] at hor
        obtain ⟨sm,HSM⟩:=sqn (acc + cn % 128 * 2 ^ (7 * k));rw [← HSM.out] at hor HE
        have HS2:Hid (sm < 2 ^ (7 * (k + 1))):=by
         show _ < _;rw [HSM.out,pow7];have h1:=HA.out;have h2:cn % 128 * 2 ^ (7 * k) ≤ 127 * 2 ^ (7 * k):=Nat.mul_le_mul_right _ (by omega)
         omega
        clear HT hA
        by_cases hB:0 < k ∧ cn = 0
        · obtain ⟨hk0,rfl⟩:=hB
          have HNo:Hid (readNum l = none):=by show _ = _;rw [HE.out,if_pos (Or.inr ⟨hk0,rfl⟩)]
          clear HE hor
          go_wp2_with fail
          refine (cfail_any gr gi v2 rest2 w1 HRD.out).mono ?_;rintro e w2 ⟨rfl,rfl⟩;have hT:=HRD.out.threw.after HO.out;obtain ⟨w2,HW2⟩:∃ x,Hid (x = w1.setCell ⟨gi,2,none⟩ (.bool true)):=⟨_,rfl⟩;rw [← HW2.out] at hT ⊢;unfold thrown at hT ⊢;go_wp2;exact ⟨rfl,Or.inr ⟨HNo.out,hT⟩⟩
        · by_cases hC:cn < 128
          · have hC2:(cn:Int) < 128:=by omega
            have HYes:Hid (readNum l = if k = 9 ∧ 1 < cn then none else some (sm,rest2)):=by
             show _ = _;rw [HE.out,if_pos hC]
             by_cases h9:k = 9 ∧ 1 < cn
             · rw [if_pos (Or.inl h9),if_pos h9]
             · rw [if_neg (by rintro (h | h);exact h9 h;exact hB h),if_neg h9]
            have H9:Hid (¬ (k = 9 ∧ 1 < cn)):=by
             rintro ⟨rfl,h⟩;have:=HG.out;simp only [Nat.reduceMul,Nat.reducePow] at this;omega
            have HY2:Hid (readNum l = some (sm,rest2)):=by show _ = _;rw [HYes.out,if_neg H9.out]
            clear HE HYes
            by_cases hz:cn = 0
            · have hk0:k = 0:=by omega
              subst hz hk0;have ha0:acc = 0:=by have:=HA.out;simp at this;omega
              subst ha0;have hs0:sm = 0:=HSM.out;subst hs0;clear hor hB h70 h7 hAi;go_wp2;go_ret;exact Or.inl ⟨0,rest2,_,v2,HY2.out,rfl,rfl,HRD.out,HO.out,HOB.out⟩
            · have hz2:¬ ((cn:Int) = 0):=by omega
              clear hB;go_wp2;go_ret;exact Or.inl ⟨sm,rest2,_,v2,HY2.out,rfl,rfl,HRD.out,HO.out,HOB.out⟩
          · have hC2:¬ ((cn:Int) < 128):=by omega
            have hz2:¬ ((cn:Int) = 0):=by omega
            have HD:Hid (readNum l = decNum (10 - (k + 1)) (k + 1) sm rest2):=by
             show _ = _;rw [HE.out,if_neg hC]
             by_cases h9:k = 9
             · subst h9
               rw [if_pos (Or.inl ⟨rfl,by omega⟩)];rfl
             · rw [if_neg (by omega)]
            clear HE hB hC;go_wp2;go_roundw
            case rel => exact ⟨k + 1,sm,rest2,by go_num,rfl,by omega,HS2.out,HD.out,⟨v2,HRD.out,HOB.out⟩,HO.out⟩
            case measure => simp [intOf];omega
    · have hn:rest = []:=by
       cases rest with
       | nil => rfl
       | cons c r => simp [cut] at hc
      subst hn;have HNo:Hid (readNum l = none):=by show _ = _;rw [HI.out.eq,dec_nil k acc hlt]
      have hT2:=hT.after HI.out.onl;obtain rfl:=hT.eq;unfold thrown at hT2 ⊢;clear hT HI h1;go_wp2;exact ⟨rfl,Or.inr ⟨HNo.out,hT2⟩⟩
  · have hk10:k = 10:=by omega
    subst hk10;have HNo:Hid (readNum l = none):=by show _ = _;rw [HI.out.eq];rfl
    obtain ⟨v1,h1,hob1⟩:=HI.out.rd;have HO:=HI.out.onl;have HRD:Hid (Rd wr gr gi v1 rest):=h1;clear HI h1
    go_wp2_with fail
    refine (cfail_any gr gi v1 rest wr HRD.out).mono ?_;rintro e w2 ⟨rfl,rfl⟩;have hT:=HRD.out.threw.after HO;obtain ⟨w2,HW2⟩:∃ x,Hid (x = wr.setCell ⟨gi,2,none⟩ (.bool true)):=⟨_,rfl⟩;rw [← HW2.out] at hT ⊢;unfold thrown at hT ⊢;go_wp2;exact ⟨rfl,Or.inr ⟨HNo.out,hT⟩⟩
def readCount (most:Nat) (l:List (BitVec 8)):Option (Nat × List (BitVec 8)):=
 match readNum l with
 | none => none
 | some (n,r) => if n ≤ most then some (n,r) else none
theorem ccount_any (gr gi most:Nat) (hm:most < 9223372036854775808) (v:Value) (l:List (BitVec 8)) (w:World) (h:Rd w gr gi v l) :
 Calls Tryz.prog 40 #[.pointer (some ⟨gr,0,none⟩),.int .i64 (most:Int)] w fun e w' => RdDoes gr gi v w (readCount most l) (fun a _ v => v = .int .i64 (a:Int)) e w':=by
 have HR:Hid (Rd w gr gi v l):=h
 have hw:IntKind.u64.wrap (most:Int) = (most:Int):=by rw [IntKind.wrap_u64];omega
 have h0:¬ ((most:Int) < 0):=by omega
 clear h
 go_enter Tryz.func40,Tryz.ntmps40
 go_wp2_with fail
 refine (crnum_any gr gi v l w HR.out).mono ?_
 rintro e w1 (⟨n,r,va,v2,hc,rfl,rfl,hrd,ho,hob⟩ | ⟨hc,hT⟩)
 · have HRD:Hid (Rd w1 gr gi v2 r):=hrd
   have HOB:Hid (v2.ownBlock = v.ownBlock):=hob;clear hob;have HO:Hid (Only gi w w1):=ho;have HC:Hid (readCount most l = if n ≤ most then some (n,r) else none):=by show _ = _;unfold readCount;rw [hc]
   clear hrd ho hc
   by_cases hle:n ≤ most
   · have hng:¬ ((most:Int) < (n:Int)):=by omega
     have hwn:IntKind.i64.wrap (n:Int) = (n:Int):=by rw [IntKind.wrap_i64];omega
     have HC2:Hid (readCount most l = some (n,r)):=by show _ = _;rw [HC.out,if_pos hle]
     clear HC;go_wp2;go_ret;exact Or.inl ⟨n,r,_,v2,HC2.out,rfl,rfl,HRD.out,HO.out,HOB.out⟩
   · have hg:(most:Int) < (n:Int):=by omega
     have HC2:Hid (readCount most l = none):=by show _ = _;rw [HC.out,if_neg hle]
     clear HC hle
     go_wp2_with fail
     refine (cfail_any gr gi v2 r w1 HRD.out).mono ?_;rintro e w2 ⟨rfl,rfl⟩;have hT:=HRD.out.threw.after HO.out;obtain ⟨w2,HW2⟩:∃ x,Hid (x = w1.setCell ⟨gi,2,none⟩ (.bool true)):=⟨_,rfl⟩;rw [← HW2.out] at hT ⊢;unfold thrown at hT ⊢;go_wp2;exact ⟨rfl,Or.inr ⟨HC2.out,hT⟩⟩
 · have HC2:Hid (readCount most l = none):=by show _ = _;unfold readCount;rw [hc]
   have hT2:=hT;obtain rfl:=hT.eq;unfold thrown at hT2 ⊢;clear hT hc;go_wp2;exact ⟨rfl,Or.inr ⟨HC2.out,hT2⟩⟩
theorem OwnB.zero (w:World) (base g:Nat) (hg:base ≤ g) (h:Blk w g [] 5):OwnB w base (.slice (some ⟨g,0,none⟩) 0 0) []:=
 OwnB.of_blk (l:=[]) (c:=0) h hg rfl (by unfold maxLen;omega) (Nat.le_refl _) rfl
theorem clone_any (v:Value) (l:List (BitVec 8)) (w:World) (h:Reads w v l) (hl:l.length ≤ 140737488355328) :
 Calls Tryz.prog 64 #[v] w fun e w' => ∃ v',e = .returned v' ∧ OwnB w' w.heap.size v' l ∧ Below w.heap.size w w':=by
 have HR:Hid (Reads w v l):=h
 have HL:Hid (l.length ≤ 140737488355328):=hl
 obtain ⟨ad,cap,rfl,_,hn,hx⟩:=h
 cases ad with
 | none =>
  have h0:l = []:=by
   cases l with
   | nil => rfl
   | cons b r => obtain ⟨b,off,h1,_⟩:=hx (by simp);cases h1
  subst h0
  have:=hn rfl
  subst this
  clear hx hn hl
  have hnil:∀ (a:Option Addr) (n c:Nat) (w:World),(binOp .eql 23 (.slice a n c) (.slice none 0 0)).run Tryz.prog w = .ok (.bool a.isNone) w:=fun a n c w => Lib.run_eql_slice_nil w 23 5 a n c 0 0 Tryz.underlying23
  go_enter Tryz.func64,Tryz.ntmps64
  go_wp2
  go_ret
  exact ⟨_,rfl,OwnB.nil _ _,Below.refl _ _⟩
 | some ad =>
  clear hx hn hl
  obtain ⟨m,HM⟩:=sqn (l.length)
  rw [← HM.out] at HR ⊢
  have HB:=below_alloc w (.cells ([]:List Value).toArray 5)
  have HO:Hid (OwnB (w.alloc (.cells ([]:List Value).toArray 5)) w.heap.size (.slice (some ⟨w.heap.size,0,none⟩) 0 0) []):=OwnB.zero _ _ _ (Nat.le_refl _) (Blk.new w [] 5)
  have HR1:Hid (Reads (w.alloc (.cells ([]:List Value).toArray 5)) (.slice (some ad) m cap) l):=HR.out.below HB
  have HBB:Hid (Below w.heap.size w (w.alloc (.cells ([]:List Value).toArray 5))):=HB
  clear HB
  have hnil:∀ (a:Option Addr) (n c:Nat) (w:World),(binOp .eql 23 (.slice a n c) (.slice none 0 0)).run Tryz.prog w = .ok (.bool a.isNone) w:=fun a n c w => Lib.run_eql_slice_nil w 23 5 a n c 0 0 Tryz.underlying23
  go_enter Tryz.func64,Tryz.ntmps64
  go_wp2_with (at_builtin;refine wpList_appendB rfl (.tmp 5) (.tmp 6) rfl w.heap.size _ [] rfl HO.out _ l rfl HR1.out (by have:=HL.out;simp;omega) HBB.out.size ?_;intro v2 w2 hown2 hb2 _)
  have hB2:=HBB.out.trans hb2
  go_wp2
  go_ret
  exact ⟨_,rfl,hown2,hB2⟩
theorem Rd.below {w w':World} {gr gi:Nat} {v:Value} {l:List (BitVec 8)} (h:Rd w gr gi v l) (hb:Below w.heap.size w w'):Rd w' gr gi v l:=⟨h.rd.below hb h.rd.lt,h.inp.below hb h.inp.lt,h.byt.below hb⟩
theorem Threw.down {gi:Nat} {w w1:World} {e:Ending} (h:Threw gi w e w1):e = .panicked [{ v:=.iface 118 (.pointer (some ⟨gi,0,none⟩)),recovered:=false }]:=h.eq
theorem crtext_any (gr gi:Nat) (v:Value) (l:List (BitVec 8)) (w:World) (h:Rd w gr gi v l) :
 Calls Tryz.prog 69 #[.pointer (some ⟨gr,0,none⟩)] w fun e w' => RdDoes gr gi v w (readText l) (fun a w' v => OwnB w' w.heap.size v a) e w':=by
 have HR:Hid (Rd w gr gi v l):=h
 clear h
 go_enter Tryz.func69,Tryz.ntmps69
 go_wp2_with fail
 refine (ccount_any gr gi 1048576 (by omega) v l w HR.out).mono ?_
 rintro e w1 (⟨n,r,va,v2,hc,rfl,rfl,hrd,ho,hob⟩ | ⟨hc,hT⟩)
 · obtain ⟨hn,HT⟩:n ≤ 1048576 ∧ Hid (readText l = if n ≤ r.length then some (r.take n,r.drop n) else none):=by
    unfold readCount at hc
    cases h1:readNum l with
    | none => rw [h1] at hc;cases hc
    | some p =>
     obtain ⟨m,s⟩:=p;rw [h1] at hc;simp only at hc
     split at hc
     · rename_i hle
       simp only [Option.some.injEq,Prod.mk.injEq] at hc;obtain ⟨rfl,rfl⟩:=hc;refine ⟨hle,?_⟩;show _ = _;unfold readText;rw [h1];simp only [hle,true_and]
     · cases hc
   have HRD:Hid (Rd w1 gr gi v2 r):=hrd;have HO:Hid (Only gi w w1):=ho;clear hrd ho hc
   go_wp2_with fail
   refine (take_any gr gi n v2 r w1 HRD.out (by omega)).mono ?_
   rintro e w2 (⟨a,r2,va,v3,hc,rfl,hr,hrd,ho,hob2⟩ | ⟨hc,hT⟩)
   · have hle:n ≤ r.length:=by
      unfold cut at hc
      split at hc
      · assumption
      · cases hc
     have HT2:Hid (readText l = some (a,r2)):=by
      show _ = _;rw [HT.out,if_pos hle];unfold cut at hc;rw [if_pos hle] at hc;exact hc
     have HA:Hid (a.length ≤ 1048576):=by
      unfold cut at hc;rw [if_pos hle] at hc;simp only [Option.some.injEq,Prod.mk.injEq] at hc;show _ ≤ _;rw [← hc.1,List.length_take];omega
     have HRD2:Hid (Rd w2 gr gi v3 r2):=hrd;have HO2:Hid (Only gi w w2):=HO.out.trans ho;have HRR:Hid (Reads w2 va a):=hr;clear hrd ho hc hr HT HRD HO hle
     go_wp2_with fail
     refine (clone_any va a w2 HRR.out (by have:=HA.out;omega)).mono ?_
     rintro e w3 ⟨v4,rfl,hown,hb⟩
     have HF:Hid (RdDoes gr gi v w (readText l) (fun a w' v => OwnB w' w.heap.size v a) (.returned v4) w3):=
      Or.inl ⟨a,r2,v4,v3,HT2.out,rfl,⟨hown.1,hown.2.imp id (fun ⟨g,c,cur,h1,h2,h3⟩ => ⟨g,c,cur,h1,Nat.le_trans HO2.out.size h2,h3⟩)⟩,HRD2.out.below hb,HO2.out.trans (Only.of_below hb),hob2.trans hob⟩
     clear hown hb;go_wp2;go_ret;exact HF.out
   · have hle:¬ n ≤ r.length:=by
      unfold cut at hc
      split at hc
      · cases hc
      · assumption
     have HT2:Hid (readText l = none):=by show _ = _;rw [HT.out,if_neg hle]
     have hT2:=hT.after HO.out;obtain rfl:=hT.down;clear hT hc HT hle;go_wp2;exact ⟨rfl,Or.inr ⟨HT2.out,hT2⟩⟩
 · have HC2:Hid (readText l = none):=by
    show _ = _;unfold readText;unfold readCount at hc
    cases h1:readNum l with
    | none => rfl
    | some p =>
     obtain ⟨m,s⟩:=p;rw [h1] at hc;simp only at hc ⊢
     split at hc
     · cases hc
     · rename_i hle
       rw [if_neg (by omega)]
   have hT2:=hT;obtain rfl:=hT.down;clear hT hc;go_wp2;exact ⟨rfl,Or.inr ⟨HC2.out,hT2⟩⟩
theorem Rd.others {w w':World} {gr gi B:Nat} {v:Value} {l:List (BitVec 8)} (h:Rd w gr gi v l) (hgr:gr < B) (hgi:gi < B) (hv:0 < l.length → ∀ k,v.ownBlock = some k → k < B) {C:Nat} (hC:B ≤ C) (hb:Below C w w'):Rd w' gr gi v l:=by
 refine ⟨h.rd.below hb (by omega),h.inp.below hb (by omega),?_⟩
 obtain ⟨ad,cap,rfl,hc,hn,hx⟩:=h.byt
 refine ⟨ad,cap,rfl,hc,hn,fun hp => ?_⟩
 obtain ⟨b,off,rfl,hy⟩:=hx hp
 refine ⟨b,off,rfl,fun j hj => ?_⟩
 have:b < C:=Nat.lt_of_lt_of_le (hv hp b rfl) hC
 rw [hb.cell (p:=⟨b,off + j,none⟩) this]
 exact hy j hj
theorem catch_threw (gin ge gi:Nat) (v:Value) (x:Int) (w:World) (ad:Option Addr) (n c:Nat) (hv:v = .slice ad n c) (hin:Blk w gin [.pointer (some ⟨gi,0,none⟩)] 118) (hi:Blk w gi [v,.bool true,.bool true] 120) (he:Blk w ge [.int .i64 x] 26) :
 CallsD Tryz.prog 67 #[.pointer (some ⟨gin,0,none⟩),.pointer (some ⟨ge,0,none⟩)] (.panicking [{ v:=.iface 118 (.pointer (some ⟨gi,0,none⟩)),recovered:=false }]) w fun e u' w' =>
  e = .returned (.tuple #[]) ∧ u' = .panicking [{ v:=.iface 118 (.pointer (some ⟨gi,0,none⟩)),recovered:=true }] ∧ w' = (w.setCells gi 0 [.slice none 0 0,.bool false,.bool false]).setCell ⟨ge,0,none⟩ (.int .i64 3):=by
 subst hv
 have ci:w.cell? ⟨gin,0,none⟩ = some (.pointer (some ⟨gi,0,none⟩)):=hin.cell 0
 have c2:w.cell? ⟨gi,2,none⟩ = some (.bool true):=hi.cell 2
 have c0:w.cell? ⟨gi,0,none⟩ = some (.slice ad n c):=hi.cell 0
 have c1:w.cell? ⟨gi,1,none⟩ = some (.bool true):=hi.cell 1
 have f0:w.frozen? ⟨gi,0,none⟩ = false:=hi.frozen 0
 have f1:w.frozen? ⟨gi,1,none⟩ = false:=hi.frozen 1
 have f2:w.frozen? ⟨gi,2,none⟩ = false:=hi.frozen 2
 have ce:w.cell? ⟨ge,0,none⟩ = some (.int .i64 x):=he.cell 0
 have fe:w.frozen? ⟨ge,0,none⟩ = false:=he.frozen 0
 have hge:ge ≠ gi:=by
  intro h
  subst h
  unfold Blk at he hi
  rw [he] at hi
  simp at hi
 have hta:∀ (pv:Value) (w:World),(Instr.typeAssert (.iface 118 pv) 20 118 true).run Tryz.prog w = .ok (.tuple #[pv,.bool true]) w:=fun _ _ => by kernel_rfl
 have hnot:∀ (x:Bool) (w:World),(Op.unary .not (.bool x)).run Tryz.prog w = .ok (.bool (!x)) w:=fun _ _ => rfl
 refine callsD_of_wpS Tryz.func67 rfl fun c₀ cs hu => ?_
 simp only [Tryz.ntmps67,List.size_toArray,List.length_cons,List.length_nil,Nat.reduceAdd,Nat.reduceSub,Array.replicate_succ,Array.replicate_zero,List.push_toArray,List.append_toArray,List.nil_append,List.cons_append]
 apply wpS_seq
 refine wpS_of_wp ?_
 go_wp2
 simp only [Exit.thenS]
 apply wpS_seq
 refine wpS_of_wp ?_
 go_wp2
 simp only [Exit.thenS]
 apply wpS_seq
 refine wpS_of_wp ?_
 go_wp2
 simp only [Exit.thenS]
 apply wpS_seq
 apply wpS_region
 simp [wpOpsS,go_sem,recoverD,hu,Exit.thenS]
 refine wpS_of_wp ?_
 go_wp2
 exact ⟨rfl,_,rfl,_,results_none rfl _ _ _,rfl,rfl,rfl⟩
theorem catch_idle (gin ge gi:Nat) (v:Value) (x:Int) (w:World) (ad:Option Addr) (n c:Nat) (hv:v = .slice ad n c) (hin:Blk w gin [.pointer (some ⟨gi,0,none⟩)] 118) (hi:Blk w gi [v,.bool true,.bool false] 120) (he:Blk w ge [.int .i64 x] 26) :
 CallsD Tryz.prog 67 #[.pointer (some ⟨gin,0,none⟩),.pointer (some ⟨ge,0,none⟩)] .returning w fun e u' w' =>
  e = .returned (.tuple #[]) ∧ u' = .returning ∧ w' = if n = 0 then ((w.setCells gi 0 [.slice none 0 0,.bool false,.bool false]).setCell ⟨ge,0,none⟩ (.int .i64 3)).setCell ⟨ge,0,none⟩ (.int .i64 0) else (w.setCells gi 0 [.slice none 0 0,.bool false,.bool false]).setCell ⟨ge,0,none⟩ (.int .i64 3):=by
 subst hv
 have ci:w.cell? ⟨gin,0,none⟩ = some (.pointer (some ⟨gi,0,none⟩)):=hin.cell 0
 have c2:w.cell? ⟨gi,2,none⟩ = some (.bool false):=hi.cell 2
 have c0:w.cell? ⟨gi,0,none⟩ = some (.slice ad n c):=hi.cell 0
 have c1:w.cell? ⟨gi,1,none⟩ = some (.bool true):=hi.cell 1
 have f0:w.frozen? ⟨gi,0,none⟩ = false:=hi.frozen 0
 have f1:w.frozen? ⟨gi,1,none⟩ = false:=hi.frozen 1
 have f2:w.frozen? ⟨gi,2,none⟩ = false:=hi.frozen 2
 have ce:w.cell? ⟨ge,0,none⟩ = some (.int .i64 x):=he.cell 0
 have fe:w.frozen? ⟨ge,0,none⟩ = false:=he.frozen 0
 have hge:ge ≠ gi:=by
  intro h
  subst h
  unfold Blk at he hi
  rw [he] at hi
  simp at hi
 have hnot:∀ (x:Bool) (w:World),(Op.unary .not (.bool x)).run Tryz.prog w = .ok (.bool (!x)) w:=fun _ _ => rfl
 by_cases hn:n = 0
 · subst hn
   rw [if_pos rfl];refine callsD_of_wpS Tryz.func67 rfl fun c₀ cs hu => ?_
   simp only [Tryz.ntmps67,List.size_toArray,List.length_cons,List.length_nil,Nat.reduceAdd,Nat.reduceSub,Array.replicate_succ,Array.replicate_zero,List.push_toArray,List.append_toArray,List.nil_append,List.cons_append]
   apply wpS_seq
   refine wpS_of_wp ?_;go_wp2;simp only [Exit.thenS]
   apply wpS_seq
   refine wpS_of_wp ?_;go_wp2;simp only [Exit.thenS]
   apply wpS_seq
   refine wpS_of_wp ?_;go_wp2;simp only [Exit.thenS]
   apply wpS_seq
   apply wpS_region
   simp [wpOpsS,go_sem,recoverD,hu,Exit.thenS]
   refine wpS_of_wp ?_;go_wp2;exact ⟨rfl,_,rfl,_,results_none rfl _ _ _,rfl,hu,rfl⟩
 · rw [if_neg hn]
   have hn2:¬ ((n:Int) = 0):=by omega
   refine callsD_of_wpS Tryz.func67 rfl fun c₀ cs hu => ?_
   simp only [Tryz.ntmps67,List.size_toArray,List.length_cons,List.length_nil,Nat.reduceAdd,Nat.reduceSub,Array.replicate_succ,Array.replicate_zero,List.push_toArray,List.append_toArray,List.nil_append,List.cons_append]
   apply wpS_seq
   refine wpS_of_wp ?_;go_wp2;simp only [Exit.thenS]
   apply wpS_seq
   refine wpS_of_wp ?_;go_wp2;simp only [Exit.thenS]
   apply wpS_seq
   refine wpS_of_wp ?_;go_wp2;simp only [Exit.thenS]
   apply wpS_seq
   apply wpS_region
   simp [wpOpsS,go_sem,recoverD,hu,Exit.thenS]
   refine wpS_of_wp ?_;go_wp2;exact ⟨rfl,_,rfl,_,results_none rfl _ _ _,rfl,hu,rfl⟩
structure Does (H:Nat) (A:List (BitVec 8) → World → Prop) (B:World → Prop) (w1:World) (e:Ending) (w2:World):Prop where
 size:w1.heap.size ≤ w2.heap.size
 kept:∀ k,H ≤ k → k < H + 4 → k ≠ H + 1 → w2.heap[k]? = w1.heap[k]?
 way:(e = .returned (.tuple #[]) ∧ ∃ v2 l2,Rd w2 (H + 3) (H + 1) v2 l2 ∧ A l2 w2) ∨ (e = thrown (H + 1) ∧ (∃ v ad n c,v = .slice ad n c ∧ Blk w2 (H + 1) [v,.bool true,.bool true] 120) ∧ B w2)
structure Past (H:Nat) (w w':World):Prop where
 os:w'.os = w.os
 tape:w'.tape = w.tape
 output:w'.output = w.output
 size:w'.heap.size = w.heap.size
 block:∀ k,k < H ∨ H + 4 ≤ k → w'.heap[k]? = w.heap[k]?
theorem Past.refl (H:Nat) (w:World):Past H w w:=⟨rfl,rfl,rfl,rfl,fun _ _ => rfl⟩
theorem Past.setCell {H:Nat} {w w':World} (h:Past H w w') (a:Addr) (ha:H ≤ a.block ∧ a.block < H + 4) (v:Value):Past H w (w'.setCell a v):=
 ⟨h.os,h.tape,h.output,by have:=h.size;simp [World.setCell];omega,fun k hk => (Below.heap_setCell _ _ _ _ (by omega)).trans (h.block k hk)⟩
theorem read_any (F:Nat) (caps:Array Value) (vb:Value) (l:List (BitVec 8)) (A:List (BitVec 8) → World → Prop) (B:World → Prop) (w:World) (hb:Reads w vb l) (hen:∀ xs w,(callFunc F xs).run Tryz.prog w = .ok (.enter F xs) w)
 (hf:∀ w1,w1.heap.size = w.heap.size + 4 → Below w.heap.size w w1 → Rd w1 (w.heap.size + 3) (w.heap.size + 1) vb l → Calls Tryz.prog F (#[.pointer (some ⟨w.heap.size + 3,0,none⟩)] ++ caps) w1 (Does w.heap.size A B w1)) :
 Calls Tryz.prog 38 #[vb,.func (.func F) #[] caps] w fun e w' => ∃ w2,Past w.heap.size w2 w' ∧ ((∃ l2,A l2 w2 ∧ e = .returned (.int .i64 (if l2 = [] then 0 else 3))) ∨ (B w2 ∧ e = .returned (.int .i64 3))):=by
 have hmf:∀ (fn:Fn) (first cap:Array Value) (w:World),(Instr.makeFunc fn first cap).run Tryz.prog w = .ok (.func fn first cap) w:=fun _ _ _ _ => rfl
 have HF:Hid (∀ w1,w1.heap.size = w.heap.size + 4 → Below w.heap.size w w1 → Rd w1 (w.heap.size + 3) (w.heap.size + 1) vb l → Calls Tryz.prog F (#[.pointer (some ⟨w.heap.size + 3,0,none⟩)] ++ caps) w1 (Does w.heap.size A B w1)):=hf
 have HB:Hid (Reads w vb l):=hb
 obtain ⟨ad,cap,rfl,_,_,_⟩:=id hb
 obtain ⟨n,HN⟩:=sqn (l.length)
 rw [← HN.out] at HF HB ⊢
 have HE:Hid (∀ xs w,(callFunc F xs).run Tryz.prog w = .ok (.enter F xs) w):=hen
 clear hb hf hen
 have hB1:Below w.heap.size w ((((w.alloc (.cells #[.int .i64 0] 26)).alloc (.cells #[.slice ad n cap,.bool true,.bool false] 120)).alloc (.cells #[.pointer (some ⟨w.heap.size + 1,0,none⟩)] 118)).alloc (.cells #[.pointer (some ⟨w.heap.size + 1,0,none⟩)] 122)):=
  ((((Below.refl _ _).alloc (Nat.le_refl _) _).alloc (by simp) _).alloc (by simp;omega) _).alloc (by simp;omega) _
 have g0:Blk ((((w.alloc (.cells #[.int .i64 0] 26)).alloc (.cells #[.slice ad n cap,.bool true,.bool false] 120)).alloc (.cells #[.pointer (some ⟨w.heap.size + 1,0,none⟩)] 118)).alloc (.cells #[.pointer (some ⟨w.heap.size + 1,0,none⟩)] 122)) w.heap.size [.int .i64 0] 26:=(((Blk.new w [.int .i64 0] 26).alloc _).alloc _).alloc _
 have g1:Blk ((((w.alloc (.cells #[.int .i64 0] 26)).alloc (.cells #[.slice ad n cap,.bool true,.bool false] 120)).alloc (.cells #[.pointer (some ⟨w.heap.size + 1,0,none⟩)] 118)).alloc (.cells #[.pointer (some ⟨w.heap.size + 1,0,none⟩)] 122)) (w.heap.size + 1) [.slice ad n cap,.bool true,.bool false] 120:=((Blk.new_at (w:=w.alloc (.cells #[.int .i64 0] 26)) (by simp) [.slice ad n cap,.bool true,.bool false] 120).alloc _).alloc _
 have g2:Blk ((((w.alloc (.cells #[.int .i64 0] 26)).alloc (.cells #[.slice ad n cap,.bool true,.bool false] 120)).alloc (.cells #[.pointer (some ⟨w.heap.size + 1,0,none⟩)] 118)).alloc (.cells #[.pointer (some ⟨w.heap.size + 1,0,none⟩)] 122)) (w.heap.size + 2) [.pointer (some ⟨w.heap.size + 1,0,none⟩)] 118:=(Blk.new_at (w:=(w.alloc (.cells #[.int .i64 0] 26)).alloc (.cells #[.slice ad n cap,.bool true,.bool false] 120)) (by simp) [.pointer (some ⟨w.heap.size + 1,0,none⟩)] 118).alloc _
 have g3:Blk ((((w.alloc (.cells #[.int .i64 0] 26)).alloc (.cells #[.slice ad n cap,.bool true,.bool false] 120)).alloc (.cells #[.pointer (some ⟨w.heap.size + 1,0,none⟩)] 118)).alloc (.cells #[.pointer (some ⟨w.heap.size + 1,0,none⟩)] 122)) (w.heap.size + 3) [.pointer (some ⟨w.heap.size + 1,0,none⟩)] 122:=Blk.new_at (w:=((w.alloc (.cells #[.int .i64 0] 26)).alloc (.cells #[.slice ad n cap,.bool true,.bool false] 120)).alloc (.cells #[.pointer (some ⟨w.heap.size + 1,0,none⟩)] 118)) (by simp) [.pointer (some ⟨w.heap.size + 1,0,none⟩)] 122
 have hrd:=HF.out _ (by simp) hB1 ⟨g3,g1,HB.out.below hB1⟩
 have HC:Hid (Calls Tryz.prog F (#[.pointer (some ⟨w.heap.size + 3,0,none⟩)] ++ caps) ((((w.alloc (.cells #[.int .i64 0] 26)).alloc (.cells #[.slice ad n cap,.bool true,.bool false] 120)).alloc (.cells #[.pointer (some ⟨w.heap.size + 1,0,none⟩)] 118)).alloc (.cells #[.pointer (some ⟨w.heap.size + 1,0,none⟩)] 122)) (fun e w2 => Does w.heap.size A B ((((w.alloc (.cells #[.int .i64 0] 26)).alloc (.cells #[.slice ad n cap,.bool true,.bool false] 120)).alloc (.cells #[.pointer (some ⟨w.heap.size + 1,0,none⟩)] 118)).alloc (.cells #[.pointer (some ⟨w.heap.size + 1,0,none⟩)] 122)) e w2)):=hrd
 have HG0:Hid (Blk _ w.heap.size [.int .i64 0] 26):=g0
 have HG2:Hid (Blk _ (w.heap.size + 2) [.pointer (some ⟨w.heap.size + 1,0,none⟩)] 118):=g2
 clear hrd g0 g1 g2 g3 hB1 HF
 go_enter_defers Tryz.func38,Tryz.ntmps38
 go_wp2_with fail
 rw [HE.out,Oper.upon_enter]
 generalize World.alloc _ (.cells #[.pointer (some ⟨w.heap.size + 1,0,none⟩)] 122) = w1 at *
 refine Calls.mono HC.out ?_
 intro e w2 hD
 have e0:Blk w2 w.heap.size [.int .i64 0] 26:=by
  have:=HG0.out;unfold Blk at this ⊢;rw [hD.kept _ (by omega) (by omega) (by omega)];exact this
 have e2:Blk w2 (w.heap.size + 2) [.pointer (some ⟨w.heap.size + 1,0,none⟩)] 118:=by
  have:=HG2.out;unfold Blk at this ⊢;rw [hD.kept _ (by omega) (by omega) (by omega)];exact this
 rcases hD.way with ⟨rfl,v2,l2,hrd2,hA⟩ | ⟨rfl,⟨v,ad2,n2,c2,hv2,hbad⟩,hBB⟩
 · have ce:w2.cell? ⟨w.heap.size,0,none⟩ = some (.int .i64 0):=e0.cell 0
   have fe:w2.frozen? ⟨w.heap.size,0,none⟩ = false:=e0.frozen 0;obtain ⟨ad2,c2,hv2⟩:=hrd2.slice;have HB2:Hid (Blk w2 (w.heap.size + 1) [v2,.bool true,.bool false] 120):=hrd2.inp;have HE2:Hid (Blk w2 (w.heap.size + 2) [.pointer (some ⟨w.heap.size + 1,0,none⟩)] 118):=e2;have HE0:Hid (Blk w2 w.heap.size [.int .i64 0] 26):=e0;have HV2:Hid (v2 = .slice ad2 l2.length c2):=hv2;have HAA:Hid (A l2 w2):=hA;clear hrd2 e0 e2 hv2 hD hA HC HG0 HG2;go_wp2;refine leaves_cons (f:=67) (args:=#[.pointer (some ⟨w.heap.size + 2,0,none⟩),.pointer (some ⟨w.heap.size,0,none⟩)]) (by simp) (by simp [go_sem]) ?_
   refine (catch_idle (w.heap.size + 2) w.heap.size (w.heap.size + 1) v2 0 _ ad2 l2.length c2 HV2.out (HE2.out.other _ _ (by simp)) (HB2.out.other _ _ (by simp)) (by simpa using HE0.out.set 0 (.int .i64 0))).mono ?_
   rintro e u' w'' ⟨rfl,rfl,hw⟩
   obtain ⟨hc,hP⟩:w''.cell? ⟨w.heap.size,0,none⟩ = some (.int .i64 (if l2 = [] then 0 else 3)) ∧ Past w.heap.size w2 w'':=by
    have h1:Past w.heap.size w2 ((w2.setCell ⟨w.heap.size,0,none⟩ (.int .i64 0)).setCells (w.heap.size + 1) 0 [.slice none 0 0,.bool false,.bool false]):=((((Past.refl _ _).setCell _ (by simp) _).setCell _ (by simp) _).setCell _ (by simp) _).setCell _ (by simp) _
    have hE:Blk ((w2.setCell ⟨w.heap.size,0,none⟩ (.int .i64 0)).setCells (w.heap.size + 1) 0 [.slice none 0 0,.bool false,.bool false]) w.heap.size [.int .i64 0] 26:=Blk.others _ _ _ _ (by simpa using HE0.out.set 0 (.int .i64 0)) (by omega)
    by_cases h0:l2 = []
    · subst h0
      rw [if_pos (by rfl)] at hw
      rw [if_pos rfl];subst hw;exact ⟨by rw [((hE.set 0 (.int .i64 3)).set 0 (.int .i64 0)).cell];rfl,(h1.setCell _ (by simp) _).setCell _ (by simp) _⟩
    · rw [if_neg (by simpa using h0)] at hw
      rw [if_neg h0];subst hw;exact ⟨by rw [(hE.set 0 (.int .i64 3)).cell];rfl,h1.setCell _ (by simp) _⟩
   clear hw;have HFin:Hid (∃ w2,Past w.heap.size w2 w'' ∧ ((∃ l2',A l2' w2 ∧ Ending.returned (.int .i64 (if l2 = [] then 0 else 3)) = Ending.returned (.int .i64 (if l2' = [] then 0 else 3))) ∨ (B w2 ∧ Ending.returned (.int .i64 (if l2 = [] then 0 else 3)) = .returned (.int .i64 3)))):=⟨w2,hP,Or.inl ⟨l2,HAA.out,rfl⟩⟩
   generalize (if l2 = [] then (0:Int) else 3) = x at hc HFin;clear hP;simp [Leaves,settle,results,Tryz.results38,go_sem,hc]
   simpa using HFin.out
 · have HE2:Hid (Blk w2 (w.heap.size + 2) [.pointer (some ⟨w.heap.size + 1,0,none⟩)] 118):=e2
   have HE0:Hid (Blk w2 w.heap.size [.int .i64 0] 26):=e0;clear e0 e2 hD HC HG0 HG2;unfold thrown;go_wp2;refine leaves_cons (f:=67) (args:=#[.pointer (some ⟨w.heap.size + 2,0,none⟩),.pointer (some ⟨w.heap.size,0,none⟩)]) (by simp) (by simp [go_sem]) ?_
   refine (catch_threw (w.heap.size + 2) w.heap.size (w.heap.size + 1) v 0 _ ad2 n2 c2 hv2 HE2.out hbad HE0.out).mono ?_;rintro e u' w'' ⟨rfl,rfl,hw⟩
   obtain ⟨hc,hP⟩:w''.cell? ⟨w.heap.size,0,none⟩ = some (.int .i64 3) ∧ Past w.heap.size w2 w'':=by
    have h1:Past w.heap.size w2 (w2.setCells (w.heap.size + 1) 0 [.slice none 0 0,.bool false,.bool false]):=(((Past.refl _ _).setCell _ (by simp) _).setCell _ (by simp) _).setCell _ (by simp) _
    have hE:Blk (w2.setCells (w.heap.size + 1) 0 [.slice none 0 0,.bool false,.bool false]) w.heap.size [.int .i64 0] 26:=Blk.others _ _ _ _ HE0.out (by omega)
    subst hw;exact ⟨by rw [(hE.set 0 (.int .i64 3)).cell];rfl,h1.setCell _ (by simp) _⟩
   clear hw;have HFin:Hid (∃ w2,Past w.heap.size w2 w'' ∧ ((∃ l2',A l2' w2 ∧ Ending.returned (.int .i64 3) = Ending.returned (.int .i64 (if l2' = [] then 0 else 3))) ∨ (B w2 ∧ Ending.returned (.int .i64 3) = .returned (.int .i64 3)))):=⟨w2,hP,Or.inr ⟨hBB,rfl⟩⟩;clear hP;simp [Leaves,settle,results,Tryz.results38,go_sem,hc]
   simpa using HFin.out
theorem OwnB.mono {w:World} {base B:Nat} {v:Value} {l:List (BitVec 8)} (h:OwnB w base v l) (hB:B ≤ base):OwnB w B v l:=by
 obtain ⟨h1,h2⟩:=h
 refine ⟨h1,h2.imp id ?_⟩
 rintro ⟨g,cap,cur,e,hg,r⟩
 exact ⟨g,cap,cur,e,Nat.le_trans hB hg,r⟩
theorem readCount_le {most n:Nat} {l r:List (BitVec 8)} (h:readCount most l = some (n,r)):n ≤ most:=by
 unfold readCount at h
 split at h
 · cases h
 · split at h
   · simp only [Option.some.injEq,Prod.mk.injEq] at h;omega
   · cases h
theorem wpOp_enterP {P:Program} {ops:Array Oper} {Q:Exit → Act → World → Prop} {K:Act → World → Prop} {a:Act} {w:World} (i:Nat) {oi:Oper} {f:FuncId} {args:Array Value} {R:Ending → World → Prop}
 (hi:ops[i]? = some oi) (hw:Region.wanted oi (yielded ops a.tmps) = true) (he:(execOp a.eval oi).run P w = .ok (.enter f args) w) (hc:Calls P f args w R)
 (h:∀ e w',R e w' → (∃ v,e = .returned v ∧ K (a.put oi.dst v) w') ∨ (∃ ch,e = .panicked ch ∧ Q (.panic ch) a w')):wpOp P ops Q i K a w:=by
 unfold wpOp
 rw [hi]
 simp only [hw,if_true]
 left
 unfold Oper.wp
 rw [he,Oper.upon_enter]
 refine hc.mono ?_
 intro e w' hR
 rcases h e w' hR with ⟨v,rfl,hv⟩ | ⟨ch,rfl,hv⟩
 · exact hv
 · exact hv
theorem wpAnyH_enterP {P:Program} {md:Region.Mode} {ops:Array Oper} {Q:Exit → Act → World → Prop} {S:World → Prop} {fuel:Nat} {listed:Array Bool} {a:Act} {w:World} (i:Nat) {oi:Oper} {f:FuncId} {args:Array Value} {R:Ending → World → Prop}
 (hr:Region.ready md ops listed = [i]) (hi:ops[i]? = some oi) (hw:Region.wanted oi (yielded ops a.tmps) = true) (he:(execOp a.eval oi).run P w = .ok (.enter f args) w) (hc:Calls P f args w R)
 (h:∀ e w',R e w' → (∃ v,e = .returned v ∧ S w' ∧ wpAnyH P md ops Q S fuel (listed.setIfInBounds i true) (a.put oi.dst v) w') ∨ (∃ ch,e = .panicked ch ∧ Q (.panic ch) a w')):wpAnyH P md ops Q S (fuel + 1) listed a w:=by
 refine wpAnyH_all hr (by simp) (fun j hj => ?_)
 obtain rfl:j = i:=by simpa using hj
 exact wpOp_enterP j hi hw he hc (fun e w' hR => (h e w' hR).imp (fun ⟨v,h1,h2⟩ => ⟨v,h1,h2⟩) id)
theorem readCt_eq (m:Nat) (l:Bs):readCt m l = readCount m l:=rfl
theorem readA_key {l:Bs} (h:readText l = none):readA l = none:=by unfold readA;rw [h]
theorem readA_num {l k r:Bs} (h:readText l = some (k,r)) (h2:readCount 1 r = none):readA l = none:=by unfold readA;rw [h];simp only;rw [readCt_eq,h2]
theorem readA_unset {l k r s:Bs} {n:Nat} (h:readText l = some (k,r)) (h2:readCount 1 r = some (n,s)) (hn:n ≠ 1):readA l = some (⟨k,false,[]⟩,s):=by unfold readA;rw [h];simp only;rw [readCt_eq,h2];simp only;rw [if_neg hn]
theorem readA_nodata {l k r s:Bs} (h:readText l = some (k,r)) (h2:readCount 1 r = some (1,s)) (h3:readText s = none):readA l = none:=by unfold readA;rw [h];simp only;rw [readCt_eq,h2];simp only [if_true];rw [h3]
theorem readA_set {l k r s d t:Bs} (h:readText l = some (k,r)) (h2:readCount 1 r = some (1,s)) (h3:readText s = some (d,t)):readA l = some (⟨k,true,d⟩,t):=by unfold readA;rw [h];simp only;rw [readCt_eq,h2];simp only [if_true];rw [h3]
structure Ra (w:World) (gr gi g2:Nat) (v0 v:Value) (r:Bs) (W:World):Prop where
 rd:Rd W gr gi v r
 onl:Only gi w W
 res:Blk W g2 zA 62
 own:v.ownBlock = v0.ownBlock
 ge:w.heap.size ≤ g2
 gi:gi < w.heap.size
theorem Ra.new {w W W':World} {gr gi g2:Nat} {v0 v:Value} {r:Bs} (h:Ra w gr gi g2 v0 v r W) (hb:Below W.heap.size W W'):Ra w gr gi g2 v0 v r W':=⟨h.rd.below hb,h.onl.trans (Only.of_below hb),h.res.below hb h.res.lt,h.own,h.ge,h.gi⟩
theorem Ra.call {w W W':World} {gr gi g2:Nat} {v0 v v':Value} {r r':Bs} (h:Ra w gr gi g2 v0 v r W) (hr:Rd W' gr gi v' r') (ho:Only gi W W') (hv:v'.ownBlock = v.ownBlock):Ra w gr gi g2 v0 v' r' W':=⟨hr,h.onl.trans ho,blk_same h.res (ho.block g2 (by have:=h.ge;have:=h.gi;omega) h.res.lt),hv.trans h.own,h.ge,h.gi⟩
theorem wpAnyH_tri3 {P:Program} {md:Region.Mode} {ops:Array Oper} {Q:Exit → Act → World → Prop} {S:World → Prop} {fuel:Nat} {listed:Array Bool} {a:Act} {w:World} (i j k:Nat) (hr:Region.ready md ops listed = [i,j,k])
 (h1:wpOp P ops Q i (fun a' w' => S w' ∧ wpAnyH P md ops Q S fuel (listed.setIfInBounds i true) a' w') a w) (h2:wpOp P ops Q j (fun a' w' => S w' ∧ wpAnyH P md ops Q S fuel (listed.setIfInBounds j true) a' w') a w) (h3:wpOp P ops Q k (fun a' w' => S w' ∧ wpAnyH P md ops Q S fuel (listed.setIfInBounds k true) a' w') a w):wpAnyH P md ops Q S (fuel + 1) listed a w:=by
 refine wpAnyH_all hr (by simp) (fun m hm => ?_)
 simp only [List.mem_cons,List.not_mem_nil,or_false] at hm
 rcases hm with rfl | rfl | rfl
 · exact h1
 · exact h2
 · exact h3
theorem conv_s (f:Operand → Value) (o:Oper) (x:Operand) (ho:o.op = .convert 23 9 x) (v:Value) (hx:f x = v) (k:Bs) (w:World) (hr:Reads w v k):(execOp f o).run Tryz.prog w = .ok (.value (.string (strB k))) w:=by
 unfold execOp
 rw [ho]
 simp only [hx,Sem.run_bind,conv_reads hr]
 rfl
theorem reads_in {w:World} {v:Value} {l:Bs} (h:Reads w v l) (hp:0 < l.length):∀ k,v.ownBlock = some k → k < w.heap.size:=fun k hk => by
 obtain ⟨ad,cap,rfl,_,_,h4⟩:=h
 obtain ⟨b,off,rfl,h6⟩:=h4 hp
 simp [Value.ownBlock] at hk
 subst hk
 exact block_lt_of_cell (h6 0 hp)
theorem text_pos {l k r:Bs} (h:readText l = some (k,r)):0 < l.length:=by
 obtain ⟨_,rfl⟩:=(readText_iff _ _ _).1 h
 rw [encText,List.length_append,List.length_append]
 have:=encNum_pos k.length
 omega
theorem built_ka (s:ByteArray) (b:Bool):∀ ps,ps = [(0,Value.string s),(1,.bool b)] → Tryz.prog.built 62 ps = some [Value.string s,.bool b,.slice none 0 0].toArray:=fun ps h => by subst h;kernel_rfl
theorem one_act0 (s:ByteArray) (b:Bool):∀ v ∈ [Value.string s,.bool b,.slice none 0 0],v.oneCell' = true:=one_act s b none 0 0
theorem sReadAct_any (gr gi:Nat) (v:Value) (l:Bs) (w:World) (h:Rd w gr gi v l):Calls Tryz.prog 41 #[.pointer (some ⟨gr,0,none⟩)] w fun e w' => RdDoes gr gi v w (readA l) (fun a w' va => ∃ vd,va = .agg (actC a vd).toArray ∧ OwnB w' w.heap.size vd a.data) e w':=by
 have HR0:Hid (Rd w gr gi v l):=h
 clear h
 go_enter Tryz.func41,Tryz.ntmps41
 have tk0:Hid True:=trivial
 go_wp2_with (first
  | (clear tk0;with_reducible refine wpSeq_allocA ?_ ?_ ?_
     · rfl
     · rfl
     intro g2 y1 nn;have HRA:Hid (Ra w gr gi g2 v v l y1):=⟨HR0.out.below nn.below,Only.of_below nn.below,nn.blk,rfl,nn.ge,HR0.out.inp.lt⟩;clear nn))
 simp only [Act.put,sq]
 go_cut [3] from 4 to 11 (fun t W => ∃ (g3:Nat) (ky r1:Bs) (nn1:Nat) (r2:Bs) (vc2:Value) (sb:Bool) (ks:ByteArray),t = .pointer (some ⟨g3,0,none⟩) ∧ Hid (readText l = some (ky,r1)) ∧ Hid (readCount 1 r1 = some (nn1,r2)) ∧ Hid (((nn1:Int) == 1) = sb) ∧ Hid (ks = strB ky) ∧ Hid (Blk W g3 [.string ks,.bool sb,.slice none 0 0] 62) ∧ Hid (Only gi w W) ∧ Hid (Rd W gr gi vc2 r2) ∧ Hid (Blk W g2 zA 62) ∧ Hid (vc2.ownBlock = v.ownBlock ∧ w.heap.size ≤ g2 ∧ gi < w.heap.size ∧ w.heap.size ≤ g3 ∧ g3 ≠ g2))
 case first =>
  refine wp_region_held_drew (S:=fun _ => True) (by kernel_rfl) trivial ?_
  intro hS
  replace HRA:Hid (Ra w gr gi g2 v v l (World.drew y1)):=HRA.out.new (Below.refl _ _).drew
  change wpAnyH _ _ _ _ _ _ _ _ (World.drew y1)
  generalize World.drew y1 = y2 at *
  refine tkc 0 (.pointer (some ⟨gr,0,none⟩)) rfl hS ?_
  simp only [Act.put,sq]
  refine tkc 3 (.pointer (some ⟨gr,0,none⟩)) rfl hS ?_
  simp only [Act.put,sq]
  refine wpAnyH_pair 1 7 (by kernel_rfl) ?_ ?_
  · refine wpOp_enterP 1 rfl (by rfl) (f:=69) (args:=#[.pointer (some ⟨gr,0,none⟩)]) (by simp [go_sem]) (crtext_any gr gi _ _ _ HRA.out.rd) ?_
    rintro e z3 (⟨ky,r1,va1,vc1,hc,rfl,hown,hrd,ho,hob⟩ | ⟨hc,hT⟩)
    case inr =>
     obtain rfl:=hT.eq;exact Or.inr ⟨_,rfl,rfl,Or.inr ⟨readA_key hc,Threw.after HRA.out.onl hT⟩⟩
    refine Or.inl ⟨_,rfl,trivial,?_⟩;have HLE:Hid (w.heap.size ≤ y2.heap.size):=HRA.out.onl.size;replace HRA:=HRA.out.call hrd ho hob;have HT1:Hid (readText l = some (ky,r1)):=hc;obtain ⟨a1,n1,c1,hv1⟩:=hown.reads.form;subst hv1;have HON1:Hid (OwnB z3 y2.heap.size (.slice a1 n1 c1) ky):=hown;replace HRA:Hid (Ra w gr gi g2 v vc1 r1 z3):=HRA;clear hown hrd ho hob hc;simp only [Act.put,sq];refine wpAnyH_tri3 2 4 7 (by kernel_rfl) ?_ ?_ ?_
    · refine wpOp_vl 2 _ _ rfl (by rfl) (conv_s _ _ (.tmp 5) rfl _ rfl ky z3 HON1.out.reads) ⟨trivial,?_⟩
      simp only [Act.put,sq];refine wpAnyH_pair 4 7 (by kernel_rfl) ?_ ?_
      · refine wpOp_enterP 4 rfl (by rfl) (f:=40) (args:=#[.pointer (some ⟨gr,0,none⟩),.int .i64 ((1:Nat):Int)]) (by simp [go_sem]) (ccount_any gr gi 1 (by decide) _ _ _ HRA.out.rd) ?_
        rintro e z5 (⟨nn1,r2,va2,vc2,hc,rfl,rfl,hrd,ho,hob⟩ | ⟨hc,hT⟩)
        case inr =>
         obtain rfl:=hT.eq;exact Or.inr ⟨_,rfl,rfl,Or.inr ⟨readA_num HT1.out hc,Threw.after HRA.out.onl hT⟩⟩
        refine Or.inl ⟨_,rfl,trivial,?_⟩;replace HRA:=HRA.out.call hrd ho hob;have HT2:Hid (readCount 1 r1 = some (nn1,r2)):=hc;have HE2:Hid (((nn1:Int) == 1) = decide (nn1 = 1)):=by show _ = _;rw [Bool.eq_iff_iff,beq_iff_eq,decide_eq_true_eq];omega
        replace HRA:Hid (Ra w gr gi g2 v vc2 r2 z5):=HRA;clear hrd ho hob hc;simp only [Act.put,sq];obtain ⟨sb,HSB⟩:∃ b,Hid (((nn1:Int) == 1) = b):=⟨_,rfl⟩;refine tka 5 (.bool sb) rfl (fun wx hx => by (have hb:=HSB.out;simp [go_sem,hb])) trivial ?_
        simp only [Act.put,sq];obtain ⟨ks,HKS⟩:=sqn (strB ky);rw [← HKS.out];have HVB:Hid (∀ k,v.ownBlock = some k → k < w.heap.size):=reads_in HR0.out.byt (text_pos HT1.out);refine tka 6 (.agg [.string ks,.bool sb,.slice none 0 0].toArray) rfl (fun wx hx => by exact build_op _ _ 62 [(0,.tmp 6),(1,.tmp 9)] rfl _ (built_ka _ _ _ rfl) _) trivial ?_
        simp only [Act.put,sq];refine wpAnyH_step 7 _ _ (by kernel_rfl) rfl (by rfl) (alloc_act _ _ rfl _) trivial ?_
        obtain ⟨g3,z6,e3,e3w,n3⟩:∃ g y,g = z5.heap.size ∧ y = z5.alloc (.cells zA.toArray 62) ∧ NewR zA 62 z5 g y:=⟨_,_,rfl,rfl,NewR.of _ _ _⟩;rw [← e3w,← e3];clear e3 e3w;have HG3:Hid (Blk z6 g3 zA 62 ∧ w.heap.size ≤ g3 ∧ g3 ≠ g2):=⟨n3.blk,Nat.le_trans HRA.out.onl.size n3.ge,by have h1:=HRA.out.res.lt;have h2:=n3.ge;omega⟩
        replace HRA:Hid (Ra w gr gi g2 v vc2 r2 z6):=HRA.out.new n3.below;clear n3;simp only [Act.put,sq];refine wpAnyH_storeRow 8 62 (.tmp 3) (.tmp 10) g3 zA [.string ks,.bool sb,.slice none 0 0] HG3.out.1 rfl (info_act15 _ _ _) (one_act0 _ _) (by kernel_rfl) rfl (by rfl) rfl rfl rfl ?_
        intro y8 hset;refine ⟨trivial,?_⟩;have HK3:Hid (Blk y8 g3 [.string ks,.bool sb,.slice none 0 0] 62):=hset.blk;have hb8:Below w.heap.size z6 y8:=hset.only.below HG3.out.2.1 HRA.out.onl.size;have HON:Hid (Only gi w y8):=⟨hb8.os.trans HRA.out.onl.os,hb8.tape.trans HRA.out.onl.tape,hb8.output.trans HRA.out.onl.output,Nat.le_trans HRA.out.onl.size hb8.size,fun k hk hlt => (hb8.block k hlt).trans (HRA.out.onl.block k hk hlt)⟩
        have HRD:Hid (Rd y8 gr gi vc2 r2):=HRA.out.rd.others HR0.out.rd.lt HRA.out.gi (fun _ k hk => HVB.out k (by rw [← HRA.out.own];exact hk)) (Nat.le_refl _) hb8
        have HRS:Hid (Blk y8 g2 zA 62):=blk_same HRA.out.res (hset.only.block g2 (fun e => HG3.out.2.2 e.symm) HRA.out.res.lt)
        have HOW:Hid (vc2.ownBlock = v.ownBlock ∧ w.heap.size ≤ g2 ∧ gi < w.heap.size ∧ w.heap.size ≤ g3 ∧ g3 ≠ g2):=⟨HRA.out.own,HRA.out.ge,HRA.out.gi,HG3.out.2⟩;clear hset HRA HG3 hb8;simp only [Act.put,sq];refine wpAnyH_done (by kernel_rfl) ?_ _
        go_wp2
        go_meet
        case rel => exact ⟨g3,ky,_,nn1,_,_,sb,ks,rfl,HT1,HT2,HSB,HKS,HK3,HON,HRD,HRS,HOW⟩
      · refine wpOp_vl 7 _ _ rfl (by rfl) (alloc_act _ _ rfl _) ⟨trivial,?_⟩
        obtain ⟨g3,z7,e3,e3w,n3⟩:∃ g y,g = z3.heap.size ∧ y = z3.alloc (.cells zA.toArray 62) ∧ NewR zA 62 z3 g y:=⟨_,_,rfl,rfl,NewR.of _ _ _⟩;rw [← e3w,← e3];clear e3 e3w;have HG3:Hid (Blk z7 g3 zA 62 ∧ w.heap.size ≤ g3 ∧ g3 ≠ g2):=⟨n3.blk,Nat.le_trans HRA.out.onl.size n3.ge,by have h1:=HRA.out.res.lt;have h2:=n3.ge;omega⟩
        replace HRA:Hid (Ra w gr gi g2 v vc1 r1 z7):=HRA.out.new n3.below;clear n3;simp only [Act.put,sq];refine wpAnyH_enterP 4 (by kernel_rfl) rfl (by rfl) (f:=40) (args:=#[.pointer (some ⟨gr,0,none⟩),.int .i64 ((1:Nat):Int)]) (by simp [go_sem]) (ccount_any gr gi 1 (by decide) _ _ _ HRA.out.rd) ?_
        rintro e z9 (⟨nn1,r2,va2,vc2,hc,rfl,rfl,hrd,ho,hob⟩ | ⟨hc,hT⟩)
        case inr =>
         obtain rfl:=hT.eq;exact Or.inr ⟨_,rfl,rfl,Or.inr ⟨readA_num HT1.out hc,Threw.after HRA.out.onl hT⟩⟩
        refine Or.inl ⟨_,rfl,trivial,?_⟩;replace HRA:=HRA.out.call hrd ho hob;have HT2:Hid (readCount 1 r1 = some (nn1,r2)):=hc;have HE2:Hid (((nn1:Int) == 1) = decide (nn1 = 1)):=by show _ = _;rw [Bool.eq_iff_iff,beq_iff_eq,decide_eq_true_eq];omega
        replace HG3:Hid (Blk z9 g3 zA 62 ∧ w.heap.size ≤ g3 ∧ g3 ≠ g2):=⟨blk_same HG3.out.1 (ho.block g3 (by have h1:=HG3.out.2.1;have h2:=HRA.gi;omega) HG3.out.1.lt),HG3.out.2⟩
        replace HRA:Hid (Ra w gr gi g2 v vc2 r2 z9):=HRA;clear hrd ho hob hc;simp only [Act.put,sq];obtain ⟨sb,HSB⟩:∃ b,Hid (((nn1:Int) == 1) = b):=⟨_,rfl⟩;refine tka 5 (.bool sb) rfl (fun wx hx => by (have hb:=HSB.out;simp [go_sem,hb])) trivial ?_
        simp only [Act.put,sq];obtain ⟨ks,HKS⟩:=sqn (strB ky);rw [← HKS.out];have HVB:Hid (∀ k,v.ownBlock = some k → k < w.heap.size):=reads_in HR0.out.byt (text_pos HT1.out);refine tka 6 (.agg [.string ks,.bool sb,.slice none 0 0].toArray) rfl (fun wx hx => by exact build_op _ _ 62 [(0,.tmp 6),(1,.tmp 9)] rfl _ (built_ka _ _ _ rfl) _) trivial ?_
        simp only [Act.put,sq];refine wpAnyH_storeRow 8 62 (.tmp 3) (.tmp 10) g3 zA [.string ks,.bool sb,.slice none 0 0] HG3.out.1 rfl (info_act15 _ _ _) (one_act0 _ _) (by kernel_rfl) rfl (by rfl) rfl rfl rfl ?_
        intro y8 hset;refine ⟨trivial,?_⟩;have HK3:Hid (Blk y8 g3 [.string ks,.bool sb,.slice none 0 0] 62):=hset.blk;have hb8:Below w.heap.size z9 y8:=hset.only.below HG3.out.2.1 HRA.out.onl.size;have HON:Hid (Only gi w y8):=⟨hb8.os.trans HRA.out.onl.os,hb8.tape.trans HRA.out.onl.tape,hb8.output.trans HRA.out.onl.output,Nat.le_trans HRA.out.onl.size hb8.size,fun k hk hlt => (hb8.block k hlt).trans (HRA.out.onl.block k hk hlt)⟩
        have HRD:Hid (Rd y8 gr gi vc2 r2):=HRA.out.rd.others HR0.out.rd.lt HRA.out.gi (fun _ k hk => HVB.out k (by rw [← HRA.out.own];exact hk)) (Nat.le_refl _) hb8
        have HRS:Hid (Blk y8 g2 zA 62):=blk_same HRA.out.res (hset.only.block g2 (fun e => HG3.out.2.2 e.symm) HRA.out.res.lt)
        have HOW:Hid (vc2.ownBlock = v.ownBlock ∧ w.heap.size ≤ g2 ∧ gi < w.heap.size ∧ w.heap.size ≤ g3 ∧ g3 ≠ g2):=⟨HRA.out.own,HRA.out.ge,HRA.out.gi,HG3.out.2⟩;clear hset HRA HG3 hb8;simp only [Act.put,sq];refine wpAnyH_done (by kernel_rfl) ?_ _
        go_wp2
        go_meet
        case rel => exact ⟨g3,ky,_,nn1,_,_,sb,ks,rfl,HT1,HT2,HSB,HKS,HK3,HON,HRD,HRS,HOW⟩
    · refine wpOp_enterP 4 rfl (by rfl) (f:=40) (args:=#[.pointer (some ⟨gr,0,none⟩),.int .i64 ((1:Nat):Int)]) (by simp [go_sem]) (ccount_any gr gi 1 (by decide) _ _ _ HRA.out.rd) ?_
      rintro e z10 (⟨nn1,r2,va2,vc2,hc,rfl,rfl,hrd,ho,hob⟩ | ⟨hc,hT⟩)
      case inr =>
       obtain rfl:=hT.eq;exact Or.inr ⟨_,rfl,rfl,Or.inr ⟨readA_num HT1.out hc,Threw.after HRA.out.onl hT⟩⟩
      refine Or.inl ⟨_,rfl,trivial,?_⟩;replace HRA:=HRA.out.call hrd ho hob;have HT2:Hid (readCount 1 r1 = some (nn1,r2)):=hc;have HE2:Hid (((nn1:Int) == 1) = decide (nn1 = 1)):=by show _ = _;rw [Bool.eq_iff_iff,beq_iff_eq,decide_eq_true_eq];omega
      replace HON1:Hid (OwnB z10 (w.heap.size) (.slice a1 n1 c1) ky):=by
       have hgg:=HRA.gi;exact (HON1.out.sameS (fun k hk => ho.block k (by have h1:=(HON1.out.ltS k hk).1;have h2:=HLE.out;omega) (HON1.out.ltS k hk).2)).mono HLE.out
      replace HRA:Hid (Ra w gr gi g2 v vc2 r2 z10):=HRA;clear hrd ho hob hc;simp only [Act.put,sq];obtain ⟨sb,HSB⟩:∃ b,Hid (((nn1:Int) == 1) = b):=⟨_,rfl⟩;refine tka 5 (.bool sb) rfl (fun wx hx => by (have hb:=HSB.out;simp [go_sem,hb])) trivial ?_
      simp only [Act.put,sq];refine wpAnyH_pair 2 7 (by kernel_rfl) ?_ ?_
      · refine wpOp_vl 2 _ _ rfl (by rfl) (conv_s _ _ (.tmp 5) rfl _ rfl ky z10 HON1.out.reads) ⟨trivial,?_⟩
        simp only [Act.put,sq];obtain ⟨ks,HKS⟩:=sqn (strB ky);rw [← HKS.out];have HVB:Hid (∀ k,v.ownBlock = some k → k < w.heap.size):=reads_in HR0.out.byt (text_pos HT1.out);refine tka 6 (.agg [.string ks,.bool sb,.slice none 0 0].toArray) rfl (fun wx hx => by exact build_op _ _ 62 [(0,.tmp 6),(1,.tmp 9)] rfl _ (built_ka _ _ _ rfl) _) trivial ?_
        simp only [Act.put,sq];refine wpAnyH_step 7 _ _ (by kernel_rfl) rfl (by rfl) (alloc_act _ _ rfl _) trivial ?_
        obtain ⟨g3,z12,e3,e3w,n3⟩:∃ g y,g = z10.heap.size ∧ y = z10.alloc (.cells zA.toArray 62) ∧ NewR zA 62 z10 g y:=⟨_,_,rfl,rfl,NewR.of _ _ _⟩;rw [← e3w,← e3];clear e3 e3w;have HG3:Hid (Blk z12 g3 zA 62 ∧ w.heap.size ≤ g3 ∧ g3 ≠ g2):=⟨n3.blk,Nat.le_trans HRA.out.onl.size n3.ge,by have h1:=HRA.out.res.lt;have h2:=n3.ge;omega⟩
        replace HRA:Hid (Ra w gr gi g2 v vc2 r2 z12):=HRA.out.new n3.below;clear n3;simp only [Act.put,sq];refine wpAnyH_storeRow 8 62 (.tmp 3) (.tmp 10) g3 zA [.string ks,.bool sb,.slice none 0 0] HG3.out.1 rfl (info_act15 _ _ _) (one_act0 _ _) (by kernel_rfl) rfl (by rfl) rfl rfl rfl ?_
        intro y8 hset;refine ⟨trivial,?_⟩;have HK3:Hid (Blk y8 g3 [.string ks,.bool sb,.slice none 0 0] 62):=hset.blk;have hb8:Below w.heap.size z12 y8:=hset.only.below HG3.out.2.1 HRA.out.onl.size;have HON:Hid (Only gi w y8):=⟨hb8.os.trans HRA.out.onl.os,hb8.tape.trans HRA.out.onl.tape,hb8.output.trans HRA.out.onl.output,Nat.le_trans HRA.out.onl.size hb8.size,fun k hk hlt => (hb8.block k hlt).trans (HRA.out.onl.block k hk hlt)⟩
        have HRD:Hid (Rd y8 gr gi vc2 r2):=HRA.out.rd.others HR0.out.rd.lt HRA.out.gi (fun _ k hk => HVB.out k (by rw [← HRA.out.own];exact hk)) (Nat.le_refl _) hb8
        have HRS:Hid (Blk y8 g2 zA 62):=blk_same HRA.out.res (hset.only.block g2 (fun e => HG3.out.2.2 e.symm) HRA.out.res.lt)
        have HOW:Hid (vc2.ownBlock = v.ownBlock ∧ w.heap.size ≤ g2 ∧ gi < w.heap.size ∧ w.heap.size ≤ g3 ∧ g3 ≠ g2):=⟨HRA.out.own,HRA.out.ge,HRA.out.gi,HG3.out.2⟩;clear hset HRA HG3 hb8;simp only [Act.put,sq];refine wpAnyH_done (by kernel_rfl) ?_ _
        go_wp2
        go_meet
        case rel => exact ⟨g3,ky,_,nn1,_,_,sb,ks,rfl,HT1,HT2,HSB,HKS,HK3,HON,HRD,HRS,HOW⟩
      · refine wpOp_vl 7 _ _ rfl (by rfl) (alloc_act _ _ rfl _) ⟨trivial,?_⟩
        obtain ⟨g3,z13,e3,e3w,n3⟩:∃ g y,g = z10.heap.size ∧ y = z10.alloc (.cells zA.toArray 62) ∧ NewR zA 62 z10 g y:=⟨_,_,rfl,rfl,NewR.of _ _ _⟩;rw [← e3w,← e3];clear e3 e3w;have HG3:Hid (Blk z13 g3 zA 62 ∧ w.heap.size ≤ g3 ∧ g3 ≠ g2):=⟨n3.blk,Nat.le_trans HRA.out.onl.size n3.ge,by have h1:=HRA.out.res.lt;have h2:=n3.ge;omega⟩
        replace HRA:Hid (Ra w gr gi g2 v vc2 r2 z13):=HRA.out.new n3.below;replace HON1:=HON1.out.newS n3.below;replace HON1:Hid (OwnB z13 _ (.slice a1 n1 c1) ky):=HON1;clear n3;simp only [Act.put,sq];refine wpAnyH_step 2 _ _ (by kernel_rfl) rfl (by rfl) (conv_s _ _ (.tmp 5) rfl _ rfl ky z13 HON1.out.reads) trivial ?_
        simp only [Act.put,sq];obtain ⟨ks,HKS⟩:=sqn (strB ky);rw [← HKS.out];have HVB:Hid (∀ k,v.ownBlock = some k → k < w.heap.size):=reads_in HR0.out.byt (text_pos HT1.out);refine tka 6 (.agg [.string ks,.bool sb,.slice none 0 0].toArray) rfl (fun wx hx => by exact build_op _ _ 62 [(0,.tmp 6),(1,.tmp 9)] rfl _ (built_ka _ _ _ rfl) _) trivial ?_
        simp only [Act.put,sq];refine wpAnyH_storeRow 8 62 (.tmp 3) (.tmp 10) g3 zA [.string ks,.bool sb,.slice none 0 0] HG3.out.1 rfl (info_act15 _ _ _) (one_act0 _ _) (by kernel_rfl) rfl (by rfl) rfl rfl rfl ?_
        intro y8 hset;refine ⟨trivial,?_⟩;have HK3:Hid (Blk y8 g3 [.string ks,.bool sb,.slice none 0 0] 62):=hset.blk;have hb8:Below w.heap.size z13 y8:=hset.only.below HG3.out.2.1 HRA.out.onl.size;have HON:Hid (Only gi w y8):=⟨hb8.os.trans HRA.out.onl.os,hb8.tape.trans HRA.out.onl.tape,hb8.output.trans HRA.out.onl.output,Nat.le_trans HRA.out.onl.size hb8.size,fun k hk hlt => (hb8.block k hlt).trans (HRA.out.onl.block k hk hlt)⟩
        have HRD:Hid (Rd y8 gr gi vc2 r2):=HRA.out.rd.others HR0.out.rd.lt HRA.out.gi (fun _ k hk => HVB.out k (by rw [← HRA.out.own];exact hk)) (Nat.le_refl _) hb8
        have HRS:Hid (Blk y8 g2 zA 62):=blk_same HRA.out.res (hset.only.block g2 (fun e => HG3.out.2.2 e.symm) HRA.out.res.lt)
        have HOW:Hid (vc2.ownBlock = v.ownBlock ∧ w.heap.size ≤ g2 ∧ gi < w.heap.size ∧ w.heap.size ≤ g3 ∧ g3 ≠ g2):=⟨HRA.out.own,HRA.out.ge,HRA.out.gi,HG3.out.2⟩;clear hset HRA HG3 hb8;simp only [Act.put,sq];refine wpAnyH_done (by kernel_rfl) ?_ _
        go_wp2
        go_meet
        case rel => exact ⟨g3,ky,_,nn1,_,_,sb,ks,rfl,HT1,HT2,HSB,HKS,HK3,HON,HRD,HRS,HOW⟩
    · refine wpOp_vl 7 _ _ rfl (by rfl) (alloc_act _ _ rfl _) ⟨trivial,?_⟩
      obtain ⟨g3,z15,e3,e3w,n3⟩:∃ g y,g = z3.heap.size ∧ y = z3.alloc (.cells zA.toArray 62) ∧ NewR zA 62 z3 g y:=⟨_,_,rfl,rfl,NewR.of _ _ _⟩;rw [← e3w,← e3];clear e3 e3w;have HG3:Hid (Blk z15 g3 zA 62 ∧ w.heap.size ≤ g3 ∧ g3 ≠ g2):=⟨n3.blk,Nat.le_trans HRA.out.onl.size n3.ge,by have h1:=HRA.out.res.lt;have h2:=n3.ge;omega⟩
      replace HRA:Hid (Ra w gr gi g2 v vc1 r1 z15):=HRA.out.new n3.below;replace HON1:=HON1.out.newS n3.below;replace HON1:Hid (OwnB z15 _ (.slice a1 n1 c1) ky):=HON1;clear n3;simp only [Act.put,sq];refine wpAnyH_pair 2 4 (by kernel_rfl) ?_ ?_
      · refine wpOp_vl 2 _ _ rfl (by rfl) (conv_s _ _ (.tmp 5) rfl _ rfl ky z15 HON1.out.reads) ⟨trivial,?_⟩
        simp only [Act.put,sq];refine wpAnyH_enterP 4 (by kernel_rfl) rfl (by rfl) (f:=40) (args:=#[.pointer (some ⟨gr,0,none⟩),.int .i64 ((1:Nat):Int)]) (by simp [go_sem]) (ccount_any gr gi 1 (by decide) _ _ _ HRA.out.rd) ?_
        rintro e z17 (⟨nn1,r2,va2,vc2,hc,rfl,rfl,hrd,ho,hob⟩ | ⟨hc,hT⟩)
        case inr =>
         obtain rfl:=hT.eq;exact Or.inr ⟨_,rfl,rfl,Or.inr ⟨readA_num HT1.out hc,Threw.after HRA.out.onl hT⟩⟩
        refine Or.inl ⟨_,rfl,trivial,?_⟩;replace HRA:=HRA.out.call hrd ho hob;have HT2:Hid (readCount 1 r1 = some (nn1,r2)):=hc;have HE2:Hid (((nn1:Int) == 1) = decide (nn1 = 1)):=by show _ = _;rw [Bool.eq_iff_iff,beq_iff_eq,decide_eq_true_eq];omega
        replace HG3:Hid (Blk z17 g3 zA 62 ∧ w.heap.size ≤ g3 ∧ g3 ≠ g2):=⟨blk_same HG3.out.1 (ho.block g3 (by have h1:=HG3.out.2.1;have h2:=HRA.gi;omega) HG3.out.1.lt),HG3.out.2⟩
        replace HRA:Hid (Ra w gr gi g2 v vc2 r2 z17):=HRA;clear hrd ho hob hc;simp only [Act.put,sq];obtain ⟨sb,HSB⟩:∃ b,Hid (((nn1:Int) == 1) = b):=⟨_,rfl⟩;refine tka 5 (.bool sb) rfl (fun wx hx => by (have hb:=HSB.out;simp [go_sem,hb])) trivial ?_
        simp only [Act.put,sq];obtain ⟨ks,HKS⟩:=sqn (strB ky);rw [← HKS.out];have HVB:Hid (∀ k,v.ownBlock = some k → k < w.heap.size):=reads_in HR0.out.byt (text_pos HT1.out);refine tka 6 (.agg [.string ks,.bool sb,.slice none 0 0].toArray) rfl (fun wx hx => by exact build_op _ _ 62 [(0,.tmp 6),(1,.tmp 9)] rfl _ (built_ka _ _ _ rfl) _) trivial ?_
        simp only [Act.put,sq];refine wpAnyH_storeRow 8 62 (.tmp 3) (.tmp 10) g3 zA [.string ks,.bool sb,.slice none 0 0] HG3.out.1 rfl (info_act15 _ _ _) (one_act0 _ _) (by kernel_rfl) rfl (by rfl) rfl rfl rfl ?_
        intro y8 hset;refine ⟨trivial,?_⟩;have HK3:Hid (Blk y8 g3 [.string ks,.bool sb,.slice none 0 0] 62):=hset.blk;have hb8:Below w.heap.size z17 y8:=hset.only.below HG3.out.2.1 HRA.out.onl.size;have HON:Hid (Only gi w y8):=⟨hb8.os.trans HRA.out.onl.os,hb8.tape.trans HRA.out.onl.tape,hb8.output.trans HRA.out.onl.output,Nat.le_trans HRA.out.onl.size hb8.size,fun k hk hlt => (hb8.block k hlt).trans (HRA.out.onl.block k hk hlt)⟩
        have HRD:Hid (Rd y8 gr gi vc2 r2):=HRA.out.rd.others HR0.out.rd.lt HRA.out.gi (fun _ k hk => HVB.out k (by rw [← HRA.out.own];exact hk)) (Nat.le_refl _) hb8
        have HRS:Hid (Blk y8 g2 zA 62):=blk_same HRA.out.res (hset.only.block g2 (fun e => HG3.out.2.2 e.symm) HRA.out.res.lt)
        have HOW:Hid (vc2.ownBlock = v.ownBlock ∧ w.heap.size ≤ g2 ∧ gi < w.heap.size ∧ w.heap.size ≤ g3 ∧ g3 ≠ g2):=⟨HRA.out.own,HRA.out.ge,HRA.out.gi,HG3.out.2⟩;clear hset HRA HG3 hb8;simp only [Act.put,sq];refine wpAnyH_done (by kernel_rfl) ?_ _
        go_wp2
        go_meet
        case rel => exact ⟨g3,ky,_,nn1,_,_,sb,ks,rfl,HT1,HT2,HSB,HKS,HK3,HON,HRD,HRS,HOW⟩
      · refine wpOp_enterP 4 rfl (by rfl) (f:=40) (args:=#[.pointer (some ⟨gr,0,none⟩),.int .i64 ((1:Nat):Int)]) (by simp [go_sem]) (ccount_any gr gi 1 (by decide) _ _ _ HRA.out.rd) ?_
        rintro e z18 (⟨nn1,r2,va2,vc2,hc,rfl,rfl,hrd,ho,hob⟩ | ⟨hc,hT⟩)
        case inr =>
         obtain rfl:=hT.eq;exact Or.inr ⟨_,rfl,rfl,Or.inr ⟨readA_num HT1.out hc,Threw.after HRA.out.onl hT⟩⟩
        refine Or.inl ⟨_,rfl,trivial,?_⟩;replace HRA:=HRA.out.call hrd ho hob;have HT2:Hid (readCount 1 r1 = some (nn1,r2)):=hc;have HE2:Hid (((nn1:Int) == 1) = decide (nn1 = 1)):=by show _ = _;rw [Bool.eq_iff_iff,beq_iff_eq,decide_eq_true_eq];omega
        replace HG3:Hid (Blk z18 g3 zA 62 ∧ w.heap.size ≤ g3 ∧ g3 ≠ g2):=⟨blk_same HG3.out.1 (ho.block g3 (by have h1:=HG3.out.2.1;have h2:=HRA.gi;omega) HG3.out.1.lt),HG3.out.2⟩
        replace HON1:Hid (OwnB z18 (w.heap.size) (.slice a1 n1 c1) ky):=by
         have hgg:=HRA.gi;exact (HON1.out.sameS (fun k hk => ho.block k (by have h1:=(HON1.out.ltS k hk).1;have h2:=HLE.out;omega) (HON1.out.ltS k hk).2)).mono HLE.out
        replace HRA:Hid (Ra w gr gi g2 v vc2 r2 z18):=HRA;clear hrd ho hob hc;simp only [Act.put,sq];obtain ⟨sb,HSB⟩:∃ b,Hid (((nn1:Int) == 1) = b):=⟨_,rfl⟩;refine tka 5 (.bool sb) rfl (fun wx hx => by (have hb:=HSB.out;simp [go_sem,hb])) trivial ?_
        simp only [Act.put,sq];refine wpAnyH_step 2 _ _ (by kernel_rfl) rfl (by rfl) (conv_s _ _ (.tmp 5) rfl _ rfl ky z18 HON1.out.reads) trivial ?_
        simp only [Act.put,sq];obtain ⟨ks,HKS⟩:=sqn (strB ky);rw [← HKS.out];have HVB:Hid (∀ k,v.ownBlock = some k → k < w.heap.size):=reads_in HR0.out.byt (text_pos HT1.out);refine tka 6 (.agg [.string ks,.bool sb,.slice none 0 0].toArray) rfl (fun wx hx => by exact build_op _ _ 62 [(0,.tmp 6),(1,.tmp 9)] rfl _ (built_ka _ _ _ rfl) _) trivial ?_
        simp only [Act.put,sq];refine wpAnyH_storeRow 8 62 (.tmp 3) (.tmp 10) g3 zA [.string ks,.bool sb,.slice none 0 0] HG3.out.1 rfl (info_act15 _ _ _) (one_act0 _ _) (by kernel_rfl) rfl (by rfl) rfl rfl rfl ?_
        intro y8 hset;refine ⟨trivial,?_⟩;have HK3:Hid (Blk y8 g3 [.string ks,.bool sb,.slice none 0 0] 62):=hset.blk;have hb8:Below w.heap.size z18 y8:=hset.only.below HG3.out.2.1 HRA.out.onl.size;have HON:Hid (Only gi w y8):=⟨hb8.os.trans HRA.out.onl.os,hb8.tape.trans HRA.out.onl.tape,hb8.output.trans HRA.out.onl.output,Nat.le_trans HRA.out.onl.size hb8.size,fun k hk hlt => (hb8.block k hlt).trans (HRA.out.onl.block k hk hlt)⟩
        have HRD:Hid (Rd y8 gr gi vc2 r2):=HRA.out.rd.others HR0.out.rd.lt HRA.out.gi (fun _ k hk => HVB.out k (by rw [← HRA.out.own];exact hk)) (Nat.le_refl _) hb8
        have HRS:Hid (Blk y8 g2 zA 62):=blk_same HRA.out.res (hset.only.block g2 (fun e => HG3.out.2.2 e.symm) HRA.out.res.lt)
        have HOW:Hid (vc2.ownBlock = v.ownBlock ∧ w.heap.size ≤ g2 ∧ gi < w.heap.size ∧ w.heap.size ≤ g3 ∧ g3 ≠ g2):=⟨HRA.out.own,HRA.out.ge,HRA.out.gi,HG3.out.2⟩;clear hset HRA HG3 hb8;simp only [Act.put,sq];refine wpAnyH_done (by kernel_rfl) ?_ _
        go_wp2
        go_meet
        case rel => exact ⟨g3,ky,_,nn1,_,_,sb,ks,rfl,HT1,HT2,HSB,HKS,HK3,HON,HRD,HRS,HOW⟩
  · refine wpOp_vl 7 _ _ rfl (by rfl) (alloc_act _ _ rfl _) ⟨trivial,?_⟩
    obtain ⟨g3,z20,e3,e3w,n3⟩:∃ g y,g = y2.heap.size ∧ y = y2.alloc (.cells zA.toArray 62) ∧ NewR zA 62 y2 g y:=⟨_,_,rfl,rfl,NewR.of _ _ _⟩;rw [← e3w,← e3];clear e3 e3w;have HG3:Hid (Blk z20 g3 zA 62 ∧ w.heap.size ≤ g3 ∧ g3 ≠ g2):=⟨n3.blk,Nat.le_trans HRA.out.onl.size n3.ge,by have h1:=HRA.out.res.lt;have h2:=n3.ge;omega⟩
    replace HRA:Hid (Ra w gr gi g2 v v l z20):=HRA.out.new n3.below;clear n3;simp only [Act.put,sq];refine wpAnyH_enterP 1 (by kernel_rfl) rfl (by rfl) (f:=69) (args:=#[.pointer (some ⟨gr,0,none⟩)]) (by simp [go_sem]) (crtext_any gr gi _ _ _ HRA.out.rd) ?_
    rintro e z21 (⟨ky,r1,va1,vc1,hc,rfl,hown,hrd,ho,hob⟩ | ⟨hc,hT⟩)
    case inr =>
     obtain rfl:=hT.eq;exact Or.inr ⟨_,rfl,rfl,Or.inr ⟨readA_key hc,Threw.after HRA.out.onl hT⟩⟩
    refine Or.inl ⟨_,rfl,trivial,?_⟩;have HLE:Hid (w.heap.size ≤ z20.heap.size):=HRA.out.onl.size;replace HRA:=HRA.out.call hrd ho hob;have HT1:Hid (readText l = some (ky,r1)):=hc;obtain ⟨a1,n1,c1,hv1⟩:=hown.reads.form;subst hv1;replace HG3:Hid (Blk z21 g3 zA 62 ∧ w.heap.size ≤ g3 ∧ g3 ≠ g2):=⟨blk_same HG3.out.1 (ho.block g3 (by have h1:=HG3.out.2.1;have h2:=HRA.gi;omega) HG3.out.1.lt),HG3.out.2⟩
    have HON1:Hid (OwnB z21 z20.heap.size (.slice a1 n1 c1) ky):=hown;replace HRA:Hid (Ra w gr gi g2 v vc1 r1 z21):=HRA;clear hown hrd ho hob hc;simp only [Act.put,sq];refine wpAnyH_pair 2 4 (by kernel_rfl) ?_ ?_
    · refine wpOp_vl 2 _ _ rfl (by rfl) (conv_s _ _ (.tmp 5) rfl _ rfl ky z21 HON1.out.reads) ⟨trivial,?_⟩
      simp only [Act.put,sq];refine wpAnyH_enterP 4 (by kernel_rfl) rfl (by rfl) (f:=40) (args:=#[.pointer (some ⟨gr,0,none⟩),.int .i64 ((1:Nat):Int)]) (by simp [go_sem]) (ccount_any gr gi 1 (by decide) _ _ _ HRA.out.rd) ?_
      rintro e z23 (⟨nn1,r2,va2,vc2,hc,rfl,rfl,hrd,ho,hob⟩ | ⟨hc,hT⟩)
      case inr =>
       obtain rfl:=hT.eq;exact Or.inr ⟨_,rfl,rfl,Or.inr ⟨readA_num HT1.out hc,Threw.after HRA.out.onl hT⟩⟩
      refine Or.inl ⟨_,rfl,trivial,?_⟩;replace HRA:=HRA.out.call hrd ho hob;have HT2:Hid (readCount 1 r1 = some (nn1,r2)):=hc;have HE2:Hid (((nn1:Int) == 1) = decide (nn1 = 1)):=by show _ = _;rw [Bool.eq_iff_iff,beq_iff_eq,decide_eq_true_eq];omega
      replace HG3:Hid (Blk z23 g3 zA 62 ∧ w.heap.size ≤ g3 ∧ g3 ≠ g2):=⟨blk_same HG3.out.1 (ho.block g3 (by have h1:=HG3.out.2.1;have h2:=HRA.gi;omega) HG3.out.1.lt),HG3.out.2⟩
      replace HRA:Hid (Ra w gr gi g2 v vc2 r2 z23):=HRA;clear hrd ho hob hc;simp only [Act.put,sq];obtain ⟨sb,HSB⟩:∃ b,Hid (((nn1:Int) == 1) = b):=⟨_,rfl⟩;refine tka 5 (.bool sb) rfl (fun wx hx => by (have hb:=HSB.out;simp [go_sem,hb])) trivial ?_
      simp only [Act.put,sq];obtain ⟨ks,HKS⟩:=sqn (strB ky);rw [← HKS.out];have HVB:Hid (∀ k,v.ownBlock = some k → k < w.heap.size):=reads_in HR0.out.byt (text_pos HT1.out);refine tka 6 (.agg [.string ks,.bool sb,.slice none 0 0].toArray) rfl (fun wx hx => by exact build_op _ _ 62 [(0,.tmp 6),(1,.tmp 9)] rfl _ (built_ka _ _ _ rfl) _) trivial ?_
      simp only [Act.put,sq];refine wpAnyH_storeRow 8 62 (.tmp 3) (.tmp 10) g3 zA [.string ks,.bool sb,.slice none 0 0] HG3.out.1 rfl (info_act15 _ _ _) (one_act0 _ _) (by kernel_rfl) rfl (by rfl) rfl rfl rfl ?_
      intro y8 hset;refine ⟨trivial,?_⟩;have HK3:Hid (Blk y8 g3 [.string ks,.bool sb,.slice none 0 0] 62):=hset.blk;have hb8:Below w.heap.size z23 y8:=hset.only.below HG3.out.2.1 HRA.out.onl.size;have HON:Hid (Only gi w y8):=⟨hb8.os.trans HRA.out.onl.os,hb8.tape.trans HRA.out.onl.tape,hb8.output.trans HRA.out.onl.output,Nat.le_trans HRA.out.onl.size hb8.size,fun k hk hlt => (hb8.block k hlt).trans (HRA.out.onl.block k hk hlt)⟩
      have HRD:Hid (Rd y8 gr gi vc2 r2):=HRA.out.rd.others HR0.out.rd.lt HRA.out.gi (fun _ k hk => HVB.out k (by rw [← HRA.out.own];exact hk)) (Nat.le_refl _) hb8
      have HRS:Hid (Blk y8 g2 zA 62):=blk_same HRA.out.res (hset.only.block g2 (fun e => HG3.out.2.2 e.symm) HRA.out.res.lt)
      have HOW:Hid (vc2.ownBlock = v.ownBlock ∧ w.heap.size ≤ g2 ∧ gi < w.heap.size ∧ w.heap.size ≤ g3 ∧ g3 ≠ g2):=⟨HRA.out.own,HRA.out.ge,HRA.out.gi,HG3.out.2⟩;clear hset HRA HG3 hb8;simp only [Act.put,sq];refine wpAnyH_done (by kernel_rfl) ?_ _
      go_wp2
      go_meet
      case rel => exact ⟨g3,ky,_,nn1,_,_,sb,ks,rfl,HT1,HT2,HSB,HKS,HK3,HON,HRD,HRS,HOW⟩
    · refine wpOp_enterP 4 rfl (by rfl) (f:=40) (args:=#[.pointer (some ⟨gr,0,none⟩),.int .i64 ((1:Nat):Int)]) (by simp [go_sem]) (ccount_any gr gi 1 (by decide) _ _ _ HRA.out.rd) ?_
      rintro e z24 (⟨nn1,r2,va2,vc2,hc,rfl,rfl,hrd,ho,hob⟩ | ⟨hc,hT⟩)
      case inr =>
       obtain rfl:=hT.eq;exact Or.inr ⟨_,rfl,rfl,Or.inr ⟨readA_num HT1.out hc,Threw.after HRA.out.onl hT⟩⟩
      refine Or.inl ⟨_,rfl,trivial,?_⟩;replace HRA:=HRA.out.call hrd ho hob;have HT2:Hid (readCount 1 r1 = some (nn1,r2)):=hc;have HE2:Hid (((nn1:Int) == 1) = decide (nn1 = 1)):=by show _ = _;rw [Bool.eq_iff_iff,beq_iff_eq,decide_eq_true_eq];omega
      replace HG3:Hid (Blk z24 g3 zA 62 ∧ w.heap.size ≤ g3 ∧ g3 ≠ g2):=⟨blk_same HG3.out.1 (ho.block g3 (by have h1:=HG3.out.2.1;have h2:=HRA.gi;omega) HG3.out.1.lt),HG3.out.2⟩
      replace HON1:Hid (OwnB z24 (w.heap.size) (.slice a1 n1 c1) ky):=by
       have hgg:=HRA.gi;exact (HON1.out.sameS (fun k hk => ho.block k (by have h1:=(HON1.out.ltS k hk).1;have h2:=HLE.out;omega) (HON1.out.ltS k hk).2)).mono HLE.out
      replace HRA:Hid (Ra w gr gi g2 v vc2 r2 z24):=HRA;clear hrd ho hob hc;simp only [Act.put,sq];obtain ⟨sb,HSB⟩:∃ b,Hid (((nn1:Int) == 1) = b):=⟨_,rfl⟩;refine tka 5 (.bool sb) rfl (fun wx hx => by (have hb:=HSB.out;simp [go_sem,hb])) trivial ?_
      simp only [Act.put,sq];refine wpAnyH_step 2 _ _ (by kernel_rfl) rfl (by rfl) (conv_s _ _ (.tmp 5) rfl _ rfl ky z24 HON1.out.reads) trivial ?_
      simp only [Act.put,sq];obtain ⟨ks,HKS⟩:=sqn (strB ky);rw [← HKS.out];have HVB:Hid (∀ k,v.ownBlock = some k → k < w.heap.size):=reads_in HR0.out.byt (text_pos HT1.out);refine tka 6 (.agg [.string ks,.bool sb,.slice none 0 0].toArray) rfl (fun wx hx => by exact build_op _ _ 62 [(0,.tmp 6),(1,.tmp 9)] rfl _ (built_ka _ _ _ rfl) _) trivial ?_
      simp only [Act.put,sq];refine wpAnyH_storeRow 8 62 (.tmp 3) (.tmp 10) g3 zA [.string ks,.bool sb,.slice none 0 0] HG3.out.1 rfl (info_act15 _ _ _) (one_act0 _ _) (by kernel_rfl) rfl (by rfl) rfl rfl rfl ?_
      intro y8 hset;refine ⟨trivial,?_⟩;have HK3:Hid (Blk y8 g3 [.string ks,.bool sb,.slice none 0 0] 62):=hset.blk;have hb8:Below w.heap.size z24 y8:=hset.only.below HG3.out.2.1 HRA.out.onl.size;have HON:Hid (Only gi w y8):=⟨hb8.os.trans HRA.out.onl.os,hb8.tape.trans HRA.out.onl.tape,hb8.output.trans HRA.out.onl.output,Nat.le_trans HRA.out.onl.size hb8.size,fun k hk hlt => (hb8.block k hlt).trans (HRA.out.onl.block k hk hlt)⟩
      have HRD:Hid (Rd y8 gr gi vc2 r2):=HRA.out.rd.others HR0.out.rd.lt HRA.out.gi (fun _ k hk => HVB.out k (by rw [← HRA.out.own];exact hk)) (Nat.le_refl _) hb8
      have HRS:Hid (Blk y8 g2 zA 62):=blk_same HRA.out.res (hset.only.block g2 (fun e => HG3.out.2.2 e.symm) HRA.out.res.lt)
      have HOW:Hid (vc2.ownBlock = v.ownBlock ∧ w.heap.size ≤ g2 ∧ gi < w.heap.size ∧ w.heap.size ≤ g3 ∧ g3 ≠ g2):=⟨HRA.out.own,HRA.out.ge,HRA.out.gi,HG3.out.2⟩;clear hset HRA HG3 hb8;simp only [Act.put,sq];refine wpAnyH_done (by kernel_rfl) ?_ _
      go_wp2
      go_meet
      case rel => exact ⟨g3,ky,_,nn1,_,_,sb,ks,rfl,HT1,HT2,HSB,HKS,HK3,HON,HRD,HRS,HOW⟩
 case rest =>
  obtain ⟨g3,ky,r1,nn1,r2,vc2,sb,ks,rfl,HT1,HT2,HSB,HKS,HK3,HON,HRD,HRS,HOW⟩:=hcut
  have HVB:Hid (∀ k,v.ownBlock = some k → k < w.heap.size):=reads_in HR0.out.byt (text_pos HT1.out)
  have d1:wc.cell? ⟨g3,1,none⟩ = some (.bool sb):=HK3.out.cell 1
  by_cases h1:nn1 = 1
  case neg =>
   obtain rfl:sb = false:=by rw [← HSB.out,beq_eq_false_iff_ne];omega
   have HSP:Hid (readA l = some (⟨ky,false,[]⟩,r2)):=readA_unset HT1.out HT2.out h1;clear h1 HSB;obtain ⟨tq0,tq1⟩:=sqk2
   go_wp2_with (first
    | (clear tq0;with_reducible refine wpSeq_loadW 62 (.tmp 3) g3 0 [.string ks,.bool false,.slice none 0 0] _ (Blk.range HK3.out) Tryz.underlying62 rfl (info_act15 _ _ _) ?_ ?_ ?_ ?_
       · rfl
       · rfl
       · rfl)
    | (clear tq1;with_reducible refine wpSeq_storeRow 62 (.tmp 2) (.tmp 16) g2 zA [.string ks,.bool false,.slice none 0 0] HRS.out rfl (info_act15 _ _ _) (one_act0 _ _) ?_ ?_ ?_ ?_ ?_
       · rfl
       · rfl
       · rfl
       · rfl
       intro y9 hset;have HB9:Hid (Below w.heap.size wc y9):=hset.only.below HOW.out.2.1 HON.out.size;have HK9:Hid (Blk y9 g2 [.string ks,.bool false,.slice none 0 0] 62):=hset.blk;have HO9:Hid (Only gi w y9):=⟨hset.only.os.trans HON.out.os,hset.only.tape.trans HON.out.tape,hset.only.output.trans HON.out.output,Nat.le_trans HON.out.size hset.only.size,fun k hk hlt => (hset.only.block k (by have:=HOW.out.2.1;omega) (Nat.lt_of_lt_of_le hlt HON.out.size)).trans (HON.out.block k hk hlt)⟩
       clear hset d1))
   refine bodyPost_ret (v:=.agg [.string ks,.bool false,.slice none 0 0].toArray) (results_cell_row (by rfl) _ _ g2 62 ([Value.string ks,Value.bool false,Value.slice none 0 0]:List Value).toArray (0,0) _ rfl HK9.out Tryz.underlying62 rfl (info_act15 _ _ _)) rfl (Or.inl ⟨⟨ky,false,[]⟩,r2,_,vc2,HSP.out,rfl,⟨.slice none 0 0,by rw [actC,HKS.out],OwnB.nil _ _⟩,HRD.out.others HR0.out.rd.lt HOW.out.2.2.1 (fun _ k hk => HVB.out k (by rw [← HOW.out.1];exact hk)) (Nat.le_refl _) HB9.out,HO9.out,HOW.out.1⟩)
  case pos =>
   subst h1;obtain rfl:sb = true:=by rw [← HSB.out];rfl
   have HCT:Hid (Calls Tryz.prog 69 #[.pointer (some ⟨gr,0,none⟩)] wc fun e w' => RdDoes gr gi vc2 wc (readText r2) (fun a w' v => OwnB w' wc.heap.size v a) e w'):=crtext_any gr gi vc2 r2 wc HRD.out
   clear HSB
   go_wp2_with fail
   refine HCT.out.mono ?_;rintro e y9 (⟨dd,r3,va3,vc3,hc,rfl,hown,hrd,ho,hob⟩ | ⟨hc,hT⟩)
   case inr =>
    have HD:Hid (RdDoes gr gi v w (readA l) (fun a w' va => ∃ vd,va = .agg (actC a vd).toArray ∧ OwnB w' w.heap.size vd a.data) (thrown gi) y9):=Or.inr ⟨readA_nodata HT1.out HT2.out hc,Threw.after HON.out (hT.eq ▸ hT)⟩
    obtain rfl:=hT.eq;unfold thrown at HD ⊢;clear hT;go_wp2;exact ⟨rfl,HD.out⟩
   have HSP:Hid (readA l = some (⟨ky,true,dd⟩,r3)):=readA_set HT1.out HT2.out hc;have HK9:Hid (Blk y9 g3 [.string ks,.bool true,.slice none 0 0] 62):=blk_same HK3.out (ho.block g3 (by have h1:=HOW.out.2.2.1;have h2:=HOW.out.2.2.2.1;omega) HK3.out.lt)
   have HR9:Hid (Blk y9 g2 zA 62):=blk_same HRS.out (ho.block g2 (by have h1:=HOW.out.2.2.1;have h2:=HOW.out.2.1;omega) HRS.out.lt)
   have HOD:Hid (OwnB y9 wc.heap.size va3 dd):=hown;have HL3:Hid (2 < [Value.string ks,.bool true,.slice none 0 0].length):=by show 2 < 3;omega
   have HG8:Hid (g3 < wc.heap.size ∧ g2 < wc.heap.size):=⟨HK3.out.lt,HRS.out.lt⟩;have HRD9:Hid (Rd y9 gr gi vc3 r3):=hrd;have HON9:Hid (Only gi w y9):=HON.out.trans ho;have HOW9:Hid (vc3.ownBlock = v.ownBlock):=hob.trans HOW.out.1;obtain ⟨av,nv,cv,hv3⟩:=hown.reads.form;subst hv3;clear hown hrd ho hob hc HK3 HRS HRD d1;obtain ⟨tq0,tq1,tq2⟩:=sqk3
   go_wp2_with (first
    | (clear tq0;with_reducible refine wpSeq_cellY (.tmp 15) (.tmp 14) g3 2 [.string ks,.bool true,.slice none 0 0] av nv cv 62 HL3.out HK9.out ?_ ?_ ?_ ?_ ?_
       · rfl
       · rfl
       · rfl
       · rfl
       intro y10 hb10 ho10;have HKX:Hid (Blk y10 g3 [.string ks,.bool true,.slice av nv cv] 62):=hb10;have HRX:Hid (Blk y10 g2 zA 62):=blk_same HR9.out (ho10.block g2 (fun e => HOW.out.2.2.2.2 e.symm) HR9.out.lt)
       have HBX:Hid (Below w.heap.size y9 y10):=ho10.below HOW.out.2.2.2.1 HON9.out.size;have HOX:Hid (OwnB y10 wc.heap.size (.slice av nv cv) dd):=HOD.out.sameS (fun k hk => ho10.block k (by have h1:=(HOD.out.ltS k hk).1;have h2:=HG8.out.1;omega) (HOD.out.ltS k hk).2)
       clear hb10 ho10)
    | (clear tq1;with_reducible refine wpSeq_loadW 62 (.tmp 3) g3 0 [.string ks,.bool true,.slice av nv cv] _ (Blk.range HKX.out) Tryz.underlying62 rfl (info_act15 _ _ _) ?_ ?_ ?_ ?_
       · rfl
       · rfl
       · rfl)
    | (clear tq2;with_reducible refine wpSeq_storeRow 62 (.tmp 2) (.tmp 16) g2 zA [.string ks,.bool true,.slice av nv cv] HRX.out rfl (info_act15 _ _ _) (one_act _ _ _ _ _) ?_ ?_ ?_ ?_ ?_
       · rfl
       · rfl
       · rfl
       · rfl
       intro y11 hset;have HBY:Hid (Below w.heap.size y9 y11):=HBX.out.trans (hset.only.below HOW.out.2.1 (Nat.le_trans HON9.out.size HBX.out.size));have HKY:Hid (Blk y11 g2 [.string ks,.bool true,.slice av nv cv] 62):=hset.blk;have HOY:Hid (OwnB y11 w.heap.size (.slice av nv cv) dd):=(HOX.out.sameS (fun k hk => hset.only.block k (by have h1:=(HOX.out.ltS k hk).1;have h2:=HG8.out.2;omega) (HOX.out.ltS k hk).2)).mono HON.out.size
       have HNY:Hid (Only gi w y11):=⟨HBY.out.os.trans HON9.out.os,HBY.out.tape.trans HON9.out.tape,HBY.out.output.trans HON9.out.output,Nat.le_trans HON9.out.size HBY.out.size,fun k hk hlt => (HBY.out.block k hlt).trans (HON9.out.block k hk hlt)⟩
       clear hset))
   refine bodyPost_ret (v:=.agg [.string ks,.bool true,.slice av nv cv].toArray) (results_cell_row (by rfl) _ _ g2 62 ([Value.string ks,Value.bool true,Value.slice av nv cv]:List Value).toArray (0,0) _ rfl HKY.out Tryz.underlying62 rfl (info_act15 _ _ _)) rfl (Or.inl ⟨⟨ky,true,dd⟩,r3,_,vc3,HSP.out,rfl,⟨.slice av nv cv,by rw [actC,HKS.out],HOY.out⟩,HRD9.out.others HR0.out.rd.lt HOW.out.2.2.1 (fun _ k hk => HVB.out k (by rw [← HOW9.out];exact hk)) (Nat.le_refl _) HBY.out,HNY.out,HOW9.out⟩)
theorem Tryz.infoact:(Tryz.prog.info? 62).map (fun i => (i.zero,i.size,i.bytes)) = some (some (.agg zA.toArray),3,48):=by kernel_rfl
def rowP (ps:List (ActT × Value)):List Value:=(ps.map fun p => actC p.1 p.2).flatten
theorem rowP_snoc (ps:List (ActT × Value)) (p:ActT × Value):rowP (ps ++ [p]) = rowP ps ++ actC p.1 p.2:=by simp [rowP]
theorem rowP_len (ps:List (ActT × Value)):(rowP ps).length = ps.length * 3:=by
 induction ps with
 | nil => rfl
 | cons p ps ih => simp only [rowP,List.map_cons,List.flatten_cons,List.length_append,List.length_cons] at *;rw [ih,actC];simp;omega
theorem rowP_at:∀ (ps:List (ActT × Value)) (j i:Nat) (p:ActT × Value) (v:Value),ps[j]? = some p → (actC p.1 p.2)[i]? = some v → (rowP ps)[j * 3 + i]? = some v
 | [],j,_,_,_,h,_ => by simp at h
 | q :: ps,0,i,p,v,h,hv => by
  simp at h
  subst h
  have hi:i < (actC q.1 q.2).length:=(List.getElem?_eq_some_iff.1 hv).1
  show (actC q.1 q.2 ++ rowP ps)[0 * 3 + i]? = _
  rw [Nat.zero_mul,Nat.zero_add,List.getElem?_append_left hi]
  exact hv
 | q :: ps,j + 1,i,p,v,h,hv => by
  simp at h
  show (actC q.1 q.2 ++ rowP ps)[(j + 1) * 3 + i]? = _
  rw [List.getElem?_append_right (by simp [actC];omega),show (j + 1) * 3 + i - (actC q.1 q.2).length = j * 3 + i by simp [actC];omega]
  exact rowP_at ps j i p v h hv
structure OwnA (W:World) (base:Nat) (v:Value) (ps:List (ActT × Value)):Prop where
 row:W.ownsRow base 62 3 v ps.length (rowP ps)
 dat:∀ p ∈ ps,OwnB W base p.2 p.1.data
theorem OwnA.nil (W:World) (base:Nat):OwnA W base (.slice none 0 0) []:=⟨World.ownsRow_nil _ _ _ _,fun p hp => by cases hp⟩
theorem OwnA.form {W:World} {base:Nat} {v:Value} {ps:List (ActT × Value)} (h:OwnA W base v ps):∃ a c,v = .slice a ps.length c:=by
 obtain ⟨_,h2⟩:=h.row
 rcases h2 with ⟨rfl,h0⟩ | ⟨g,cap,cur,rfl,_⟩
 · exact ⟨none,0,by rw [h0]⟩
 · exact ⟨_,cap,rfl⟩
theorem OwnA.lt {W:World} {base:Nat} {v:Value} {ps:List (ActT × Value)} (h:OwnA W base v ps):∀ k,v.ownBlock = some k → base ≤ k ∧ k < W.heap.size:=World.ownsRow.lt h.row
theorem OwnA.same {W W':World} {base:Nat} {v:Value} {ps:List (ActT × Value)} (h:OwnA W base v ps) (hs:∀ k,base ≤ k → k < W.heap.size → W'.heap[k]? = W.heap[k]?):OwnA W' base v ps:=by
 refine ⟨?_,fun p hp => (h.dat p hp).sameS (fun k hk => hs k ((h.dat p hp).ltS k hk).1 ((h.dat p hp).ltS k hk).2)⟩
 have hlt:=h.lt
 obtain ⟨h1,h2⟩:=h.row
 refine ⟨h1,?_⟩
 rcases h2 with h2 | ⟨g,cap,cur,rfl,hg,hh,r⟩
 · exact Or.inl h2
 · exact Or.inr ⟨g,cap,cur,rfl,hg,by rw [hs g hg (hlt g rfl).2];exact hh,r⟩
theorem OwnA.reads {W:World} {base:Nat} {v:Value} {ps:List (ActT × Value)} (h:OwnA W base v ps):ReadsA W v (ps.map (·.1)):=by
 obtain ⟨h1,h2⟩:=id h.row
 rcases h2 with ⟨rfl,h0⟩ | ⟨g,cap,cur,rfl,hg,hh,hc,hm,hs,ht⟩
 · have:ps = []:=List.eq_nil_of_length_eq_zero h0
   subst this;exact ReadsA.nil W
 · refine ⟨_,cap,by rw [List.length_map],by rw [List.length_map];exact hc,(fun e => by cases e),fun _ => ⟨g,0,rfl,fun j hj => ?_⟩⟩
   rw [List.length_map] at hj;obtain ⟨p,hp⟩:∃ p,ps[j]? = some p:=⟨ps[j],List.getElem?_eq_getElem hj⟩;have e:(ps.map (·.1)).getD j ⟨[],false,[]⟩ = p.1:=by rw [List.getD_eq_getElem?_getD,List.getElem?_map,hp];rfl
   rw [e];refine ⟨p.2,fun i u hu => ?_,(h.dat p (List.mem_of_getElem? hp)).reads⟩
   have hr:=rowP_at ps j i p u hp hu;have hi:j * 3 + i < (rowP ps).length:=(List.getElem?_eq_some_iff.1 hr).1;rw [rowP_len] at hi;rw [cell_of_row W g (0 + j * 3 + i) cur _ (0,0) hh,Nat.zero_add];rw [← ht,List.getElem?_take_of_lt hi] at hr
   simpa using hr
theorem build_a1 (f:Operand → Value) (o:Oper) (x:Operand) (s:ByteArray) (b:Bool) (ad:Option Addr) (n c:Nat) (hx:f x = .agg [.string s,.bool b,.slice ad n c].toArray) (ho:o.op = .buildSlice 22 1 #[(0,x)]) (w:World):(execOp f o).run Tryz.prog w = .ok (.value (.slice (some ⟨w.heap.size,0,none⟩) 1 1)) (w.alloc (.cells [.string s,.bool b,.slice ad n c].toArray 62)):=by
 unfold execOp
 rw [ho]
 simp only [List.map_toArray,List.map_cons,List.map_nil,hx]
 kernel_rfl
theorem wp_appendA {o:Oper} {a:Act} {w:World} {K:Act → World → Prop} {Q:Exit → Act → World → Prop} (s x:Operand) (base:Nat) (v:Value) (ps:List (ActT × Value)) (p:ActT × Value) (g:Nat)
 (hown:OwnA w base v ps) (hb:Blk w g (actC p.1 p.2) 62) (hg:v.ownBlock ≠ some g) (hd:OwnB w base p.2 p.1.data) (hlen:ps.length < 1000000) (hbase:base ≤ w.heap.size)
 (ho:o.op = .call { callee:=.builtin .append,args:=#[s,x],argTypes:=#[22,22] }) (hs:a.eval s = v) (hx:a.eval x = .slice (some ⟨g,0,none⟩) 1 1)
 (h:∀ v' w',OwnA w' base v' (ps ++ [p]) → w.grownBy w' v.ownBlock → K (a.put o.dst v') w'):o.wp Tryz.prog a w K Q:=by
 obtain ⟨i0,hi,hz0,hz1,hz2⟩:=info_parts Tryz.infoact
 obtain ⟨av,nv,cv,hpv⟩:=hd.reads.form
 obtain ⟨v',w',hr,h2,h3,h4,h5⟩:=run_append_own_at (P:=Tryz.prog) w base 22 o.type 62 i0 (.agg zA.toArray) 3 48 Tryz.underlying22 hi hz0 hz1 hz2 rfl (by decide) v ps.length (rowP ps) hown.row ⟨g,0,none⟩ 1 1 (actC p.1 p.2) rfl (fun j u hj => by rw [Addr.add_mid,Nat.zero_add,hb.cell];exact hj) (by rw [actC,hpv];exact one_act _ _ _ _ _) (by unfold maxLen;omega) (by omega) hbase
 unfold Oper.wp execOp
 simp only [ho,resolve,invoke,builtin,Sem.run_bind,Sem.run_pure,Result.andThen_ok,List.map_toArray,List.map_cons,List.map_nil,hs,hx,hr]
 have hne:∀ q:ActT × Value,OwnB w base q.2 q.1.data → OwnB w' base q.2 q.1.data:=fun q hq => hq.sameS (fun k hk => h3.block k (hq.ltS k hk).2 (fun e => by
  obtain ⟨h6,h7⟩:=hown.row
  rcases h7 with ⟨rfl,_⟩ | ⟨g2,cap,cur,rfl,_,hh,_⟩
  · cases e
  · simp [Value.ownBlock] at e
    subst e;have hb2:Blk w k cur.toList 62:=by unfold Blk;rw [hh]
    exact hq.neA hb2 (by decide) hk))
 refine h v' w' ⟨by rw [List.length_append,rowP_snoc];exact h2,fun q hq => ?_⟩ h3
 rcases List.mem_append.1 hq with hq | hq
 · exact hne q (hown.dat q hq)
 · rw [List.mem_singleton.1 hq];exact hne p hd
theorem readAll_snoc {r s:Bs} {a:ActT}:∀ (k:Nat) (l:Bs) (xs:List ActT),readAll readA k l = some (xs,r) → readA r = some (a,s) → readAll readA (k + 1) l = some (xs ++ [a],s)
 | 0,l,xs,h,h2 => by
  simp only [readAll,Option.some.injEq,Prod.mk.injEq] at h
  obtain ⟨rfl,rfl⟩:=h
  simp only [readAll,h2,List.nil_append]
 | k + 1,l,xs,h,h2 => by
  rw [readAll] at h ⊢
  cases h1:readA l with
  | none => rw [h1] at h;cases h
  | some p =>
   obtain ⟨b,q⟩:=p;rw [h1] at h;simp only at h ⊢
   cases h3:readAll readA k q with
   | none => rw [h3] at h;cases h
   | some p2 =>
    obtain ⟨l2,t⟩:=p2;rw [h3] at h;simp only [Option.some.injEq,Prod.mk.injEq] at h;obtain ⟨rfl,rfl⟩:=h;rw [readAll_snoc k q l2 h3 h2]
    rfl
theorem readAll_stop {r:Bs}:∀ (k m:Nat) (l:Bs) (xs:List ActT),readAll readA k l = some (xs,r) → readA r = none → k < m → readAll readA m l = none
 | 0,m,l,xs,h,h2,hm => by
  simp only [readAll,Option.some.injEq,Prod.mk.injEq] at h
  obtain ⟨rfl,rfl⟩:=h
  obtain ⟨m,rfl⟩:∃ j,m = j + 1:=⟨m - 1,by omega⟩
  simp only [readAll,h2]
 | k + 1,m,l,xs,h,h2,hm => by
  obtain ⟨m,rfl⟩:∃ j,m = j + 1:=⟨m - 1,by omega⟩
  rw [readAll] at h ⊢
  cases h1:readA l with
  | none => rfl
  | some p =>
   obtain ⟨b,q⟩:=p;rw [h1] at h;simp only at h ⊢
   cases h3:readAll readA k q with
   | none => rw [h3] at h;cases h
   | some p2 =>
    obtain ⟨l2,t⟩:=p2;rw [h3] at h;simp only [Option.some.injEq,Prod.mk.injEq] at h;obtain ⟨rfl,rfl⟩:=h;rw [readAll_stop k m q l2 h3 h2 (by omega)]
theorem readB_of {l r s:Bs} {n:Nat} {xs:List ActT} (h:readCount 4096 l = some (n,r)) (h2:readAll readA n r = some (xs,s)):readB l = if s = [] then (if goodF [] xs = true then some xs else none) else none:=by
 unfold readCount at h
 unfold readB readList
 cases h1:readNum l with
 | none => rw [h1] at h;cases h
 | some p =>
  obtain ⟨m,q⟩:=p
  rw [h1] at h
  simp only at h ⊢
  split at h
  next hm =>
   simp only [Option.some.injEq,Prod.mk.injEq] at h;obtain ⟨rfl,rfl⟩:=h;rw [if_pos hm,h2]
   cases s with
   | nil => rw [if_pos rfl]
   | cons x s => rw [if_neg (by simp)]
  · cases h
theorem readB_cnt {l:Bs} (h:readCount 4096 l = none):readB l = none:=by
 unfold readCount at h
 unfold readB readList
 cases h1:readNum l with
 | none => rfl
 | some p =>
  obtain ⟨m,q⟩:=p
  rw [h1] at h
  simp only at h ⊢
  split at h
  · cases h
  next hm => simp [hm]
theorem readB_all {l r:Bs} {n:Nat} (h:readCount 4096 l = some (n,r)) (h2:readAll readA n r = none):readB l = none:=by
 unfold readCount at h
 unfold readB readList
 cases h1:readNum l with
 | none => rfl
 | some p =>
  obtain ⟨m,q⟩:=p
  rw [h1] at h
  simp only at h ⊢
  split at h
  next hm =>
   simp only [Option.some.injEq,Prod.mk.injEq] at h;obtain ⟨rfl,rfl⟩:=h;rw [if_pos hm,h2]
  · cases h
theorem wp_cellA {o:Oper} {a:Act} {w:World} {K:Act → World → Prop} {Q:Exit → Act → World → Prop} (x y:Operand) (g k:Nat) (cs:List Value) (ad:Option Addr) (n c:Nat) (tb:TypeId) (hk:k < cs.length) (hb:Blk w g cs tb) (ho:o.op = .store 22 x y) (hx:a.eval x = .pointer (some ⟨g,k,none⟩)) (hy:a.eval y = .slice ad n c)
 (h:∀ w',Blk w' g (cs.set k (.slice ad n c)) tb → Only g w w' → K (a.put o.dst undef) w'):o.wp Tryz.prog a w K Q:=by
 have hc:w.cell? ⟨g,k,none⟩ = some cs[k]:=by rw [hb.cell,List.getElem?_eq_getElem hk]
 have hf:w.frozen? ⟨g,k,none⟩ = false:=hb.frozen k
 have he:(execOp a.eval o).run Tryz.prog w = .ok .skip (w.setCell ⟨g,k,none⟩ (.slice ad n c)):=by
  clear h
  generalize a.eval = f at hx hy ⊢
  unfold execOp
  rw [ho]
  simp [go_sem,hx,hy,hc,hf]
 unfold Oper.wp
 rw [he,Oper.upon_skip]
 exact h _ (hb.set k _) (Only.setCell (Only.refl g w) k _)
theorem cnt_pos {l r:Bs} {m n:Nat} (h:readCount m l = some (n,r)):0 < l.length:=by
 cases l with
 | nil => simp [readCount,readNum,decNum] at h
 | cons x l => simp
structure Rb (w:World) (H gl:Nat) (v0:Value) (va v:Value) (ps:List (ActT × Value)) (r:Bs) (W:World):Prop where
 rd:Rd W (H + 3) (H + 1) v r
 own:v.ownBlock = v0.ownBlock
 box:Blk W gl [va] 22
 lst:OwnA W (H + 4) va ps
 sz:w.heap.size = H + 4
 lt:gl < H
 size:w.heap.size ≤ W.heap.size
 os:W.os = w.os
 tape:W.tape = w.tape
 output:W.output = w.output
 fr:∀ k,k < w.heap.size → k ≠ H + 1 → k ≠ gl → W.heap[k]? = w.heap[k]?
theorem Rb.new {w W W':World} {H gl:Nat} {v0 va v:Value} {ps:List (ActT × Value)} {r:Bs} (h:Rb w H gl v0 va v ps r W) (hb:Below W.heap.size W W'):Rb w H gl v0 va v ps r W':=
 ⟨h.rd.below hb,h.own,h.box.below hb h.box.lt,h.lst.same (fun k _ hk => hb.block k hk),h.sz,h.lt,Nat.le_trans h.size hb.size,hb.os.trans h.os,hb.tape.trans h.tape,hb.output.trans h.output,fun k hk h1 h2 => (hb.block k (Nat.lt_of_lt_of_le hk h.size)).trans (h.fr k hk h1 h2)⟩
theorem Rb.call {w W W':World} {H gl:Nat} {v0 va v v':Value} {ps:List (ActT × Value)} {r r':Bs} (h:Rb w H gl v0 va v ps r W) (hr:Rd W' (H + 3) (H + 1) v' r') (ho:Only (H + 1) W W') (hv:v'.ownBlock = v.ownBlock):Rb w H gl v0 va v' ps r' W':=
 ⟨hr,hv.trans h.own,blk_same h.box (ho.block gl (by have:=h.lt;omega) h.box.lt),h.lst.same (fun k h1 hk => ho.block k (by omega) hk),h.sz,h.lt,Nat.le_trans h.size ho.size,ho.os.trans h.os,ho.tape.trans h.tape,ho.output.trans h.output,fun k hk h1 h2 => (ho.block k h1 (Nat.lt_of_lt_of_le hk h.size)).trans (h.fr k hk h1 h2)⟩
theorem Rb.ownLt {w W:World} {H gl:Nat} {v0 va v:Value} {ps:List (ActT × Value)} {r:Bs} (h:Rb w H gl v0 va v ps r W) (h0:∀ k,v0.ownBlock = some k → k < H ∧ k ≠ gl):∀ k,v.ownBlock = some k → k < H ∧ k ≠ gl:=fun k hk => h0 k (by rw [← h.own];exact hk)
theorem Rb.put {w W W6 W':World} {H gl:Nat} {v0 va va' v:Value} {ps:List (ActT × Value)} {p:ActT × Value} {r:Bs} (h:Rb w H gl v0 va v ps r W) (h0:∀ k,v0.ownBlock = some k → k < H ∧ k ≠ gl) (ho:OwnA W6 (H + 4) va' (ps ++ [p])) (hg:W.grownBy W6 va.ownBlock) (hb:Blk W' gl [va'] 22) (hon:Only gl W6 W'):Rb w H gl v0 va' v (ps ++ [p]) r W':=by
 have hlt:=h.lst.lt
 have hsz:=h.sz
 have hgl:=h.lt
 have up:∀ k,k < W.heap.size → k < H + 4 → k ≠ gl → W'.heap[k]? = W.heap[k]?:=fun k hk h4 hne => (hon.block k hne (Nat.lt_of_lt_of_le hk hg.size)).trans (hg.block k hk (fun e => by have:=(hlt k e.symm).1;omega))
 have hs:W.heap.size ≤ W'.heap.size:=Nat.le_trans hg.size hon.size
 have hrl:=h.rd.rd.lt
 have hil:=h.rd.inp.lt
 refine ⟨⟨blk_same h.rd.rd (up _ hrl (by omega) (by omega)),blk_same h.rd.inp (up _ hil (by omega) (by omega)),?_⟩,h.own,hb,ho.same (fun k h1 hk => hon.block k (by omega) hk),h.sz,h.lt,Nat.le_trans h.size hs,hon.os.trans (hg.os.trans h.os),hon.tape.trans (hg.tape.trans h.tape),hon.output.trans (hg.output.trans h.output),fun k hk h1 h2 => (up k (Nat.lt_of_lt_of_le hk h.size) (by omega) h2).trans (h.fr k hk h1 h2)⟩
 obtain ⟨ad,cap,rfl,h2,h3,h4⟩:=h.rd.byt
 refine ⟨ad,cap,rfl,h2,h3,fun hp => ?_⟩
 obtain ⟨b,off,rfl,h6⟩:=h4 hp
 have hbk:=h.ownLt h0 b rfl
 refine ⟨b,off,rfl,fun j hj => ?_⟩
 have h7:=h6 j hj
 have hb2:W'.heap[b]? = W.heap[b]?:=up b (block_lt_of_cell h7) (by omega) hbk.2
 unfold World.cell? at h7 ⊢
 rw [hb2]
 exact h7
def RbA (w:World) (H gl:Nat) (l:Bs) (l2:Bs) (W:World):Prop:=∃ va v ps,Rb w H gl v va v ps l2 W ∧ readB l = (if l2 = [] then some (ps.map (·.1)) else none)
def RbB (w:World) (H gl:Nat) (l:Bs) (W:World):Prop:=readB l = none ∧ w.heap.size ≤ W.heap.size ∧ W.os = w.os ∧ W.tape = w.tape ∧ W.output = w.output ∧ ∀ k,k < w.heap.size → k ≠ H + 1 → k ≠ gl → W.heap[k]? = w.heap[k]?
theorem Rb.threw {w W W':World} {H gl:Nat} {v0 va v:Value} {ps:List (ActT × Value)} {r l:Bs} {e:Ending} (h:Rb w H gl v0 va v ps r W) (hT:Threw (H + 1) W e W') (hn:readB l = none):Does H (RbA w H gl l) (RbB w H gl l) w (thrown (H + 1)) W':=by
 obtain ⟨v',hb,ad,m,c,hv⟩:=hT.bad
 have up:∀ k,k < w.heap.size → k ≠ H + 1 → k ≠ gl → W'.heap[k]? = w.heap[k]?:=fun k hk h1 h2 => (hT.onl.block k h1 (Nat.lt_of_lt_of_le hk h.size)).trans (h.fr k hk h1 h2)
 have hsz:=h.sz
 have hgl:=h.lt
 exact ⟨Nat.le_trans h.size hT.onl.size,fun k h1 h2 h3 => up k (by omega) h3 (by omega),Or.inr ⟨rfl,⟨v',ad,m,c,hv,hb⟩,hn,Nat.le_trans h.size hT.onl.size,hT.onl.os.trans h.os,hT.onl.tape.trans h.tape,hT.onl.output.trans h.output,up⟩⟩
theorem Rb.done {w W:World} {H gl:Nat} {v0 va v:Value} {ps:List (ActT × Value)} {r l:Bs} (h:Rb w H gl v0 va v ps r W) (hn:readB l = (if r = [] then some (ps.map (·.1)) else none)):Does H (RbA w H gl l) (RbB w H gl l) w (.returned (.tuple #[])) W:=by
 have hsz:=h.sz
 have hgl:=h.lt
 exact ⟨h.size,fun k h1 h2 h3 => h.fr k (by omega) h3 (by omega),Or.inl ⟨rfl,v,r,h.rd,va,v,ps,⟨h.rd,rfl,h.box,h.lst,h.sz,h.lt,h.size,h.os,h.tape,h.output,h.fr⟩,hn⟩⟩
theorem sReadBatch1_any (H gl:Nat) (vb:Value) (l:Bs) (w:World) (hsz:w.heap.size = H + 4) (hgl:gl < H) (hbox:Blk w gl [.slice none 0 0] 22) (h0:0 < l.length → ∀ k,vb.ownBlock = some k → k < H ∧ k ≠ gl) (hrd:Rd w (H + 3) (H + 1) vb l) :
 Calls Tryz.prog 39 #[.pointer (some ⟨H + 3,0,none⟩),.pointer (some ⟨gl,0,none⟩)] w (Does H (RbA w H gl l) (RbB w H gl l) w):=by
 have HRB0:Hid (Rb w H gl vb (.slice none 0 0) vb [] l w):=⟨hrd,rfl,hbox,OwnA.nil _ _,hsz,hgl,Nat.le_refl _,rfl,rfl,rfl,fun _ _ _ _ => rfl⟩
 have HH0:Hid (0 < l.length → ∀ k,vb.ownBlock = some k → k < H ∧ k ≠ gl):=h0
 have HCT:Hid (Calls Tryz.prog 40 #[.pointer (some ⟨H + 3,0,none⟩),.int .i64 4096] w fun e w' => RdDoes (H + 3) (H + 1) vb w (readCount 4096 l) (fun a _ v => v = .int .i64 (a:Int)) e w'):=ccount_any (H + 3) (H + 1) 4096 (by decide) vb l w hrd
 obtain ⟨gr,HGR⟩:=sqn (H + 3)
 rw [← HGR.out] at HCT ⊢
 clear hsz hgl hbox h0 hrd
 go_enter Tryz.func39,Tryz.ntmps39
 go_wp2_with fail
 refine HCT.out.mono ?_
 rintro e y1 (⟨n,r1,va1,vc1,hc,rfl,rfl,hrd,ho,hob⟩ | ⟨hc,hT⟩)
 case inr =>
  have HD:Hid (Does H (RbA w H gl l) (RbB w H gl l) w (thrown (H + 1)) y1):=HRB0.out.threw hT (readB_cnt hc)
  obtain rfl:=hT.eq
  unfold thrown at HD ⊢
  clear hT
  go_wp2
  exact ⟨rfl,HD.out⟩
 have HC1:Hid (readCount 4096 l = some (n,r1)):=hc
 have H00:Hid (∀ k,vb.ownBlock = some k → k < H ∧ k ≠ gl):=HH0.out (cnt_pos hc)
 have HN1:Hid (n ≤ 4096):=readCount_le hc
 have HRB1:Hid (Rb w H gl vb (.slice none 0 0) vc1 [] r1 y1):=HRB0.out.call (by rw [HGR.out] at hrd;exact hrd) ho hob
 clear hc hrd ho hob HCT HRB0
 go_wp2
 go_loopw [5] (fun iv W => ∃ (i:Nat) (a0:Option Addr) (c0:Nat) (v:Value) (ps:List (ActT × Value)) (r:Bs),i ≤ n ∧ iv = .int .i64 (i:Int) ∧ Hid (ps.length = i) ∧ Hid (Rb w H gl vb (.slice a0 i c0) v ps r W) ∧ Hid (readAll readA i r1 = some (ps.map (·.1),r))) (fun iv _ => n - (intOf iv).toNat)
 case atStart => exact ⟨0,none,0,vc1,[],r1,Nat.zero_le _,rfl,rfl,HRB1,rfl⟩
 case round =>
  clear HRB1
  obtain ⟨i,a0,c0,v,ps,r,hi,rfl,HPL,HRB,HAL⟩:=hrel
  by_cases hin:i < n
  case neg =>
   have hlk:¬ ((i:Int) < (n:Int)):=by omega
   obtain rfl:i = n:=by omega
   have q0:wr.cell? ⟨gl,0,none⟩ = some (.slice a0 i c0):=HRB.out.box.cell 0;have HCK:Hid (Calls Tryz.prog 11 #[.slice a0 i c0] wr fun e w' => e = .returned (.int .i64 (chkL (ps.map (·.1)))) ∧ Below wr.heap.size wr w'):=sCheck_any _ _ _ HRB.out.lst.reads (by rw [List.length_map,HPL.out];have:=HN1.out;omega)
   have hof:=readB_of HC1.out HAL.out;obtain ⟨X,HX⟩:=sqn (chkL (ps.map (·.1)));rw [← HX.out] at HCK;have HCF:Hid (∀ W,Rd W gr (H + 1) v r → Calls Tryz.prog 42 #[.pointer (some ⟨gr,0,none⟩)] W fun e w' => Threw (H + 1) W e w'):=fun W hW => (cfail_any gr (H + 1) v r W hW).mono (fun e w' h => by obtain ⟨rfl,rfl⟩:=h;exact hW.threw)
   rcases chkL_or (ps.map (·.1)) with h | h
   · have HGD:Hid (readB l = (if r = [] then some (ps.map (·.1)) else none)):=by show _ = _;rw [hof,if_pos (chkL_ok.1 h).2]
     obtain rfl:X = 0:=by rw [HX.out];exact h
     clear h hof hi hin;have tk0:Hid True:=trivial
     go_wp2_with (first
      | (clear tk0;go_at_call 11;refine (HCK.out).mono ?_;rintro e0 y2 ⟨rfl,hz⟩
         replace HRB:Hid (Rb w H gl vb (.slice a0 i c0) v ps r y2):=HRB.out.new hz;clear hz q0))
     refine bodyPost_ret (results_none rfl _ _ _) rfl ?_;exact HRB.out.done HGD.out
   · have HBD:Hid (readB l = none):=by
      show _ = _;have hg:¬ (goodF [] (ps.map (·.1)) = true):=fun hg => by rw [chkL_ok.2 ⟨by rw [List.length_map,HPL.out];exact HN1.out,hg⟩] at h;cases h
      rw [hof,if_neg hg]
      split <;> rfl
     obtain rfl:X = 1:=by rw [HX.out];exact h
     clear h hof hi hin;have tk0:Hid True:=trivial
     go_wp2_with (first
      | (clear tk0;go_at_call 11;refine (HCK.out).mono ?_;rintro e0 y2 ⟨rfl,hz⟩
         replace HRB:Hid (Rb w H gl vb (.slice a0 i c0) v ps r y2):=HRB.out.new hz;clear hz q0))
     refine (HCF.out _ (by rw [HGR.out];exact HRB.out.rd)).mono ?_
     rintro e y3 hT;have HD:Hid (Does H (RbA w H gl l) (RbB w H gl l) w (thrown (H + 1)) y3):=HRB.out.threw hT HBD.out;obtain rfl:=hT.eq;unfold thrown at HD ⊢;clear hT;go_wp2;exact ⟨rfl,HD.out⟩
  case pos =>
   have hlk:(i:Int) < (n:Int):=by omega
   have f1:IntKind.i64.wrap ((i:Int) + 1) = (i:Int) + 1:=by rw [IntKind.wrap_i64];have:=HN1.out;omega
   have HIN:Hid (i < n):=hin
   go_wp2_with fail
   refine wp_region_held_drew (S:=fun _ => True) (by kernel_rfl) trivial ?_
   intro hS;replace HRB:Hid (Rb w H gl vb (.slice a0 i c0) v ps r (World.drew wr)):=HRB.out.new (Below.refl _ _).drew
   change wpAnyH _ _ _ _ _ _ _ _ (World.drew wr)
   generalize World.drew wr = y2 at *
   refine tkc 1 (.pointer (some ⟨gr,0,none⟩)) rfl hS ?_;simp only [Act.put,sq];refine wpAnyH_pair 0 2 (by kernel_rfl) ?_ ?_
   · refine wpOp_vl 0 (.slice a0 i c0) y2 rfl (by rfl) (by have hc:=HRB.out.box.cell 0;simp at hc;simp [go_sem,hc]) ⟨trivial,?_⟩
     simp only [Act.put,sq];refine wpAnyH_enterP 2 (by kernel_rfl) rfl (by rfl) (f:=41) (args:=#[.pointer (some ⟨gr,0,none⟩)]) (by simp [go_sem]) (sReadAct_any gr (H + 1) _ _ _ (by rw [HGR.out];exact HRB.out.rd)) ?_
     rintro e z2 (⟨a,r2,va2,v2,hc,rfl,⟨vd,rfl,hown⟩,hrd,ho,hob⟩ | ⟨hc,hT⟩)
     case inr =>
      have hd:=HRB.out.threw hT (readB_all HC1.out (readAll_stop i n r1 _ HAL.out hc HIN.out));obtain rfl:=hT.eq;exact Or.inr ⟨_,rfl,rfl,hd⟩
     refine Or.inl ⟨_,rfl,trivial,?_⟩;have HOD:Hid (OwnB z2 (H + 4) vd a.data):=hown.mono (by rw [← HRB.out.sz];exact HRB.out.size)
     replace HRB:=HRB.out.call (by rw [HGR.out] at hrd;exact hrd) ho hob
     replace HRB:Hid (Rb w H gl vb (.slice a0 i c0) v2 ps r2 z2):=HRB;have HAL2:Hid (readAll readA (i + 1) r1 = some ((ps ++ [(a,vd)]).map (·.1),r2)):=by show _ = _;rw [List.map_append];exact readAll_snoc i r1 _ HAL.out hc
     obtain ⟨av,nv,cv,hvd⟩:=hown.reads.form;subst hvd;obtain ⟨ks,HKS⟩:=sqn (strB a.key);obtain ⟨st,HST⟩:=sqn (a.set);have HCE:Hid (actC a (.slice av nv cv) = [.string ks,.bool st,.slice av nv cv]):=by show _ = _;rw [actC,HKS.out,HST.out]
     rw [HCE.out];clear hown hrd ho hob hc;simp only [Act.put,sq];refine wpAnyH_step 3 _ _ (by kernel_rfl) rfl (by rfl) (build_a1 _ _ (.tmp 9) ks st av nv cv rfl rfl _) trivial ?_
     obtain ⟨g10,z3,e3,e3w,n3⟩:∃ g y,g = z2.heap.size ∧ y = z2.alloc (.cells [.string ks,.bool st,.slice av nv cv].toArray 62) ∧ NewR [.string ks,.bool st,.slice av nv cv] 62 z2 g y:=⟨_,_,rfl,rfl,NewR.of _ _ _⟩;rw [← e3w,← e3];clear e3 e3w;have HB10:Hid (Blk z3 g10 (actC a (.slice av nv cv)) 62):=by rw [HCE.out];exact n3.blk
     have HNE:Hid ((Value.slice a0 i c0).ownBlock ≠ some g10):=fun e => by have h1:=(HRB.out.lst.lt g10 e).2;have h2:=n3.ge;omega
     replace HOD:Hid (OwnB z3 (H + 4) (.slice av nv cv) a.data):=HOD.out.newS n3.below;replace HRB:Hid (Rb w H gl vb (.slice a0 i c0) v2 ps r2 z3):=HRB.out.new n3.below;clear n3;simp only [Act.put,sq];refine wpAnyH_law 4 (by kernel_rfl) rfl (by rfl) (wp_appendA (.tmp 7) (.tmp 10) (H + 4) (.slice a0 i c0) ps (a,.slice av nv cv) g10 HRB.out.lst HB10.out HNE.out HOD.out (by rw [HPL.out];have h1:=HN1.out;have h2:=HIN.out;omega) (by rw [← HRB.out.sz];exact HRB.out.size) rfl rfl rfl ?_)
     intro v4 z4 ho4 hg4;refine ⟨trivial,?_⟩;obtain ⟨a4,c4,hv4⟩:=ho4.form;rw [List.length_append,HPL.out] at hv4;replace hv4:v4 = .slice a4 (i + 1) c4:=hv4;subst hv4;have HBX:Hid (Blk z4 gl [.slice a0 i c0] 22):=blk_same HRB.out.box (hg4.block gl HRB.out.box.lt (fun e => by have h1:=(HRB.out.lst.lt gl e.symm).1;have h2:=HRB.out.lt;omega))
     simp only [Act.put,sq];refine wpAnyH_law 5 (by kernel_rfl) rfl (by rfl) (wp_cellA (.tmp 1) (.tmp 11) gl 0 [.slice a0 i c0] a4 (i + 1) c4 22 (by simp) HBX.out rfl rfl rfl ?_)
     intro z5 hb5 ho5;refine ⟨trivial,?_⟩;have HRB5:Hid (Rb w H gl vb (.slice a4 (i + 1) c4) v2 (ps ++ [(a,.slice av nv cv)]) r2 z5):=HRB.out.put H00.out ho4 hg4 hb5 ho5;have HPL5:Hid ((ps ++ [(a,Value.slice av nv cv)]).length = i + 1):=by show _ = _;rw [List.length_append,HPL.out];rfl
     clear ho4 hg4 hb5 ho5;simp only [Act.put,sq];refine wpAnyH_done (by kernel_rfl) ?_ _
     go_wp2;go_roundw
     case rel => exact ⟨i + 1,a4,c4,v2,ps ++ [(a,.slice av nv cv)],r2,by omega,by simp,HPL5,HRB5,HAL2⟩
     case measure => simp [intOf];omega
   · refine wpOp_enterP 2 rfl (by rfl) (f:=41) (args:=#[.pointer (some ⟨gr,0,none⟩)]) (by simp [go_sem]) (sReadAct_any gr (H + 1) _ _ _ (by rw [HGR.out];exact HRB.out.rd)) ?_
     rintro e z2 (⟨a,r2,va2,v2,hc,rfl,⟨vd,rfl,hown⟩,hrd,ho,hob⟩ | ⟨hc,hT⟩)
     case inr =>
      have hd:=HRB.out.threw hT (readB_all HC1.out (readAll_stop i n r1 _ HAL.out hc HIN.out));obtain rfl:=hT.eq;exact Or.inr ⟨_,rfl,rfl,hd⟩
     refine Or.inl ⟨_,rfl,trivial,?_⟩;have HOD:Hid (OwnB z2 (H + 4) vd a.data):=hown.mono (by rw [← HRB.out.sz];exact HRB.out.size)
     replace HRB:=HRB.out.call (by rw [HGR.out] at hrd;exact hrd) ho hob
     replace HRB:Hid (Rb w H gl vb (.slice a0 i c0) v2 ps r2 z2):=HRB;have HAL2:Hid (readAll readA (i + 1) r1 = some ((ps ++ [(a,vd)]).map (·.1),r2)):=by show _ = _;rw [List.map_append];exact readAll_snoc i r1 _ HAL.out hc
     obtain ⟨av,nv,cv,hvd⟩:=hown.reads.form;subst hvd;obtain ⟨ks,HKS⟩:=sqn (strB a.key);obtain ⟨st,HST⟩:=sqn (a.set);have HCE:Hid (actC a (.slice av nv cv) = [.string ks,.bool st,.slice av nv cv]):=by show _ = _;rw [actC,HKS.out,HST.out]
     rw [HCE.out];clear hown hrd ho hob hc;simp only [Act.put,sq];refine wpAnyH_pair 0 3 (by kernel_rfl) ?_ ?_
     · refine wpOp_vl 0 (.slice a0 i c0) z2 rfl (by rfl) (by have hc:=HRB.out.box.cell 0;simp at hc;simp [go_sem,hc]) ⟨trivial,?_⟩
       simp only [Act.put,sq];refine wpAnyH_step 3 _ _ (by kernel_rfl) rfl (by rfl) (build_a1 _ _ (.tmp 9) ks st av nv cv rfl rfl _) trivial ?_
       obtain ⟨g10,z3,e3,e3w,n3⟩:∃ g y,g = z2.heap.size ∧ y = z2.alloc (.cells [.string ks,.bool st,.slice av nv cv].toArray 62) ∧ NewR [.string ks,.bool st,.slice av nv cv] 62 z2 g y:=⟨_,_,rfl,rfl,NewR.of _ _ _⟩;rw [← e3w,← e3];clear e3 e3w;have HB10:Hid (Blk z3 g10 (actC a (.slice av nv cv)) 62):=by rw [HCE.out];exact n3.blk
       have HNE:Hid ((Value.slice a0 i c0).ownBlock ≠ some g10):=fun e => by have h1:=(HRB.out.lst.lt g10 e).2;have h2:=n3.ge;omega
       replace HOD:Hid (OwnB z3 (H + 4) (.slice av nv cv) a.data):=HOD.out.newS n3.below;replace HRB:Hid (Rb w H gl vb (.slice a0 i c0) v2 ps r2 z3):=HRB.out.new n3.below;clear n3;simp only [Act.put,sq];refine wpAnyH_law 4 (by kernel_rfl) rfl (by rfl) (wp_appendA (.tmp 7) (.tmp 10) (H + 4) (.slice a0 i c0) ps (a,.slice av nv cv) g10 HRB.out.lst HB10.out HNE.out HOD.out (by rw [HPL.out];have h1:=HN1.out;have h2:=HIN.out;omega) (by rw [← HRB.out.sz];exact HRB.out.size) rfl rfl rfl ?_)
       intro v4 z4 ho4 hg4;refine ⟨trivial,?_⟩;obtain ⟨a4,c4,hv4⟩:=ho4.form;rw [List.length_append,HPL.out] at hv4;replace hv4:v4 = .slice a4 (i + 1) c4:=hv4;subst hv4;have HBX:Hid (Blk z4 gl [.slice a0 i c0] 22):=blk_same HRB.out.box (hg4.block gl HRB.out.box.lt (fun e => by have h1:=(HRB.out.lst.lt gl e.symm).1;have h2:=HRB.out.lt;omega))
       simp only [Act.put,sq];refine wpAnyH_law 5 (by kernel_rfl) rfl (by rfl) (wp_cellA (.tmp 1) (.tmp 11) gl 0 [.slice a0 i c0] a4 (i + 1) c4 22 (by simp) HBX.out rfl rfl rfl ?_)
       intro z5 hb5 ho5;refine ⟨trivial,?_⟩;have HRB5:Hid (Rb w H gl vb (.slice a4 (i + 1) c4) v2 (ps ++ [(a,.slice av nv cv)]) r2 z5):=HRB.out.put H00.out ho4 hg4 hb5 ho5;have HPL5:Hid ((ps ++ [(a,Value.slice av nv cv)]).length = i + 1):=by show _ = _;rw [List.length_append,HPL.out];rfl
       clear ho4 hg4 hb5 ho5;simp only [Act.put,sq];refine wpAnyH_done (by kernel_rfl) ?_ _
       go_wp2;go_roundw
       case rel => exact ⟨i + 1,a4,c4,v2,ps ++ [(a,.slice av nv cv)],r2,by omega,by simp,HPL5,HRB5,HAL2⟩
       case measure => simp [intOf];omega
     · refine wpOp_vl 3 _ _ rfl (by rfl) (build_a1 _ _ (.tmp 9) ks st av nv cv rfl rfl _) ⟨trivial,?_⟩
       obtain ⟨g10,z3,e3,e3w,n3⟩:∃ g y,g = z2.heap.size ∧ y = z2.alloc (.cells [.string ks,.bool st,.slice av nv cv].toArray 62) ∧ NewR [.string ks,.bool st,.slice av nv cv] 62 z2 g y:=⟨_,_,rfl,rfl,NewR.of _ _ _⟩;rw [← e3w,← e3];clear e3 e3w;have HB10:Hid (Blk z3 g10 (actC a (.slice av nv cv)) 62):=by rw [HCE.out];exact n3.blk
       have HNE:Hid ((Value.slice a0 i c0).ownBlock ≠ some g10):=fun e => by have h1:=(HRB.out.lst.lt g10 e).2;have h2:=n3.ge;omega
       replace HOD:Hid (OwnB z3 (H + 4) (.slice av nv cv) a.data):=HOD.out.newS n3.below;replace HRB:Hid (Rb w H gl vb (.slice a0 i c0) v2 ps r2 z3):=HRB.out.new n3.below;clear n3;simp only [Act.put,sq];refine wpAnyH_step 0 (.slice a0 i c0) z3 (by kernel_rfl) rfl (by rfl) (by have hc:=HRB.out.box.cell 0;simp at hc;simp [go_sem,hc]) trivial ?_
       simp only [Act.put,sq];refine wpAnyH_law 4 (by kernel_rfl) rfl (by rfl) (wp_appendA (.tmp 7) (.tmp 10) (H + 4) (.slice a0 i c0) ps (a,.slice av nv cv) g10 HRB.out.lst HB10.out HNE.out HOD.out (by rw [HPL.out];have h1:=HN1.out;have h2:=HIN.out;omega) (by rw [← HRB.out.sz];exact HRB.out.size) rfl rfl rfl ?_)
       intro v4 z4 ho4 hg4;refine ⟨trivial,?_⟩;obtain ⟨a4,c4,hv4⟩:=ho4.form;rw [List.length_append,HPL.out] at hv4;replace hv4:v4 = .slice a4 (i + 1) c4:=hv4;subst hv4;have HBX:Hid (Blk z4 gl [.slice a0 i c0] 22):=blk_same HRB.out.box (hg4.block gl HRB.out.box.lt (fun e => by have h1:=(HRB.out.lst.lt gl e.symm).1;have h2:=HRB.out.lt;omega))
       simp only [Act.put,sq];refine wpAnyH_law 5 (by kernel_rfl) rfl (by rfl) (wp_cellA (.tmp 1) (.tmp 11) gl 0 [.slice a0 i c0] a4 (i + 1) c4 22 (by simp) HBX.out rfl rfl rfl ?_)
       intro z5 hb5 ho5;refine ⟨trivial,?_⟩;have HRB5:Hid (Rb w H gl vb (.slice a4 (i + 1) c4) v2 (ps ++ [(a,.slice av nv cv)]) r2 z5):=HRB.out.put H00.out ho4 hg4 hb5 ho5;have HPL5:Hid ((ps ++ [(a,Value.slice av nv cv)]).length = i + 1):=by show _ = _;rw [List.length_append,HPL.out];rfl
       clear ho4 hg4 hb5 ho5;simp only [Act.put,sq];refine wpAnyH_done (by kernel_rfl) ?_ _
       go_wp2;go_roundw
       case rel => exact ⟨i + 1,a4,c4,v2,ps ++ [(a,.slice av nv cv)],r2,by omega,by simp,HPL5,HRB5,HAL2⟩
       case measure => simp [intOf];omega
theorem doesMono15 {H:Nat} {A A':List (BitVec 8) → World → Prop} {B B':World → Prop} {w1 w2:World} {e:Ending} (h:Does H A B w1 e w2) (ha:∀ l,A l w2 → A' l w2) (hb:B w2 → B' w2):Does H A' B' w1 e w2:=
 ⟨h.size,h.kept,h.way.elim (fun ⟨h1,v2,l2,h2,h3⟩ => Or.inl ⟨h1,v2,l2,h2,ha l2 h3⟩) (fun ⟨h1,h2,h3⟩ => Or.inr ⟨h1,h2,hb h3⟩)⟩
theorem enters_rb:∀ xs w,(callFunc 39 xs).run Tryz.prog w = .ok (.enter 39 xs) w:=enters_of Tryz.func39 (by kernel_rfl) rfl
def BtR (w:World) (b:Bs) (e:Ending) (w':World):Prop:=
 Below w.heap.size w w' ∧ ((∃ va ps,readB b = some (ps.map (·.1)) ∧ e = .returned (.tuple #[va,.int .i64 0]) ∧ OwnA w' w.heap.size va ps) ∨ (readB b = none ∧ e = .returned (.tuple #[.slice none 0 0,.int .i64 3])))
theorem OwnA.mono {W:World} {base B:Nat} {v:Value} {ps:List (ActT × Value)} (h:OwnA W base v ps) (hB:B ≤ base):OwnA W B v ps:=by
 refine ⟨?_,fun p hp => (h.dat p hp).mono hB⟩
 obtain ⟨h1,h2⟩:=h.row
 refine ⟨h1,h2.imp id ?_⟩
 rintro ⟨g,cap,cur,e,hg,r⟩
 exact ⟨g,cap,cur,e,Nat.le_trans hB hg,r⟩
structure Rz (w:World) (gl:Nat) (b:Bs) (en:Int) (w':World):Prop where
 bel:Below w.heap.size w w'
 out:(en = 0 ∧ ∃ va ps,readB b = some (ps.map (·.1)) ∧ Blk w' gl [va] 22 ∧ OwnA w' w.heap.size va ps) ∨ (en = 3 ∧ readB b = none)
theorem rb_read (vb:Value) (b:Bs) (gl:Nat) (w y1:World) (hb:Below w.heap.size w y1) (hr:Reads w vb b) (hg:Blk y1 gl [.slice none 0 0] 22) (hge:w.heap.size ≤ gl) :
 Calls Tryz.prog 38 #[vb,.func (.func 39) #[] #[.pointer (some ⟨gl,0,none⟩)]] y1 fun e w' => ∃ en:Int,e = .returned (.int .i64 en) ∧ Rz w gl b en w':=by
 obtain ⟨H,eH⟩:∃ H,H = y1.heap.size:=⟨_,rfl⟩
 have hgl:gl < H:=by rw [eH];exact hg.lt
 have hz:w.heap.size ≤ H:=by omega
 have h:=read_any 39 #[.pointer (some ⟨gl,0,none⟩)] vb b (fun l2 W => ∃ w1:World,w1.heap.size = H + 4 ∧ Below H y1 w1 ∧ RbA w1 H gl b l2 W) (fun W => ∃ w1:World,w1.heap.size = H + 4 ∧ Below H y1 w1 ∧ RbB w1 H gl b W) y1 (hr.below hb) enters_rb (fun w1 h1 h2 h3 => by
  rw [← eH] at h1 h2 h3 ⊢
  have hbx:Blk w1 gl [.slice none 0 0] 22:=hg.below (by rw [← eH];exact h2) hg.lt
  exact (sReadBatch1_any H gl vb b w1 h1 hgl hbx (fun hp k hk => by have:=reads_in hr hp k hk;omega) h3).mono (fun e w' hd => doesMono15 hd (fun l hl => ⟨w1,h1,h2,hl⟩) (fun hl => ⟨w1,h1,h2,hl⟩)))
 rw [← eH] at h
 refine h.mono (fun e w' hh => ?_)
 obtain ⟨w2,hpast,hh⟩:=hh
 have hlow:∀ w1:World,w1.heap.size = H + 4 → Below H y1 w1 → w1.heap.size ≤ w2.heap.size → w2.os = w1.os → w2.tape = w1.tape → w2.output = w1.output → (∀ k,k < w1.heap.size → k ≠ H + 1 → k ≠ gl → w2.heap[k]? = w1.heap[k]?) → Below w.heap.size w w':=fun w1 s1 b1 s2 o1 o2 o3 f1 => by
  refine ⟨hpast.os.trans (o1.trans (b1.os.trans hb.os)),hpast.tape.trans (o2.trans (b1.tape.trans hb.tape)),hpast.output.trans (o3.trans (b1.output.trans hb.output)),by rw [hpast.size];omega,fun k hk => ?_⟩
  rw [hpast.block k (Or.inl (by omega)),f1 k (by omega) (by omega) (by omega),b1.block k (by omega),hb.block k hk]
 rcases hh with ⟨l2,⟨w1,s1,b1,va,v,ps,hrb,hread⟩,rfl⟩ | ⟨⟨w1,s1,b1,hn,s2,o1,o2,o3,f1⟩,rfl⟩
 · have hB:=hlow w1 s1 b1 hrb.size hrb.os hrb.tape hrb.output hrb.fr
   by_cases hl:l2 = []
   · rw [if_pos hl] at hread ⊢
     refine ⟨0,rfl,hB,Or.inl ⟨rfl,va,ps,hread,?_,?_⟩⟩
     · exact blk_same hrb.box (hpast.block gl (Or.inl hgl))
     · exact (hrb.lst.same (fun k h1 _ => hpast.block k (Or.inr h1))).mono (by omega)
   · rw [if_neg hl] at hread ⊢
     exact ⟨3,rfl,hB,Or.inr ⟨rfl,hread⟩⟩
 · exact ⟨3,rfl,hlow w1 s1 b1 s2 o1 o2 o3 f1,Or.inr ⟨rfl,hn⟩⟩
theorem alloc_acts (f:Operand → Value) (o:Oper) (ho:o.op = .alloc 22) (w:World):(execOp f o).run Tryz.prog w = .ok (.value (.pointer (some ⟨w.heap.size,0,none⟩))) (w.alloc (.cells [Value.slice none 0 0].toArray 22)):=by
 unfold execOp
 rw [ho]
 kernel_rfl
theorem wpSeq_allocAs {ops:Array Oper} {Q:Exit → Act → World → Prop} {rest:List Oper} {o:Oper} {a:Act} {w:World} (ho:o.op = .alloc 22) (hw:Region.wanted o (yielded ops a.tmps) = true)
 (h:∀ g w',NewR [.slice none 0 0] 22 w g w' → wpList Tryz.prog ops Q rest (a.put o.dst (.pointer (some ⟨g,0,none⟩))) w'):wpList Tryz.prog ops Q (o :: rest) a w:=
 wpSeq_val _ _ hw (alloc_acts _ _ ho _) (h _ _ (NewR.of _ _ w))
theorem sReadBatch_any (vb:Value) (b:Bs) (w:World) (hr:Reads w vb b):Calls Tryz.prog 12 #[vb] w fun e w' => BtR w b e w':=by
 have hmf:∀ (fn:Fn) (first cap:Array Value) (w:World),(Instr.makeFunc fn first cap).run Tryz.prog w = .ok (.func fn first cap) w:=fun _ _ _ _ => rfl
 have HR:Hid (Reads w vb b):=hr
 obtain ⟨ad,n,c,hv⟩:=hr.form
 subst hv
 clear hr
 go_enter Tryz.func12,Tryz.ntmps12
 obtain ⟨tk0,tk1⟩:=sqk2
 go_wp2_with (first
  | (clear tk0;with_reducible refine wpSeq_allocAs ?_ ?_ ?_
     · rfl
     · rfl
     intro gl y1 nn;have HG:Hid (Blk y1 gl [.slice none 0 0] 22 ∧ w.heap.size ≤ gl):=⟨nn.blk,nn.ge⟩;have HB1:Hid (Below w.heap.size w y1):=nn.below;have HCR:Hid (Calls Tryz.prog 38 #[.slice ad n c,.func (.func 39) #[] #[.pointer (some ⟨gl,0,none⟩)]] y1 fun e w' => ∃ en:Int,e = .returned (.int .i64 en) ∧ Rz w gl b en w'):=rb_read (.slice ad n c) b gl w y1 nn.below HR.out nn.blk nn.ge
     clear nn)
  | (clear tk1;go_at_call 38;refine (HCR.out).mono ?_;rintro e0 y2 ⟨en,rfl,hz⟩
     have HRZ:Hid (Rz w gl b en y2):=hz;clear hz
     rcases HRZ.out.out with ⟨h1,va,ps,h2,h3,h4⟩ | ⟨h1,h2⟩
     all_goals (first
      | (have HP:Hid (readB b = some (ps.map (·.1)) ∧ OwnA y2 w.heap.size va ps):=⟨h2,h4⟩
         have q1:y2.cell? ⟨gl,0,none⟩ = some va:=h3.cell 0;obtain ⟨a2,c2,hv2⟩:=h4.form;subst hv2;subst h1;clear h2 h3 h4)
      | (have HN:Hid (readB b = none):=h2
         subst h1;clear h2))))
 · refine bodyPost_ret (results_tmp2 rfl _ _ _) rfl ?_
   exact ⟨HRZ.out.bel,Or.inl ⟨_,ps,HP.out.1,rfl,HP.out.2⟩⟩
 · refine bodyPost_ret (results_tmp2 rfl _ _ _) rfl ?_
   exact ⟨HRZ.out.bel,Or.inr ⟨HN.out,rfl⟩⟩
def wtA (a:ActT):Nat:=a.key.length + a.data.length
def sumA (l:List ActT):Nat:=(l.map wtA).sum
theorem sumA_snoc (l:List ActT) (x:ActT):sumA (l ++ [x]) = sumA l + wtA x:=by simp [sumA]
theorem sumA_take {l:List ActT} {k:Nat} (hk:k < l.length):sumA (l.take (k + 1)) = sumA (l.take k) + wtA (l.getD k ⟨[],false,[]⟩):=by
 rw [take_act hk]
 exact sumA_snoc _ _
structure szA (a:ActT):Prop where
 k:a.key.length ≤ 1125899906842624
 d:a.data.length ≤ 1125899906842624
def LightJ (l:List ActT) (ok:Bool):Prop:=ok = true → l.length ≤ 60 ∧ sumA l ≤ 20000
def LightR (l:List ActT) (e:Ending):Prop:=∃ ok,e = .returned (.bool ok) ∧ LightJ l ok
theorem light15_any (v:Value) (l:List ActT) (w:World) (hr:ReadsA w v l) (hs:∀ a ∈ l,szA a):Calls Tryz.prog 9 #[v] w fun e w' => LightR l e ∧ Below w.heap.size w w':=by
 have HR:Hid (ReadsA w v l):=hr
 have HS:Hid (∀ a ∈ l,szA a):=hs
 obtain ⟨ad,c,hv⟩:=hr.form
 obtain ⟨n,HN⟩:=sqn (l.length)
 rw [← HN.out] at hv
 subst hv
 clear hs hr
 by_cases hl:60 < n
 · have q1:(60:Int) < (n:Int):=by omega
   go_enter Tryz.func9,Tryz.ntmps9
   go_wp2;go_ret;exact ⟨⟨false,rfl,fun h => by cases h⟩,Below.refl _ _⟩
 have q1:¬ ((60:Int) < (n:Int)):=by omega
 have HNB:Hid (n ≤ 60):=by show _ ≤ _;omega
 clear hl
 go_enter Tryz.func9,Tryz.ntmps9
 go_wp2
 clear q1
 go_loopw [3,4] (fun a i4 wr => ∃ (m i:Nat),a = .int .i64 (m:Int) ∧ i4 = .int .i64 (i:Int) ∧ i ≤ n ∧ m < 9007199254740992 ∧ Hid (m ≤ 20000 → m = sumA (l.take i)) ∧ Hid (Below w.heap.size w wr)) (fun _ i4 _ => n - (intOf i4).toNat)
 case atStart => exact ⟨0,0,rfl,rfl,Nat.zero_le _,by decide,fun _ => rfl,Below.refl _ _⟩
 case round =>
  obtain ⟨m,i,rfl,rfl,hi,hm,HM,HBB⟩:=hrel
  by_cases hin:i < n
  case neg =>
   have hlk:¬ ((i:Int) < (n:Int)):=by omega
   by_cases hm2:m ≤ 20000
   · have q2:(m:Int) ≤ 20000:=by omega
     have HE:Hid (sumA l ≤ 20000):=by
      have h1:=HM.out hm2;rw [List.take_of_length_le (by rw [← HN.out];omega)] at h1
      show _ ≤ _;omega
     go_wp2;go_ret;exact ⟨⟨true,rfl,fun _ => ⟨by rw [← HN.out];exact HNB.out,HE.out⟩⟩,HBB.out⟩
   · have q2:¬ ((m:Int) ≤ 20000):=by omega
     go_wp2;go_ret;exact ⟨⟨false,rfl,fun h => by cases h⟩,HBB.out⟩
  case pos =>
   have hlk:(i:Int) < (n:Int):=by omega
   by_cases hm2:m ≤ 20000
   case neg =>
    have q2:¬ ((m:Int) ≤ 20000):=by omega
    go_wp2;go_ret;exact ⟨⟨false,rfl,fun h => by cases h⟩,HBB.out⟩
   case pos =>
    have q2:(m:Int) ≤ 20000:=by omega
    have HIN:Hid (i < n):=hin;have hio:i < l.length:=by rw [← HN.out];exact hin
    obtain ⟨b,off,vd,rfl,hrg,rD⟩:=(HR.out.below HBB.out).at hio;obtain ⟨o,HO⟩:∃ o,Hid (o = l.getD i ⟨[],false,[]⟩):=⟨_,rfl⟩;rw [← HO.out] at hrg rD;have hmem:o ∈ l:=by rw [HO.out,List.getD_eq_getElem?_getD,List.getElem?_eq_getElem hio];exact List.getElem_mem hio
    have hsz:=HS.out o hmem;have hst:=sumA_take hio;rw [← HO.out] at hst;obtain ⟨lK,HLK⟩:=sqn (o.key.length);obtain ⟨lD,HLD⟩:=sqn (o.data.length);obtain ⟨aD,cD,hvD,_⟩:=rD;rw [← HLD.out] at hvD;subst hvD;obtain ⟨ks,HKS⟩:=sqn (strB o.key);have hks:ks.size = lK:=by rw [HKS.out,strB_size,HLK.out]
    have hK:=hsz.k;have hD:=hsz.d;rw [← HLK.out] at hK;rw [← HLD.out] at hD;obtain ⟨m1,HM1⟩:=sqn (m + lK);obtain ⟨m2,HM2⟩:=sqn (m1 + lD);have hm1:=HM1.out;have hm22:=HM2.out;have f1:IntKind.i64.wrap ((m:Int) + (lK:Int)) = (m1:Int):=aJ HM1.out (by omega)
    have f2:IntKind.i64.wrap ((m1:Int) + (lD:Int)) = (m2:Int):=aJ HM2.out (by omega)
    have f3:IntKind.i64.wrap ((i:Int) + 1) = (i:Int) + 1:=by rw [IntKind.wrap_i64];have:=HNB.out;omega
    have HST:Hid (m2 = sumA (l.take (i + 1))):=by
     show _ = _;rw [hst,← HM.out hm2,wtA,← HLK.out,← HLD.out];omega
    have HM2B:Hid (m2 < 4503599627370496):=by show _ < _;omega
    have HC1:Hid (wr.cell? ⟨b,off + i * 3,none⟩ = some (.string ks)):=by rw [HKS.out];exact hrg 0 _ rfl
    have HC2:Hid (wr.cell? ⟨b,off + i * 3 + 2,none⟩ = some (.slice aD lD cD)):=hrg 2 _ rfl;clear hst hsz hK hD hm1 hm22 hmem hrg
    go_wp2_with fail
    refine wp_region_held_drew (S:=Over (World.drew wr)) (by kernel_rfl) (Over.refl _) ?_
    intro hS;replace HC1:Hid ((World.drew wr).cell? ⟨b,off + i * 3,none⟩ = some (.string ks)):=HC1.out;replace HC2:Hid ((World.drew wr).cell? ⟨b,off + i * 3 + 2,none⟩ = some (.slice aD lD cD)):=HC2.out;replace HBB:Hid (Below w.heap.size w (World.drew wr)):=HBB.out.drew
    change wpAnyH _ _ _ _ _ _ _ _ (World.drew wr)
    generalize World.drew wr = y1 at *
    refine tkc 0 (.int .i64 (m:Int)) rfl hS ?_;simp only [Act.put,sq];refine tkc 1 (.slice (some ⟨b,off,none⟩) n c) rfl hS ?_;simp only [Act.put,sq];refine tkc 2 (.int .i64 (i:Int)) rfl hS ?_;simp only [Act.put,sq];refine tka 3 (.pointer (some ⟨b,off + i * 3,none⟩)) rfl (fun wx hx => by exact idxA b off n c i HIN.out _ _ _ _ rfl rfl rfl _) hS ?_
    simp only [Act.put,sq];refine tkc 4 (.pointer (some ⟨b,off + i * 3,none⟩)) rfl hS ?_;simp only [Act.put,sq];refine tka 5 (.string ks) rfl (fun wx hx => by (have hc:=below_cell hx HC1.out;simp [go_sem,hc])) hS ?_
    simp only [Act.put,sq];refine tka 6 (.int .i64 (lK:Int)) rfl (fun wx hx => by simp [go_sem,hks]) hS ?_
    simp only [Act.put,sq];refine tka 7 (.int .i64 (m1:Int)) rfl (fun wx hx => by simp [go_sem,f1]) hS ?_
    simp only [Act.put,sq];refine tkc 8 (.slice (some ⟨b,off,none⟩) n c) rfl hS ?_;simp only [Act.put,sq];refine tkc 9 (.int .i64 (i:Int)) rfl hS ?_;simp only [Act.put,sq];refine tka 10 (.pointer (some ⟨b,off + i * 3,none⟩)) rfl (fun wx hx => by exact idxA b off n c i HIN.out _ _ _ _ rfl rfl rfl _) hS ?_
    simp only [Act.put,sq];refine tkc 11 (.pointer (some ⟨b,off + i * 3 + 2,none⟩)) rfl hS ?_;simp only [Act.put,sq];refine tka 12 (.slice aD lD cD) rfl (fun wx hx => by (have hc:=below_cell hx HC2.out;simp [go_sem,hc])) hS ?_
    simp only [Act.put,sq];refine tkc 13 (.int .i64 (lD:Int)) rfl hS ?_;simp only [Act.put,sq];refine tka 14 (.int .i64 (m2:Int)) rfl (fun wx hx => by simp [go_sem,f2]) hS ?_
    simp only [Act.put,sq];refine tkc 15 (.int .i64 (m2:Int)) rfl hS ?_;simp only [Act.put,sq];refine wpAnyH_done (by kernel_rfl) ?_ _
    clear hS;go_wp2;go_roundw
    case rel => exact ⟨m2,i + 1,rfl,by simp,by omega,by have:=HM2B.out;omega,fun _ => HST.out,HBB⟩
    case measure => simp [intOf];omega
theorem act_ext (a b:ActT):(a.key = b.key ∧ a.set = b.set ∧ a.data = b.data) ↔ a = b:=by
 constructor
 · intro h
   cases a
   cases b
   obtain ⟨h1,h2,h3⟩:=h;simp only at h1 h2 h3;rw [h1,h2,h3]
 · intro h
   rw [h];exact ⟨rfl,rfl,rfl⟩
instance:DecidableEq ActT:=fun a b => decidable_of_iff _ (act_ext a b)
theorem acts_step {a b:List ActT} {i:Nat} (ha:i < a.length) (hb:i < b.length) (h:a.take i = b.take i) (he:a.getD i ⟨[],false,[]⟩ = b.getD i ⟨[],false,[]⟩):a.take (i + 1) = b.take (i + 1):=by
 rw [take_act ha,take_act hb,h,he]
theorem acts_ne {a b:List ActT} (i:Nat) (h:a.getD i ⟨[],false,[]⟩ ≠ b.getD i ⟨[],false,[]⟩):decide (a = b) = false:=decide_eq_false (fun he => h (by rw [he]))
theorem oSameActs_any (va vb:Value) (la lb:List ActT) (w:World) (ha:ReadsA w va la) (hb:ReadsA w vb lb) (hl:la.length < 4611686018427387904):Calls Tryz.prog 15 #[va,vb] w fun e w' => e = .returned (.bool (decide (la = lb))) ∧ Below w.heap.size w w':=by
 have HR:Hid (ReadsA w va la):=ha
 have HR2:Hid (ReadsA w vb lb):=hb
 obtain ⟨ad,c,hv⟩:=ha.form
 obtain ⟨ad2,c2,hv2⟩:=hb.form
 obtain ⟨n,HN⟩:=sqn (la.length)
 obtain ⟨n2,HN2⟩:=sqn (lb.length)
 rw [← HN.out] at hv hl
 rw [← HN2.out] at hv2
 subst hv hv2
 clear ha hb
 obtain ⟨X,HXX⟩:=sqn (decide (la = lb))
 rw [← HXX.out]
 by_cases hnn:n = n2
 case neg =>
  have q1:¬ ((n:Int) = (n2:Int)):=by omega
  obtain rfl:X = false:=by rw [HXX.out];exact decide_eq_false (fun h => hnn (by rw [HN.out,HN2.out,h]))
  clear hnn
  go_enter Tryz.func15,Tryz.ntmps15
  go_wp2
  go_ret
  exact ⟨rfl,Below.refl _ _⟩
 subst hnn
 have HNL:Hid (n < 4611686018427387904):=hl
 clear hl
 go_enter Tryz.func15,Tryz.ntmps15
 go_wp2
 go_loopw [5] (fun iv W => ∃ i:Nat,i ≤ n ∧ iv = .int .i64 (i:Int) ∧ Hid (la.take i = lb.take i) ∧ Hid (Below w.heap.size w W)) (fun iv _ => n - (intOf iv).toNat)
 case atStart => exact ⟨0,Nat.zero_le _,rfl,rfl,Below.refl _ _⟩
 case round =>
  obtain ⟨i,hi,rfl,HE,HBB⟩:=hrel
  by_cases hin:i < n
  case neg =>
   have hlk:¬ ((i:Int) < (n:Int)):=by omega
   obtain rfl:X = true:=by
    have h:=HE.out;rw [List.take_of_length_le (by rw [← HN.out];omega),List.take_of_length_le (by rw [← HN2.out];omega)] at h
    rw [HXX.out];exact decide_eq_true h
   go_wp2;go_ret;exact ⟨rfl,HBB.out⟩
  case pos =>
   have hlk:(i:Int) < (n:Int):=by omega
   have f1:IntKind.i64.wrap ((i:Int) + 1) = (i:Int) + 1:=by rw [IntKind.wrap_i64];have:=HNL.out;omega
   have HIN:Hid (i < n):=hin;have hia:i < la.length:=by rw [← HN.out];exact hin
   have hib:i < lb.length:=by rw [← HN2.out];exact hin
   obtain ⟨b,off,vd,rfl,hrg,hrd⟩:=(HR.out.below HBB.out).at hia;obtain ⟨b2,off2,vd2,rfl,hrg2,hrd2⟩:=(HR2.out.below HBB.out).at hib;have HSTEP:=acts_step hia hib HE.out;have HNO:=acts_ne (a:=la) (b:=lb) i;obtain ⟨x,HX⟩:∃ a,Hid (a = la.getD i ⟨[],false,[]⟩):=⟨_,rfl⟩;obtain ⟨y,HY⟩:∃ a,Hid (a = lb.getD i ⟨[],false,[]⟩):=⟨_,rfl⟩;rw [← HX.out] at hrg hrd HSTEP HNO;rw [← HY.out] at hrg2 hrd2 HSTEP HNO;replace HSTEP:Hid (x = y → la.take (i + 1) = lb.take (i + 1)):=HSTEP;replace HNO:Hid (x ≠ y → decide (la = lb) = false):=HNO;have HRD:Hid (Reads wr vd x.data):=hrd;have HRD2:Hid (Reads wr vd2 y.data):=hrd2;obtain ⟨ks,HKS⟩:=sqn (strB x.key);obtain ⟨ks2,HKS2⟩:=sqn (strB y.key);obtain ⟨st,HST⟩:=sqn (x.set);obtain ⟨st2,HST2⟩:=sqn (y.set);have HKQ:Hid ((!(ks.toList == ks2.toList)) = !decide (x.key = y.key)):=by show _ = _;rw [HKS.out,HKS2.out,strB_inj]
   have HA0:Hid (wr.cell? ⟨b,off + i * 3,none⟩ = some (.string ks)):=by rw [HKS.out];exact hrg 0 _ rfl
   have HA1:Hid (wr.cell? ⟨b,off + i * 3 + 1,none⟩ = some (.bool st)):=by rw [HST.out];exact hrg 1 _ rfl
   have HA2:Hid (wr.cell? ⟨b,off + i * 3 + 2,none⟩ = some vd):=hrg 2 _ rfl;have HB0:Hid (wr.cell? ⟨b2,off2 + i * 3,none⟩ = some (.string ks2)):=by rw [HKS2.out];exact hrg2 0 _ rfl
   have HB1:Hid (wr.cell? ⟨b2,off2 + i * 3 + 1,none⟩ = some (.bool st2)):=by rw [HST2.out];exact hrg2 1 _ rfl
   have HB2:Hid (wr.cell? ⟨b2,off2 + i * 3 + 2,none⟩ = some vd2):=hrg2 2 _ rfl;clear hrg hrg2 hrd hrd2
   go_wp2_with fail
   refine wp_region_held_drew (S:=Over (World.drew wr)) (by kernel_rfl) (Over.refl _) ?_
   intro hS;replace HA0:Hid ((World.drew wr).cell? ⟨b,off + i * 3,none⟩ = some (.string ks)):=HA0.out;replace HA1:Hid ((World.drew wr).cell? ⟨b,off + i * 3 + 1,none⟩ = some (.bool st)):=HA1.out;replace HA2:Hid ((World.drew wr).cell? ⟨b,off + i * 3 + 2,none⟩ = some vd):=HA2.out;replace HB0:Hid ((World.drew wr).cell? ⟨b2,off2 + i * 3,none⟩ = some (.string ks2)):=HB0.out;replace HB1:Hid ((World.drew wr).cell? ⟨b2,off2 + i * 3 + 1,none⟩ = some (.bool st2)):=HB1.out;replace HB2:Hid ((World.drew wr).cell? ⟨b2,off2 + i * 3 + 2,none⟩ = some vd2):=HB2.out;replace HRD:Hid (Reads (World.drew wr) vd x.data):=HRD.out;replace HRD2:Hid (Reads (World.drew wr) vd2 y.data):=HRD2.out;replace HBB:Hid (Below w.heap.size w (World.drew wr)):=HBB.out.drew
   change wpAnyH _ _ _ _ _ _ _ _ (World.drew wr)
   generalize World.drew wr = y1 at *
   refine tkc 0 (.slice (some ⟨b,off,none⟩) n c) rfl hS ?_;simp only [Act.put,sq];refine tkc 1 (.int .i64 (i:Int)) rfl hS ?_;simp only [Act.put,sq];refine tka 2 (.pointer (some ⟨b,off + i * 3,none⟩)) rfl (fun wx hx => by exact idxA b off n c i HIN.out _ _ _ _ rfl rfl rfl _) hS ?_
   simp only [Act.put,sq];refine tkc 3 (.pointer (some ⟨b,off + i * 3,none⟩)) rfl hS ?_;simp only [Act.put,sq];refine tka 4 (.string ks) rfl (fun wx hx => by (have hc:=below_cell hx HA0.out;simp [go_sem,hc])) hS ?_
   simp only [Act.put,sq];refine tkc 5 (.slice (some ⟨b2,off2,none⟩) n c2) rfl hS ?_;simp only [Act.put,sq];refine tkc 6 (.int .i64 (i:Int)) rfl hS ?_;simp only [Act.put,sq];refine tka 7 (.pointer (some ⟨b2,off2 + i * 3,none⟩)) rfl (fun wx hx => by exact idxA b2 off2 n c2 i HIN.out _ _ _ _ rfl rfl rfl _) hS ?_
   simp only [Act.put,sq];refine tkc 8 (.pointer (some ⟨b2,off2 + i * 3,none⟩)) rfl hS ?_;simp only [Act.put,sq];refine tka 9 (.string ks2) rfl (fun wx hx => by (have hc:=below_cell hx HB0.out;simp [go_sem,hc])) hS ?_
   simp only [Act.put,sq]
   by_cases hk:x.key = y.key
   case neg =>
    have HKN:Hid ((!(ks.toList == ks2.toList)) = true):=by show _ = _;rw [HKQ.out,decide_eq_false hk];rfl
    obtain rfl:X = false:=by rw [HXX.out];exact HNO.out (fun h => hk (by rw [h]))
    refine tka 10 (.bool true) rfl (fun wx hx => by exact run_strOp .neq ks ks2 _ HKN.out (Or.inr (Or.inr (Or.inr rfl))) _ _ _ _ rfl rfl rfl _) hS ?_
    simp only [Act.put,sq];refine tkc 11 (.bool true) rfl hS ?_;simp only [Act.put,sq];refine tkb 12 rfl hS ?_;simp only [Act.put,sq];refine tkb 13 rfl hS ?_;simp only [Act.put,sq];refine tkb 14 rfl hS ?_;simp only [Act.put,sq];refine tkb 15 rfl hS ?_;simp only [Act.put,sq];refine tkb 16 rfl hS ?_;simp only [Act.put,sq];refine tkb 17 rfl hS ?_;simp only [Act.put,sq];refine tkb 18 rfl hS ?_;simp only [Act.put,sq];refine tkb 19 rfl hS ?_;simp only [Act.put,sq];refine tkb 20 rfl hS ?_;simp only [Act.put,sq];refine tkb 21 rfl hS ?_;simp only [Act.put,sq];refine tkb 22 rfl hS ?_;simp only [Act.put,sq];refine tkc 23 (.bool true) rfl hS ?_;simp only [Act.put,sq];refine tkc 24 (.bool true) rfl hS ?_;simp only [Act.put,sq];refine tkb 25 rfl hS ?_;simp only [Act.put,sq];refine tkb 26 rfl hS ?_;simp only [Act.put,sq];refine tkb 27 rfl hS ?_;simp only [Act.put,sq];refine tkb 28 rfl hS ?_;simp only [Act.put,sq];refine tkb 29 rfl hS ?_;simp only [Act.put,sq];refine tkb 30 rfl hS ?_;simp only [Act.put,sq];refine tkb 31 rfl hS ?_;simp only [Act.put,sq];refine tkb 32 rfl hS ?_;simp only [Act.put,sq];refine tkb 33 rfl hS ?_;simp only [Act.put,sq];refine tkb 34 rfl hS ?_;simp only [Act.put,sq];refine tkb 35 rfl hS ?_;simp only [Act.put,sq];refine tkb 36 rfl hS ?_;simp only [Act.put,sq];refine tkc 37 (.bool true) rfl hS ?_;simp only [Act.put,sq];refine wpAnyH_done (by kernel_rfl) ?_ _
    clear hS;go_wp2;go_ret;exact ⟨rfl,HBB.out⟩
   have HKN:Hid ((!(ks.toList == ks2.toList)) = false):=by show _ = _;rw [HKQ.out,decide_eq_true hk];rfl
   have HXK:Hid (x.key = y.key):=hk;clear hk;refine tka 10 (.bool false) rfl (fun wx hx => by exact run_strOp .neq ks ks2 _ HKN.out (Or.inr (Or.inr (Or.inr rfl))) _ _ _ _ rfl rfl rfl _) hS ?_
   simp only [Act.put,sq];refine tkc 11 (.bool false) rfl hS ?_;simp only [Act.put,sq];refine tkc 12 (.slice (some ⟨b,off,none⟩) n c) rfl hS ?_;simp only [Act.put,sq];refine tkc 13 (.int .i64 (i:Int)) rfl hS ?_;simp only [Act.put,sq];refine tka 14 (.pointer (some ⟨b,off + i * 3,none⟩)) rfl (fun wx hx => by exact idxA b off n c i HIN.out _ _ _ _ rfl rfl rfl _) hS ?_
   simp only [Act.put,sq];refine tkc 15 (.pointer (some ⟨b,off + i * 3 + 1,none⟩)) rfl hS ?_;simp only [Act.put,sq];refine tka 16 (.bool st) rfl (fun wx hx => by (have hc:=below_cell hx HA1.out;simp [go_sem,hc])) hS ?_
   simp only [Act.put,sq];refine tkc 17 (.slice (some ⟨b2,off2,none⟩) n c2) rfl hS ?_;simp only [Act.put,sq];refine tkc 18 (.int .i64 (i:Int)) rfl hS ?_;simp only [Act.put,sq];refine tka 19 (.pointer (some ⟨b2,off2 + i * 3,none⟩)) rfl (fun wx hx => by exact idxA b2 off2 n c2 i HIN.out _ _ _ _ rfl rfl rfl _) hS ?_
   simp only [Act.put,sq];refine tkc 20 (.pointer (some ⟨b2,off2 + i * 3 + 1,none⟩)) rfl hS ?_;simp only [Act.put,sq];refine tka 21 (.bool st2) rfl (fun wx hx => by (have hc:=below_cell hx HB1.out;simp [go_sem,hc])) hS ?_
   simp only [Act.put,sq]
   by_cases hs:st = st2
   case neg =>
    obtain rfl:X = false:=by rw [HXX.out];exact HNO.out (fun h => hs (by rw [HST.out,HST2.out,h]))
    have HSN:Hid ((st != st2) = true):=by show _ = _;cases st <;> cases st2 <;> first | rfl | exact absurd rfl hs
    clear hs;refine tka 22 (.bool true) rfl (fun wx hx => by (have h:=HSN.out;cases st <;> cases st2 <;> first | (exact absurd h (by decide)) | simp [go_sem])) hS ?_
    simp only [Act.put,sq];refine tkc 23 (.bool true) rfl hS ?_;simp only [Act.put,sq];refine tkc 24 (.bool true) rfl hS ?_;simp only [Act.put,sq];refine tkb 25 rfl hS ?_;simp only [Act.put,sq];refine tkb 26 rfl hS ?_;simp only [Act.put,sq];refine tkb 27 rfl hS ?_;simp only [Act.put,sq];refine tkb 28 rfl hS ?_;simp only [Act.put,sq];refine tkb 29 rfl hS ?_;simp only [Act.put,sq];refine tkb 30 rfl hS ?_;simp only [Act.put,sq];refine tkb 31 rfl hS ?_;simp only [Act.put,sq];refine tkb 32 rfl hS ?_;simp only [Act.put,sq];refine tkb 33 rfl hS ?_;simp only [Act.put,sq];refine tkb 34 rfl hS ?_;simp only [Act.put,sq];refine tkb 35 rfl hS ?_;simp only [Act.put,sq];refine tkb 36 rfl hS ?_;simp only [Act.put,sq];refine tkc 37 (.bool true) rfl hS ?_;simp only [Act.put,sq];refine wpAnyH_done (by kernel_rfl) ?_ _
    clear hS;go_wp2;go_ret;exact ⟨rfl,HBB.out⟩
   have HXS:Hid (x.set = y.set):=by show _ = _;rw [← HST.out,← HST2.out];exact hs
   subst hs;refine tka 22 (.bool false) rfl (fun wx hx => by (cases st <;> simp [go_sem])) hS ?_
   simp only [Act.put,sq];refine tkc 23 (.bool false) rfl hS ?_;simp only [Act.put,sq];refine tkc 24 (.bool false) rfl hS ?_;simp only [Act.put,sq];refine tkc 25 (.slice (some ⟨b,off,none⟩) n c) rfl hS ?_;simp only [Act.put,sq];refine tkc 26 (.int .i64 (i:Int)) rfl hS ?_;simp only [Act.put,sq];refine tka 27 (.pointer (some ⟨b,off + i * 3,none⟩)) rfl (fun wx hx => by exact idxA b off n c i HIN.out _ _ _ _ rfl rfl rfl _) hS ?_
   simp only [Act.put,sq];refine tkc 28 (.pointer (some ⟨b,off + i * 3 + 2,none⟩)) rfl hS ?_;simp only [Act.put,sq];refine tka 29 (vd) rfl (fun wx hx => by (have hc:=below_cell hx HA2.out;simp [go_sem,hc])) hS ?_
   simp only [Act.put,sq];refine tkc 30 (.slice (some ⟨b2,off2,none⟩) n c2) rfl hS ?_;simp only [Act.put,sq];refine tkc 31 (.int .i64 (i:Int)) rfl hS ?_;simp only [Act.put,sq];refine tka 32 (.pointer (some ⟨b2,off2 + i * 3,none⟩)) rfl (fun wx hx => by exact idxA b2 off2 n c2 i HIN.out _ _ _ _ rfl rfl rfl _) hS ?_
   simp only [Act.put,sq];refine tkc 33 (.pointer (some ⟨b2,off2 + i * 3 + 2,none⟩)) rfl hS ?_;simp only [Act.put,sq];refine tka 34 (vd2) rfl (fun wx hx => by (have hc:=below_cell hx HB2.out;simp [go_sem,hc])) hS ?_
   simp only [Act.put,sq];refine wpAnyH_enter 35 (by kernel_rfl) rfl (by rfl) (f:=16) (args:=#[vd,vd2]) (by simp [go_sem]) (same_any _ _ x.data y.data _ HRD.out HRD2.out) ?_
   rintro e1 y3 ⟨rfl,rfl⟩;refine ⟨_,rfl,hS,?_⟩
   by_cases hd:x.data = y.data
   case neg =>
    obtain rfl:X = false:=by rw [HXX.out];exact HNO.out (fun h => hd (by rw [h]))
    have HDD:Hid (decide (x.data = y.data) = false):=decide_eq_false hd;clear hd;rw [HDD.out];simp only [Act.put,sq];refine tkc 36 (.bool true) rfl hS ?_;simp only [Act.put,sq];refine tkc 37 (.bool true) rfl hS ?_;simp only [Act.put,sq];refine wpAnyH_done (by kernel_rfl) ?_ _
    clear hS;go_wp2;go_ret;exact ⟨rfl,HBB.out⟩
   have HSM:Hid (la.take (i + 1) = lb.take (i + 1)):=HSTEP.out ((act_ext x y).1 ⟨HXK.out,HXS.out,hd⟩);have HDD:Hid (decide (x.data = y.data) = true):=decide_eq_true hd;clear hd;rw [HDD.out];simp only [Act.put,sq];refine tkc 36 (.bool false) rfl hS ?_;simp only [Act.put,sq];refine tkc 37 (.bool false) rfl hS ?_;simp only [Act.put,sq];refine wpAnyH_done (by kernel_rfl) ?_ _
   clear hS;go_wp2;go_roundw
   case rel => exact ⟨i + 1,by omega,by simp,HSM,HBB⟩
   case measure => simp [intOf];omega
theorem wpSeq_buildA1 {ops:Array Oper} {Q:Exit → Act → World → Prop} {rest:List Oper} {o:Oper} {a:Act} {w:World} (x:Operand) (s:ByteArray) (b:Bool) (ad:Option Addr) (n c:Nat) (ho:o.op = .buildSlice 22 1 #[(0,x)]) (hx:a.eval x = .agg [.string s,.bool b,.slice ad n c].toArray) (hw:Region.wanted o (yielded ops a.tmps) = true)
 (h:∀ g w',NewR [.string s,.bool b,.slice ad n c] 62 w g w' → wpList Tryz.prog ops Q rest (a.put o.dst (.slice (some ⟨g,0,none⟩) 1 1)) w'):wpList Tryz.prog ops Q (o :: rest) a w:=
 wpSeq_val _ _ hw (build_a1 _ _ x s b ad n c hx ho _) (h _ _ (NewR.of _ _ w))
def ReadsAA (w:World) (v:Value) (ls:List (List ActT)):Prop:=
 ∃ ad cap,v = .slice ad ls.length cap ∧ ls.length ≤ cap ∧ (0 < ls.length → ∃ b off,ad = some ⟨b,off,none⟩ ∧ ∀ j,j < ls.length → ∃ va,w.cell? ⟨b,off + j,none⟩ = some va ∧ ReadsA w va (ls.getD j []))
theorem ReadsAA.below {w w':World} {v:Value} {ls:List (List ActT)} (h:ReadsAA w v ls) (hb:Below w.heap.size w w'):ReadsAA w' v ls:=by
 obtain ⟨ad,cap,h1,h2,h4⟩:=h
 refine ⟨ad,cap,h1,h2,fun hp => ?_⟩
 obtain ⟨b,off,h5,h6⟩:=h4 hp
 refine ⟨b,off,h5,fun j hj => ?_⟩
 obtain ⟨va,h7,h8⟩:=h6 j hj
 exact ⟨va,by rw [hb.cell (p:=⟨b,off + j,none⟩) (block_lt_of_cell h7)];exact h7,h8.below hb⟩
theorem ReadsAA.at {w:World} {ad:Option Addr} {n c:Nat} {ls:List (List ActT)} (h:ReadsAA w (.slice ad n c) ls) {j:Nat} (hj:j < ls.length):∃ b off va,ad = some ⟨b,off,none⟩ ∧ w.cell? ⟨b,off + j,none⟩ = some va ∧ ReadsA w va (ls.getD j []):=by
 obtain ⟨ad',cap,h1,h2,h4⟩:=h
 simp only [Value.slice.injEq] at h1
 obtain ⟨rfl,_,_⟩:=h1
 obtain ⟨b,off,h5,h6⟩:=h4 (Nat.lt_of_le_of_lt (Nat.zero_le _) hj)
 obtain ⟨va,h7,h8⟩:=h6 j hj
 exact ⟨b,off,va,h5,h7,h8⟩
def FewP (ls:List (List ActT)) (ok:Bool):Prop:=ok = true → ls.length ≤ 20 ∧ ∀ l ∈ ls,l.length ≤ 60 ∧ sumA l ≤ 20000
def FewQ (ls:List (List ActT)) (e:Ending):Prop:=∃ ok,e = .returned (.bool ok) ∧ FewP ls ok
theorem few_step {ls:List (List ActT)} {i:Nat} (h:i < ls.length) (hf:∀ l ∈ ls.take i,l.length ≤ 60 ∧ sumA l ≤ 20000) (hl:(ls.getD i []).length ≤ 60 ∧ sumA (ls.getD i []) ≤ 20000):∀ l ∈ ls.take (i + 1),l.length ≤ 60 ∧ sumA l ≤ 20000:=by
 intro l hm
 rw [List.take_add_one,List.getElem?_eq_getElem h] at hm
 rw [List.getD_eq_getElem?_getD,List.getElem?_eq_getElem h] at hl
 rcases List.mem_append.1 hm with hm | hm
 · exact hf l hm
 · have he:l = ls[i]:=by simpa using hm
   rw [he];exact hl
theorem few15_any (v:Value) (ls:List (List ActT)) (w:World) (hr:ReadsAA w v ls) (hs:∀ l ∈ ls,∀ a ∈ l,szA a):Calls Tryz.prog 20 #[v] w fun e w' => FewQ ls e ∧ Below w.heap.size w w':=by
 have HR:Hid (ReadsAA w v ls):=hr
 have HS:Hid (∀ l ∈ ls,∀ a ∈ l,szA a):=hs
 obtain ⟨ad,c,hv,_⟩:=hr
 obtain ⟨n,HN⟩:=sqn (ls.length)
 rw [← HN.out] at hv
 subst hv
 clear hs
 by_cases hl:20 < n
 · have q1:(20:Int) < (n:Int):=by omega
   go_enter Tryz.func20,Tryz.ntmps20
   go_wp2;go_ret;exact ⟨⟨false,rfl,fun h => by cases h⟩,Below.refl _ _⟩
 have q1:¬ ((20:Int) < (n:Int)):=by omega
 have HNB:Hid (n ≤ 20):=by show _ ≤ _;omega
 clear hl
 go_enter Tryz.func20,Tryz.ntmps20
 go_wp2
 clear q1
 go_loopw [3] (fun iv W => ∃ i:Nat,i ≤ n ∧ iv = .int .i64 (i:Int) ∧ Hid (∀ l ∈ ls.take i,l.length ≤ 60 ∧ sumA l ≤ 20000) ∧ Hid (Below w.heap.size w W)) (fun iv _ => n - (intOf iv).toNat)
 case atStart => exact ⟨0,Nat.zero_le _,rfl,fun l hl => by simp at hl,Below.refl _ _⟩
 case round =>
  obtain ⟨i,hi,rfl,HF,HBB⟩:=hrel
  by_cases hin:i < n
  case neg =>
   have hlk:¬ ((i:Int) < (n:Int)):=by omega
   have HE:Hid (∀ l ∈ ls,l.length ≤ 60 ∧ sumA l ≤ 20000):=by
    have h:=HF.out;rw [List.take_of_length_le (by rw [← HN.out];omega)] at h
    exact h
   go_wp2;go_ret;exact ⟨⟨true,rfl,fun _ => ⟨by rw [← HN.out];exact HNB.out,HE.out⟩⟩,HBB.out⟩
  case pos =>
   have hlk:(i:Int) < (n:Int):=by omega
   have k0:(0:Int) ≤ (i:Int):=by omega
   have f1:IntKind.i64.wrap ((i:Int) + 1) = (i:Int) + 1:=by rw [IntKind.wrap_i64];have:=HNB.out;omega
   have hil:i < ls.length:=by rw [← HN.out];exact hin
   obtain ⟨b,off,va,rfl,hc,hra⟩:=(HR.out.below HBB.out).at hil;have hsz:=HS.out (ls.getD i []) (by rw [List.getD_eq_getElem?_getD,List.getElem?_eq_getElem hil];exact List.getElem_mem hil)
   have HLC:Hid (Calls Tryz.prog 9 #[va] wr fun e w' => LightR (ls.getD i []) e ∧ Below wr.heap.size wr w'):=light15_any va _ wr hra hsz
   have HSTEP:Hid ((ls.getD i []).length ≤ 60 ∧ sumA (ls.getD i []) ≤ 20000 → ∀ l ∈ ls.take (i + 1),l.length ≤ 60 ∧ sumA l ≤ 20000):=few_step hil HF.out;clear hsz hra;have tk0:Hid True:=trivial
   go_wp2_with (first
    | (clear tk0;go_at_call 9;refine (HLC.out).mono ?_;rintro e0 y1 ⟨⟨ok,rfl,hj⟩,hb⟩
       have HB1:Hid (Below w.heap.size w y1):=HBB.out.trans (hb.mono HBB.out.size);have HJ:Hid (LightJ (ls.getD i []) ok):=hj;clear hj hb
       cases ok))
   · go_ret
     exact ⟨⟨false,rfl,fun h => by cases h⟩,HB1.out⟩
   · go_roundw
     case rel => exact ⟨i + 1,by omega,by simp,HSTEP.out (HJ.out rfl),HB1⟩
     case measure => simp [intOf];omega
def ReadsS (w:World) (v:Value) (ks:List Bs):Prop:=
 ∃ ad cap,v = .slice ad ks.length cap ∧ ks.length ≤ cap ∧ (ad = none → cap = 0) ∧ (0 < ks.length → ∃ b off,ad = some ⟨b,off,none⟩ ∧ ∀ j,j < ks.length → w.cell? ⟨b,off + j,none⟩ = some (.string (strB (ks.getD j []))))
theorem ReadsS.form {w:World} {v:Value} {ks:List Bs} (h:ReadsS w v ks):∃ ad c,v = .slice ad ks.length c:=by
 obtain ⟨ad,c,hv,_⟩:=h
 exact ⟨ad,c,hv⟩
theorem ReadsS.below {w w':World} {v:Value} {ks:List Bs} (h:ReadsS w v ks) (hb:Below w.heap.size w w'):ReadsS w' v ks:=by
 obtain ⟨ad,cap,h1,h2,h3,h4⟩:=h
 refine ⟨ad,cap,h1,h2,h3,fun hp => ?_⟩
 obtain ⟨b,off,h5,h6⟩:=h4 hp
 refine ⟨b,off,h5,fun j hj => ?_⟩
 have h7:=h6 j hj
 rw [hb.cell (p:=⟨b,off + j,none⟩) (block_lt_of_cell h7)]
 exact h7
theorem ReadsS.at {w:World} {ad:Option Addr} {n c:Nat} {ks:List Bs} (h:ReadsS w (.slice ad n c) ks) {j:Nat} (hj:j < ks.length):∃ b off,ad = some ⟨b,off,none⟩ ∧ w.cell? ⟨b,off + j,none⟩ = some (.string (strB (ks.getD j []))):=by
 obtain ⟨ad',cap,h1,h2,h3,h4⟩:=h
 simp only [Value.slice.injEq] at h1
 obtain ⟨rfl,_,_⟩:=h1
 obtain ⟨b,off,h5,h6⟩:=h4 (Nat.lt_of_le_of_lt (Nat.zero_le _) hj)
 exact ⟨b,off,h5,h6 j hj⟩
def plI (ks:List Bs) (key:Bs):Nat:=(ks.takeWhile fun k => ltB k key).length
def plB (ks:List Bs) (key:Bs):Bool:=decide (plI ks key < ks.length) && decide (ks.getD (plI ks key) [] = key)
theorem plI_at:∀ (ks:List Bs) (key:Bs) (i:Nat),i ≤ ks.length → (∀ j,j < i → ltB (ks.getD j []) key = true) → (i < ks.length → ltB (ks.getD i []) key = false) → plI ks key = i
 | [],_,0,_,_,_ => rfl
 | [],_,i + 1,h,_,_ => by simp at h
 | k :: ks,key,0,_,_,h => by
  have h1:=h (by simp)
  simp only [List.getD_cons_zero] at h1
  rw [plI,List.takeWhile_cons,h1]
  rfl
 | k :: ks,key,i + 1,hl,h1,h2 => by
  have h3:=h1 0 (by omega)
  simp only [List.getD_cons_zero] at h3
  have h4:=plI_at ks key i (by simpa using hl) (fun j hj => by have:=h1 (j + 1) (by omega);simpa using this) (fun hi => by have:=h2 (by simp;omega);simpa using this)
  rw [plI,List.takeWhile_cons,h3]
  simp only [if_true,List.length_cons]
  rw [plI] at h4
  rw [h4]
theorem idxS (b off n c k:Nat) (hk:k < n) (f:Operand → Value) (o:Oper) (x y:Operand) (ho:o.op = .indexAddr 40 x y) (hx:f x = .slice (some ⟨b,off,none⟩) n c) (hy:f y = .int .i64 (k:Int)) (w:World) :
 (execOp f o).run Tryz.prog w = .ok (.value (.pointer (some ⟨b,off + k,none⟩))) w:=by
 have k0:(0:Int) ≤ (k:Int):=by omega
 have k1:(k:Int) < (n:Int):=by omega
 have hs:(sizeOf 9).run Tryz.prog w = .ok 1 w:=by kernel_rfl
 unfold execOp
 rw [ho]
 simp [go_sem,hx,hy,k0,k1,Addr.add_mid,hs]
theorem wpSeq_idxS {ops:Array Oper} {Q:Exit → Act → World → Prop} {rest:List Oper} {o:Oper} {a:Act} {w:World} (x y:Operand) (b off n c k:Nat) (hk:k < n) (ho:o.op = .indexAddr 40 x y) (hx:a.eval x = .slice (some ⟨b,off,none⟩) n c) (hy:a.eval y = .int .i64 (k:Int)) (hw:Region.wanted o (yielded ops a.tmps) = true)
 (h:wpList Tryz.prog ops Q rest (a.put o.dst (.pointer (some ⟨b,off + k,none⟩))) w):wpList Tryz.prog ops Q (o :: rest) a w:=
 wpSeq_val _ _ hw (idxS b off n c k hk _ o x y ho hx hy w) h
theorem oPlace_any (vK vV:Value) (ks:List Bs) (key:Bs) (w:World) (hr:ReadsS w vK ks) (hl:ks.length < 4611686018427387904):Calls Tryz.prog 85 #[.agg [vK,vV].toArray,.string (strB key)] w fun e w' => e = .returned (.tuple #[.int .i64 (plI ks key:Int),.bool (plB ks key)]) ∧ Below w.heap.size w w':=by
 have HR:Hid (ReadsS w vK ks):=hr
 obtain ⟨ad,c,hv⟩:=hr.form
 obtain ⟨n,HN⟩:=sqn (ks.length)
 rw [← HN.out] at hv hl
 subst hv
 have HNL:Hid (n < 4611686018427387904):=hl
 obtain ⟨sk,HSK⟩:=sqn (strB key)
 obtain ⟨pI,HPI⟩:=sqn (plI ks key)
 obtain ⟨pB,HPB⟩:=sqn (plB ks key)
 rw [← HSK.out,← HPI.out,← HPB.out]
 clear hr hl
 go_enter Tryz.func85,Tryz.ntmps85
 have tk0:Hid True:=trivial
 go_wp2_with (first
  | (clear tk0;with_reducible refine wpSeq_boxW 43 (.tmp 0) [.slice ad n c,vV] ?_ ?_ ?_ ?_
     · rfl
     · rfl
     · rfl
     intro gm y1 nn;have HM:Hid (Blk y1 gm [.slice ad n c,vV] 43):=nn.blk;have HB1:Hid (Below w.heap.size w y1):=nn.below;have HR1:Hid (ReadsS y1 (.slice ad n c) ks):=HR.out.below nn.below;clear nn))
 go_loopw [6] (fun iv W => ∃ i:Nat,i ≤ n ∧ iv = .int .i64 (i:Int) ∧ Hid (∀ j,j < i → ltB (ks.getD j []) key = true) ∧ W = y1) (fun iv _ => n - (intOf iv).toNat)
 case atStart => exact ⟨0,Nat.zero_le _,rfl,fun j hj => by omega,rfl⟩
 case round =>
  obtain ⟨i,hi,rfl,HF,rfl⟩:=hrel
  have d0:wr.cell? ⟨gm,0,none⟩ = some (.slice ad n c):=HM.out.cell 0
  by_cases hin:i < n
  case neg =>
   have hlk:¬ ((i:Int) < (n:Int)):=by omega
   have HIe:Hid (plI ks key = i):=plI_at ks key i (by rw [← HN.out];exact hi) HF.out (fun h => by rw [← HN.out] at h;omega)
   obtain rfl:pI = i:=by rw [HPI.out];exact HIe.out
   obtain rfl:pB = false:=by rw [HPB.out,plB,HIe.out,← HN.out,decide_eq_false hin];rfl
   go_wp2;refine wp_region_held_drew (S:=Over (World.drew wr)) (by kernel_rfl) (Over.refl _) ?_
   intro hS;have HD0:Hid ((World.drew wr).cell? ⟨gm,0,none⟩ = some (.slice ad n c)):=HM.out.cell 0;have HBB:Hid (Below w.heap.size w (World.drew wr)):=HB1.out.drew
   change wpAnyH _ _ _ _ _ _ _ _ (World.drew wr)
   generalize World.drew wr = y3 at *
   refine tkc 0 (.int .i64 (pI:Int)) rfl hS ?_;simp only [Act.put,sq];refine tkc 1 (.int .i64 (pI:Int)) rfl hS ?_;simp only [Act.put,sq];refine tkc 2 (.pointer (some ⟨gm,0,none⟩)) rfl hS ?_;simp only [Act.put,sq];refine tka 3 (.slice ad n c) rfl (fun wx hx => by (have hc:=below_cell hx HD0.out;simp [go_sem,hc])) hS ?_
   simp only [Act.put,sq];refine tkc 4 (.int .i64 (n:Int)) rfl hS ?_;simp only [Act.put,sq];refine tka 5 (.bool false) rfl (fun wx hx => by (simp [go_sem];omega)) hS ?_
   simp only [Act.put,sq];refine tkc 6 (.bool false) rfl hS ?_;simp only [Act.put,sq];refine tkb 7 rfl hS ?_;simp only [Act.put,sq];refine tkb 8 rfl hS ?_;simp only [Act.put,sq];refine tkb 9 rfl hS ?_;simp only [Act.put,sq];refine tkb 10 rfl hS ?_;simp only [Act.put,sq];refine tkb 11 rfl hS ?_;simp only [Act.put,sq];refine tkb 12 rfl hS ?_;simp only [Act.put,sq];refine tkb 13 rfl hS ?_;simp only [Act.put,sq];refine tkc 14 (.bool false) rfl hS ?_;simp only [Act.put,sq];refine tkc 15 (.int .i64 (pI:Int)) rfl hS ?_;simp only [Act.put,sq];refine tkc 16 (.bool false) rfl hS ?_;simp only [Act.put,sq];refine wpAnyH_done (by kernel_rfl) ?_ _
   clear hS;go_wp2;refine bodyPost_ret (results_tmp2 rfl _ _ _) rfl ?_;exact ⟨rfl,HBB.out⟩
  case pos =>
   have hlk:(i:Int) < (n:Int):=by omega
   have HIN:Hid (i < n):=hin;have f1:IntKind.i64.wrap ((i:Int) + 1) = (i:Int) + 1:=by rw [IntKind.wrap_i64];have:=HNL.out;omega
   have hik:i < ks.length:=by rw [← HN.out];exact hin
   obtain ⟨b,off,rfl,hci⟩:=HR1.out.at hik;obtain ⟨si,HSI⟩:=sqn (strB (ks.getD i []));rw [← HSI.out] at hci;have HLT:Hid (Op.bytesLess si.toList sk.toList = ltB (ks.getD i []) key):=by show _ = _;rw [HSI.out,HSK.out,less_str]
   cases hlt:ltB (ks.getD i []) key
   case false =>
    have HL2:Hid (Op.bytesLess si.toList sk.toList = false):=by show _ = _;rw [HLT.out];exact hlt
    have HIe:Hid (plI ks key = i):=plI_at ks key i (by rw [← HN.out];exact hi) HF.out (fun _ => hlt)
    have HEQ:Hid ((si.toList == sk.toList) = pB):=by
     show _ = _;rw [HPB.out,HSI.out,HSK.out,strB_inj,plB,HIe.out,← HN.out,decide_eq_true hin]
     rfl
    obtain rfl:pI = i:=by rw [HPI.out];exact HIe.out
    clear hlt;obtain ⟨tq0,tq1⟩:=sqk2
    go_wp2_with (first
     | (clear tq0;with_reducible refine wpSeq_idxS (.tmp 14) (.tmp 15) b off n c pI HIN.out ?_ ?_ ?_ ?_ ?_
        · rfl
        · rfl
        · rfl
        · rfl)
     | (clear tq1;with_reducible refine wpSeq_sLt si sk false (.tmp 17) (.tmp 18) HL2.out ?_ ?_ ?_ ?_ ?_
        · rfl
        · rfl
        · rfl
        · rfl))
    refine wp_region_held_drew (S:=Over (World.drew wr)) (by kernel_rfl) (Over.refl _) ?_
    intro hS;have HD0:Hid ((World.drew wr).cell? ⟨gm,0,none⟩ = some (.slice (some ⟨b,off,none⟩) n c)):=HM.out.cell 0;have HDC:Hid ((World.drew wr).cell? ⟨b,off + pI,none⟩ = some (.string si)):=hci;have HBB:Hid (Below w.heap.size w (World.drew wr)):=HB1.out.drew
    change wpAnyH _ _ _ _ _ _ _ _ (World.drew wr)
    generalize World.drew wr = y3 at *
    refine tkc 0 (.int .i64 (pI:Int)) rfl hS ?_;simp only [Act.put,sq];refine tkc 1 (.int .i64 (pI:Int)) rfl hS ?_;simp only [Act.put,sq];refine tkc 2 (.pointer (some ⟨gm,0,none⟩)) rfl hS ?_;simp only [Act.put,sq];refine tka 3 (.slice (some ⟨b,off,none⟩) n c) rfl (fun wx hx => by (have hc:=below_cell hx HD0.out;simp [go_sem,hc])) hS ?_
    simp only [Act.put,sq];refine tkc 4 (.int .i64 (n:Int)) rfl hS ?_;simp only [Act.put,sq];refine tka 5 (.bool true) rfl (fun wx hx => by simp [go_sem,hlk]) hS ?_
    simp only [Act.put,sq];refine tkc 6 (.bool true) rfl hS ?_;simp only [Act.put,sq];refine tkc 7 (.pointer (some ⟨gm,0,none⟩)) rfl hS ?_;simp only [Act.put,sq];refine tka 8 (.slice (some ⟨b,off,none⟩) n c) rfl (fun wx hx => by (have hc:=below_cell hx HD0.out;simp [go_sem,hc])) hS ?_
    simp only [Act.put,sq];refine tkc 9 (.int .i64 (pI:Int)) rfl hS ?_;simp only [Act.put,sq];refine tka 10 (.pointer (some ⟨b,off + pI,none⟩)) rfl (fun wx hx => by exact idxS b off n c pI HIN.out _ _ _ _ rfl rfl rfl _) hS ?_
    simp only [Act.put,sq];refine tka 11 (.string si) rfl (fun wx hx => by (have hc:=below_cell hx HDC.out;simp [go_sem,hc])) hS ?_
    simp only [Act.put,sq];refine tkc 12 (.string sk) rfl hS ?_;simp only [Act.put,sq];refine tka 13 (.bool pB) rfl (fun wx hx => by exact run_strOp .eql si sk _ HEQ.out (Or.inr (Or.inr (Or.inl rfl))) _ _ _ _ rfl rfl rfl _) hS ?_
    simp only [Act.put,sq];refine tkc 14 (.bool pB) rfl hS ?_;simp only [Act.put,sq];refine tkc 15 (.int .i64 (pI:Int)) rfl hS ?_;simp only [Act.put,sq];refine tkc 16 (.bool pB) rfl hS ?_;simp only [Act.put,sq];refine wpAnyH_done (by kernel_rfl) ?_ _
    clear hS;go_wp2;refine bodyPost_ret (results_tmp2 rfl _ _ _) rfl ?_;exact ⟨rfl,HBB.out⟩
   case true =>
    have HL2:Hid (Op.bytesLess si.toList sk.toList = true):=by show _ = _;rw [HLT.out];exact hlt
    have HF2:Hid (∀ j,j < i + 1 → ltB (ks.getD j []) key = true):=fun j hj => by
     by_cases hji:j = i
     · rw [hji];exact hlt
     · exact HF.out j (by omega)
    clear hlt;obtain ⟨tr0,tr1⟩:=sqk2
    go_wp2_with (first
     | (clear tr0;with_reducible refine wpSeq_idxS (.tmp 14) (.tmp 15) b off n c i HIN.out ?_ ?_ ?_ ?_ ?_
        · rfl
        · rfl
        · rfl
        · rfl)
     | (clear tr1;with_reducible refine wpSeq_sLt si sk true (.tmp 17) (.tmp 18) HL2.out ?_ ?_ ?_ ?_ ?_
        · rfl
        · rfl
        · rfl
        · rfl))
    go_roundw
    case rel => exact ⟨i + 1,by omega,by simp,HF2,trivial⟩
    case measure => simp [intOf];omega
theorem info_keys (x y:Value):(Tryz.prog.info? 43).map (·.size) = some [x,y].length:=by kernel_rfl
theorem plB_lt {ks:List Bs} {key:Bs} (h:plB ks key = true):plI ks key < ks.length:=by
 unfold plB at h
 simp only [Bool.and_eq_true,decide_eq_true_eq] at h
 exact h.1
def GetJ (vs:List Bs) (i:Nat) (ok:Bool) (e:Ending) (w':World):Prop:=∃ vv,e = .returned (.tuple #[vv,.bool ok]) ∧ (ok = true → Reads w' vv (vs.getD i [])) ∧ (ok = false → vv = .slice none 0 0)
theorem oGet_any (vK vV:Value) (ks vs:List Bs) (key:Bs) (w:World) (hr:ReadsS w vK ks) (hv:ReadsL w vV vs) (he:ks.length = vs.length) (hl:ks.length < 4611686018427387904):Calls Tryz.prog 59 #[.agg [vK,vV].toArray,.string (strB key)] w fun e w' => GetJ vs (plI ks key) (plB ks key) e w' ∧ Below w.heap.size w w':=by
 have HR:Hid (ReadsS w vK ks):=hr
 have HV:Hid (ReadsL w vV vs):=hv
 have HL:Hid (ks.length < 4611686018427387904):=hl
 have HLE:Hid (ks.length = vs.length):=he
 obtain ⟨ad,c,hvk⟩:=hr.form
 obtain ⟨n,HN⟩:=sqn (ks.length)
 rw [← HN.out] at hvk
 subst hvk
 obtain ⟨ad2,c2,hvv,_⟩:=hv
 rw [← he,← HN.out] at hvv
 subst hvv
 obtain ⟨sk,HSK⟩:=sqn (strB key)
 obtain ⟨pI,HPI⟩:=sqn (plI ks key)
 obtain ⟨pB,HPB⟩:=sqn (plB ks key)
 rw [← HSK.out]
 rw [← HPI.out,← HPB.out]
 clear hr hl he
 cases pB
 case false =>
  go_enter Tryz.func59,Tryz.ntmps59
  obtain ⟨ta0,ta1,ta2⟩:=sqk3
  go_wp2_with (first
   | (clear ta0;with_reducible refine wpSeq_boxW 43 (.tmp 0) [.slice ad n c,.slice ad2 n c2] ?_ ?_ ?_ ?_
      · rfl
      · rfl
      · rfl
      intro gm y1 nn;have HM:Hid (Blk y1 gm [.slice ad n c,.slice ad2 n c2] 43):=nn.blk;have HB1:Hid (Below w.heap.size w y1):=nn.below
      have HC:Hid (Calls Tryz.prog 85 #[.agg [.slice ad n c,.slice ad2 n c2].toArray,.string sk] y1 fun e w' => e = .returned (.tuple #[.int .i64 (pI:Int),.bool false]) ∧ Below y1.heap.size y1 w'):=by
       rw [HSK.out,HPI.out,HPB.out];exact oPlace_any _ _ ks key y1 (HR.out.below nn.below) HL.out
      clear nn)
   | (clear ta1;with_reducible refine wpSeq_loadW 43 (.tmp 2) gm 0 [.slice ad n c,.slice ad2 n c2] _ (Blk.range HM.out) Tryz.underlying43 rfl (info_keys _ _) ?_ ?_ ?_ ?_
      · rfl
      · rfl
      · rfl)
   | (clear ta2;go_at_call 85;refine (HC.out).mono ?_;rintro e1 y2 ⟨rfl,hb⟩
      have HB2:Hid (Below w.heap.size w y2):=HB1.out.trans (hb.mono HB1.out.size);have d1:y2.cell? ⟨gm,1,none⟩ = some (.slice ad2 n c2):=(HM.out.below hb HM.out.lt).cell 1;clear hb))
  refine bodyPost_ret (results_tmp2 rfl _ _ _) rfl ?_
  exact ⟨⟨_,rfl,fun h => (by cases h),fun _ => rfl⟩,HB2.out⟩
 case true =>
  have hlt:pI < n:=by rw [HPI.out,HN.out];exact plB_lt HPB.out.symm
  have k0:(0:Int) ≤ (pI:Int):=by omega
  have k1:(pI:Int) < (n:Int):=by omega
  have HPV:Hid (pI < vs.length):=by show _ < _;rw [← HLE.out,← HN.out];exact hlt
  obtain ⟨b,off,vj,rfl,hcj,hrj⟩:=HV.out.atJ HPV.out
  have HCJ:Hid (w.cell? ⟨b,off + pI,none⟩ = some vj):=hcj
  have HRJ:Hid (Reads w vj (vs.getD pI [])):=hrj
  clear hcj hrj
  go_enter Tryz.func59,Tryz.ntmps59
  obtain ⟨tb0,tb1,tb2⟩:=sqk3
  go_wp2_with (first
   | (clear tb0;with_reducible refine wpSeq_boxW 43 (.tmp 0) [.slice ad n c,.slice (some ⟨b,off,none⟩) n c2] ?_ ?_ ?_ ?_
      · rfl
      · rfl
      · rfl
      intro gm y1 nn;have HM:Hid (Blk y1 gm [.slice ad n c,.slice (some ⟨b,off,none⟩) n c2] 43):=nn.blk;have HB1:Hid (Below w.heap.size w y1):=nn.below
      have HC:Hid (Calls Tryz.prog 85 #[.agg [.slice ad n c,.slice (some ⟨b,off,none⟩) n c2].toArray,.string sk] y1 fun e w' => e = .returned (.tuple #[.int .i64 (pI:Int),.bool true]) ∧ Below y1.heap.size y1 w'):=by
       rw [HSK.out,HPI.out,HPB.out];exact oPlace_any _ _ ks key y1 (HR.out.below nn.below) HL.out
      clear nn)
   | (clear tb1;with_reducible refine wpSeq_loadW 43 (.tmp 2) gm 0 [.slice ad n c,.slice (some ⟨b,off,none⟩) n c2] _ (Blk.range HM.out) Tryz.underlying43 rfl (info_keys _ _) ?_ ?_ ?_ ?_
      · rfl
      · rfl
      · rfl)
   | (clear tb2;go_at_call 85;refine (HC.out).mono ?_;rintro e1 y2 ⟨rfl,hb⟩
      have HB2:Hid (Below w.heap.size w y2):=HB1.out.trans (hb.mono HB1.out.size);have d1:y2.cell? ⟨gm,1,none⟩ = some (.slice (some ⟨b,off,none⟩) n c2):=(HM.out.below hb HM.out.lt).cell 1;clear hb;have d2:y2.cell? ⟨b,off + pI,none⟩ = some vj:=by rw [HB2.out.cell (p:=⟨b,off + pI,none⟩) (block_lt_of_cell HCJ.out)];exact HCJ.out))
  refine bodyPost_ret (results_tmp2 rfl _ _ _) rfl ?_
  exact ⟨⟨_,rfl,fun _ => HRJ.out.below HB2.out,fun h => by cases h⟩,HB2.out⟩
end Go.Proofs.YtheincjkoefalaaGreatDoor
namespace Go.Proofs.YtheincjkoefalaaGreatDoor
theorem plI_cons (k:Bs) (ks:List Bs) (key:Bs):plI (k :: ks) key = if ltB k key = true then plI ks key + 1 else 0:=by
 rw [plI,List.takeWhile_cons]
 cases ltB k key <;> rfl
theorem plB_lt1 {k:Bs} {ks:List Bs} {key:Bs} (h:ltB k key = true):plB (k :: ks) key = plB ks key:=by
 rw [plB,plB,plI_cons,if_pos h,List.length_cons,List.getD_cons_succ]
 congr 1
 rw [decide_eq_decide]
 omega
theorem plB_ge {k:Bs} {ks:List Bs} {key:Bs} (h:ltB k key = false):plB (k :: ks) key = decide (k = key):=by
 rw [plB,plI_cons,if_neg (by rw [h];decide),List.length_cons,List.getD_cons_zero,decide_eq_true (Nat.succ_pos _),Bool.true_and]
theorem rise_cons {p:Bs × Bs} {m:KM}:Rise (p :: m) ↔ (∀ q ∈ m,ltB p.1 q.1 = true) ∧ Rise m:=List.pairwise_cons
theorem ge_lt {a b c:Bs} (h:ltB a b = false) (h2:ltB a c = true):ltB b c = true:=by
 rcases ltB_tri a b with h3 | h3 | h3
 · rw [h3] at h;cases h
 · rw [← h3];exact h2
 · exact ltB_trans _ _ _ h3 h2
theorem lt_part:∀ {m:KM} (key:Bs),Rise m → m.filter (fun p => ltB p.1 key) = m.take (plI (m.map (·.1)) key)
 | [],_,_ => rfl
 | p :: m,key,h => by
  obtain ⟨h1,h2⟩:=rise_cons.1 h
  rw [List.map_cons,plI_cons,List.filter_cons]
  cases hp:ltB p.1 key
  · rw [if_neg (by decide),if_neg (by decide),List.take_zero,List.filter_eq_nil_iff]
    intro q hq;have h3:=ge_lt hp (h1 q hq);rw [ltB_asym h3]
    decide
  · rw [if_pos rfl,if_pos rfl,List.take_succ_cons,lt_part key h2]
theorem gt_part:∀ {m:KM} (key:Bs),Rise m → m.filter (fun p => ltB key p.1) = m.drop (if plB (m.map (·.1)) key = true then plI (m.map (·.1)) key + 1 else plI (m.map (·.1)) key)
 | [],_,_ => by simp
 | p :: m,key,h => by
  obtain ⟨h1,h2⟩:=rise_cons.1 h
  have ft:¬ (false = true):=by decide
  rw [List.map_cons,plI_cons,List.filter_cons]
  cases hp:ltB p.1 key
  · rw [if_neg ft,plB_ge hp]
    have hall:m.filter (fun q => ltB key q.1) = m:=by
     rw [List.filter_eq_self];exact fun q hq => ge_lt hp (h1 q hq)
    by_cases he:p.1 = key
    · rw [decide_eq_true he,if_pos rfl,he,ltB_irr,if_neg ft,hall]
      rfl
    · rw [decide_eq_false he,if_neg ft]
      have h3:ltB key p.1 = true:=by
       rcases ltB_tri p.1 key with h | h | h
       · rw [h] at hp;cases hp
       · exact absurd h he
       · exact h
      rw [if_pos h3,hall]
      rfl
  · rw [if_pos rfl,plB_lt1 hp,if_neg (by rw [ltB_asym hp];decide),gt_part key h2]
    split <;> rfl
theorem oneM_cut {m:KM} (h:Rise m) (a:ActT):oneM m a = m.take (plI (m.map (·.1)) a.key) ++ ((if a.set then [(a.key,a.data)] else []) ++ m.drop (if plB (m.map (·.1)) a.key = true then plI (m.map (·.1)) a.key + 1 else plI (m.map (·.1)) a.key)):=by
 rw [oneM,lt_part _ h,gt_part _ h]
theorem getM_pl:∀ {m:KM} (key:Bs),Rise m → getM m key = if plB (m.map (·.1)) key = true then some ((m.map (·.2)).getD (plI (m.map (·.1)) key) []) else none
 | [],_,_ => rfl
 | p :: m,key,h => by
  obtain ⟨h1,h2⟩:=rise_cons.1 h
  have ft:¬ (false = true):=by decide
  have ih:=getM_pl key h2
  unfold getM at ih ⊢
  rw [List.map_cons,List.map_cons,plI_cons,List.find?_cons]
  cases hp:ltB p.1 key
  · rw [if_neg ft,plB_ge hp]
    by_cases he:p.1 = key
    · rw [decide_eq_true he,if_pos rfl]
      rfl
    · rw [decide_eq_false he,if_neg ft]
      have h0:m.find? (fun q => decide (q.1 = key)) = none:=by
       rw [List.find?_eq_none];intro q hq hk;have h3:=ge_lt hp (h1 q hq);rw [of_decide_eq_true hk,ltB_irr] at h3
       cases h3
      simp only [h0]
      rfl
  · rw [if_pos rfl,plB_lt1 hp,List.getD_cons_succ,← ih,decide_eq_false (ltB_ne hp)]
end Go.Proofs.YtheincjkoefalaaGreatDoor
namespace Go.Proofs.YtheincjkoefalaaGreatDoor
open Go.RowKit
theorem getM_cons (p:Bs × Bs) (m:KM) (k:Bs):getM (p :: m) k = if p.1 = k then some p.2 else getM m k:=by
 unfold getM
 by_cases e:p.1 = k
 · rw [if_pos e,List.find?_cons_of_pos (by simp [e])];rfl
 · rw [if_neg e,List.find?_cons_of_neg (by simp [e])]
theorem opt_ext {x y:Option Bs} (h:∀ d,x = some d ↔ y = some d):x = y:=by
 cases x with
 | none =>
  cases y with
  | none => rfl
  | some d => exact absurd ((h d).2 rfl) (by simp)
 | some d => exact ((h d).1 rfl).symm
theorem get_one {m:KM} (h:Rise m) (a:ActT) (q:Bs):getM (oneM m a) q = if q = a.key then (if a.set then some a.data else none) else getM m q:=by
 apply opt_ext
 intro d
 rw [getM_mem (h.one a),mem_one]
 by_cases e:q = a.key
 · rw [if_pos e]
   constructor
   · rintro (⟨_,h2⟩ | ⟨h1,h2⟩)
     · exact absurd e h2
     · rw [if_pos h1];simp at h2;rw [h2.2]
   · intro h1
     by_cases hs:a.set = true
     · rw [if_pos hs] at h1
       simp at h1
       exact Or.inr ⟨hs,by rw [e,h1]⟩
     · rw [if_neg hs] at h1
       cases h1
 · rw [if_neg e,getM_mem h]
   constructor
   · rintro (⟨h1,_⟩ | ⟨_,h2⟩)
     · exact h1
     · simp at h2;exact absurd h2.1 e
   · intro h1
     exact Or.inl ⟨h1,e⟩
theorem len_parts:∀ {m:KM} (k:Bs),Rise m → (m.filter (fun p => ltB p.1 k)).length + (m.filter (fun p => ltB k p.1)).length + (if (getM m k).isSome then 1 else 0) = m.length
 | [],k,_ => by simp [getM]
 | p :: m,k,h => by
  obtain ⟨h1,h2⟩:=rise_cons.1 h
  have ih:=len_parts k h2
  rw [getM_cons]
  rcases ltB_tri p.1 k with c | c | c
  · rw [List.filter_cons_of_pos (by exact c),List.filter_cons_of_neg (by rw [ltB_asym c];decide),if_neg (ltB_ne c),List.length_cons,List.length_cons]
    omega
  · have e1:m.filter (fun p => ltB p.1 k) = []:=List.filter_eq_nil_iff.2 (fun q hq => by have:=h1 q hq;rw [c] at this;simp [ltB_asym this])
    have e2:m.filter (fun p => ltB k p.1) = m:=List.filter_eq_self.2 (fun q hq => by have:=h1 q hq;rw [c] at this;exact this)
    rw [List.filter_cons_of_neg (by rw [c,ltB_irr];decide),List.filter_cons_of_neg (by rw [c,ltB_irr];decide),e1,e2,if_pos c]
    simp
  · rw [List.filter_cons_of_neg (by rw [ltB_asym c];decide),List.filter_cons_of_pos (by exact c),if_neg (show ¬ p.1 = k from fun e => by rw [e,ltB_irr] at c;cases c),List.length_cons,List.length_cons]
    omega
theorem len_one {m:KM} (h:Rise m) (a:ActT):(oneM m a).length + (if (getM m a.key).isSome then 1 else 0) = m.length + (if a.set then 1 else 0):=by
 have h1:=len_parts a.key h
 unfold oneM
 rw [List.length_append,List.length_append]
 cases a.set <;> simp <;> omega
def slD:Value → DataW Unit
 | .slice none n c => .agg [.lit (.int .i64 (-1)),.lit (.int .i64 0),.lit (.int .i64 (n:Int)),.lit (.int .i64 (c:Int)),.lit (.int .i64 0)]
 | .slice (some ⟨b,o,none⟩) n c => .agg [.lit (.int .i64 (b:Int)),.lit (.int .i64 (o:Int)),.lit (.int .i64 (n:Int)),.lit (.int .i64 (c:Int)),.lit (.int .i64 (-1))]
 | .slice (some ⟨b,o,some s⟩) n c => .agg [.lit (.int .i64 (b:Int)),.lit (.int .i64 (o:Int)),.lit (.int .i64 (n:Int)),.lit (.int .i64 (c:Int)),.lit (.int .i64 (s:Int))]
 | _ => .nil
def isSl:Value → Bool
 | .slice _ _ _ => true
 | _ => false
def slE (v:Value):Option (DataW Unit × List MemPlace):=if isSl v then some (slD v,[]) else none
theorem slE_mk {v:Value} (h:isSl v = true):slE v = some (slD v,[]):=if_pos h
theorem slE_inv {v u:Value} {ps:List MemPlace} (hu:isSl u = true) (h:slE v = some (slD u,ps)):v = u:=by
 unfold slE at h
 split at h
 · rename_i hv
   simp only [Option.some.injEq,Prod.mk.injEq] at h;obtain ⟨e,_⟩:=h
   cases v <;> simp [isSl] at hv
   rename_i ad n c
   cases u <;> simp [isSl] at hu
   rename_i ad2 n2 c2
   rcases ad with _ | ⟨b,o,_ | s⟩ <;> rcases ad2 with _ | ⟨b2,o2,_ | s2⟩ <;> simp [slD] at e ⊢ <;> omega
 · cases h
def litB (s:Bs):Lit:=.string (strB s).data.toList
theorem strB_inj2 {s t:Bs} (h:strB s = strB t):s = t:=by
 have h1:=strB_inj s t
 rw [h] at h1
 simp at h1
 exact h1
theorem litB_inj {s t:Bs} (h:litB s = litB t):s = t:=by
 unfold litB at h
 apply strB_inj2
 revert h
 cases strB s;cases strB t
 intro h
 simp at h
 simp [h]
theorem kSt:Maps.Keyed Tryz.prog 9:=Maps.string_keyed Tryz.underlying9
theorem keyB {s:Bs} (h:s.length ≤ 1000000):keyOf Tryz.prog 9 (.string (strB s)) = some (litB s):=WideMaps.keyOf_string_mk Tryz.underlying9 (by rw [strB_size];unfold maxLen;omega)
theorem litBK (s:Bs):WideAt.IsKeyLit (litB s):=trivial
structure MapM (w:World) (gm n:Nat) (V:Bs → Value) (m:KM):Prop where
 ex:∃ D:DataW Unit,w.ownsMap Tryz.prog 9 slE gm n D ∧ Maps.size D = m.length ∧ ∀ s,Maps.has D (litB s) = (getM m s).isSome ∧ ((getM m s).isSome = true → D.atKey (litB s) (slD (.slice none 0 0)) = slD (V s))
 sl:∀ s,(getM m s).isSome = true → isSl (V s) = true
 up:Rise m
theorem MapM.lt {w:World} {gm n:Nat} {V:Bs → Value} {m:KM} (h:MapM w gm n V m):gm < w.heap.size:=by obtain ⟨D,h1,_⟩:=h.ex;exact h1.lt
theorem MapM.same {w w':World} {gm n:Nat} {V:Bs → Value} {m:KM} (h:MapM w gm n V m) (e:w'.heap[gm]? = w.heap[gm]?):MapM w' gm n V m:=by
 obtain ⟨D,⟨es,cl,hb,r⟩,h2⟩:=h.ex
 exact ⟨⟨D,⟨es,cl,by rw [e];exact hb,r⟩,h2⟩,h.sl,h.up⟩
theorem MapM.ne {w:World} {gm n:Nat} {V:Bs → Value} {m:KM} (h:MapM w gm n V m) {g:Nat} {cs:Array Value} {t:TypeId} {fr:Nat × Nat} (hb:w.heap[g]? = some (.cells cs t fr)):gm ≠ g:=fun e => by
 obtain ⟨D,⟨es,cl,hm,_⟩,_⟩:=h.ex
 subst e
 rw [hm] at hb
 cases hb
theorem mapM_new (w:World) (V:Bs → Value):MapM (w.alloc (.map #[] 0)) w.heap.size 0 V []:=
 ⟨⟨.map [],World.ownsMap_made w _ _ _,rfl,fun _ => ⟨rfl,fun h => (by cases h)⟩⟩,fun _ h => (by cases h),List.Pairwise.nil⟩
theorem MapM.look {w:World} {gm n:Nat} {V:Bs → Value} {m:KM} (h:MapM w gm n V m) {s:Bs} (hs:s.length ≤ 1000000):(Instr.lookup 97 (.map (some gm)) (.string (strB s)) true).run Tryz.prog w = .ok (.tuple #[if (getM m s).isSome then V s else .slice none 0 0,.bool (getM m s).isSome]) w:=by
 obtain ⟨D,h1,h2,h3⟩:=h.ex
 obtain ⟨v,ps,hr,hv⟩:=h1.look_ok kSt Tryz.underlying97 (z:=.slice none 0 0) (by kernel_rfl) (slE_mk rfl) (keyB hs)
 obtain ⟨h4,h5⟩:=h3 s
 rw [h4] at hr
 by_cases c:(getM m s).isSome = true
 · rw [h5 c] at hv
   rw [slE_inv (h.sl s c) hv] at hr;rw [if_pos c];exact hr
 · have hf:Maps.has D (litB s) = false:=by rw [h4];simpa using c
   rw [Maps.atKey_of_not_has hf] at hv;rw [slE_inv rfl hv] at hr;rw [if_neg c];exact hr
theorem MapM.len {w:World} {gm n:Nat} {V:Bs → Value} {m:KM} (h:MapM w gm n V m) (ty:TypeId):(Builtin.len_ #[97] ty #[.map (some gm)]).run Tryz.prog w = .ok (.int .i64 (m.length:Int)) w:=by
 obtain ⟨D,h1,h2,_⟩:=h.ex
 rw [h1.len Tryz.underlying97 ty,h2]
theorem mapTurned_only {w w':World} {gm:Nat} (h:w.mapTurned w' gm):Only gm w w':=by
 obtain ⟨es,cl,es',cl',hb,rfl⟩:=h
 exact ⟨rfl,rfl,rfl,by simp [ChangeMaps.setBlock],fun k hk _ => ChangeMaps.heap_setBlock_other hb _ hk⟩
theorem MapM.lay {w:World} {gm n:Nat} {V:Bs → Value} {m:KM} (h:MapM w gm n V m) (hn:n < 100000000) {s:Bs} (hs:s.length ≤ 1000000) {v:Value} (hv:isSl v = true) (t:Bs):∃ w',(Instr.mapUpdate 97 (.map (some gm)) (.string (strB s)) v).run Tryz.prog w = .ok () w' ∧ MapM w' gm (n + 1) (fun q => if q = s then v else V q) (oneM m ⟨s,true,t⟩) ∧ Only gm w w':=by
 obtain ⟨D,h1,h2,h3⟩:=h.ex
 have hi:=h1.isMap
 have ht:=h1.tidy kSt
 obtain ⟨w',hr,h4,h5⟩:=h1.store kSt Tryz.underlying97 (by unfold maxLen;omega) (keyB hs) (slE_mk hv)
 refine ⟨w',hr,⟨⟨_,h4,?_,fun q => ?_⟩,fun q hq => ?_,h.up.one _⟩,mapTurned_only h5⟩
 · have e1:=Maps.size_put (k:=litB s) ht (slD v)
   have e2:=len_one h.up ⟨s,true,t⟩;rw [(h3 s).1] at e1;rw [e1];simp only [if_true] at e2
   by_cases c:(getM m s).isSome = true
   · rw [if_pos c] at e2 ⊢;omega
   · rw [if_neg c] at e2 ⊢;omega
 · rw [get_one h.up]
   by_cases e:q = s
   · subst e
     refine ⟨?_,fun _ => ?_⟩
     · rw [Maps.has_put_same hi (litBK _)];simp
     · rw [Maps.atKey_put_same hi (litBK _),if_pos rfl]
   · have hne:litB q ≠ litB s:=fun e2 => e (litB_inj e2)
     rw [if_neg e];refine ⟨?_,fun hq => ?_⟩
     · rw [Maps.has_put_other hne];exact (h3 q).1
     · rw [Maps.atKey_put_other hne,if_neg e];exact (h3 q).2 hq
 · show isSl (if q = s then v else V q) = true
   by_cases e:q = s
   · rw [if_pos e];exact hv
   · rw [if_neg e]
     rw [get_one h.up,if_neg e] at hq;exact h.sl q hq
theorem MapM.cut {w:World} {gm n:Nat} {V:Bs → Value} {m:KM} (h:MapM w gm n V m) {s:Bs} (hs:s.length ≤ 1000000) (ty:TypeId):∃ w',(Builtin.delete_ #[97,9] ty #[.map (some gm),.string (strB s)]).run Tryz.prog w = .ok (.tuple #[]) w' ∧ MapM w' gm n V (oneM m ⟨s,false,[]⟩) ∧ Only gm w w':=by
 obtain ⟨D,h1,h2,h3⟩:=h.ex
 have ht:=h1.tidy kSt
 obtain ⟨w',hr,h4,h5⟩:=h1.drop kSt Tryz.underlying97 (keyB hs) ty
 refine ⟨w',hr,⟨⟨_,h4,?_,fun q => ?_⟩,fun q hq => ?_,h.up.one _⟩,mapTurned_only h5⟩
 · have e1:=Maps.size_del (k:=litB s) ht
   have e2:=len_one h.up ⟨s,false,[]⟩;rw [(h3 s).1] at e1;simp only [Bool.false_eq_true,if_false] at e2;omega
 · rw [get_one h.up]
   by_cases e:q = s
   · subst e
     refine ⟨?_,fun hq => ?_⟩
     · rw [Maps.has_del_same];simp
     · simp at hq
   · have hne:litB q ≠ litB s:=fun e2 => e (litB_inj e2)
     rw [if_neg e];refine ⟨?_,fun hq => ?_⟩
     · rw [Maps.has_del_other hne];exact (h3 q).1
     · rw [Maps.atKey_del_other hne];exact (h3 q).2 hq
 · rw [get_one h.up] at hq
   by_cases e:q = s
   · rw [if_pos e] at hq;simp at hq
   · rw [if_neg e] at hq;exact h.sl q hq
def RdP (w:World) (v:Value) (ps:List (ActT × Value)):Prop:=∃ ad cap,v = .slice ad ps.length cap ∧ (0 < ps.length → ∃ b off,ad = some ⟨b,off,none⟩ ∧ ∀ (j:Nat) (p:ActT × Value),ps[j]? = some p → w.rangeAt b (off + j * 3) (actC p.1 p.2))
theorem RdP.form {w:World} {v:Value} {ps:List (ActT × Value)} (h:RdP w v ps):∃ ad c,v = .slice ad ps.length c:=by
 obtain ⟨ad,c,hv,_⟩:=h
 exact ⟨ad,c,hv⟩
theorem RdP.at {w:World} {ad:Option Addr} {n c:Nat} {ps:List (ActT × Value)} (h:RdP w (.slice ad n c) ps) {j:Nat} {p:ActT × Value} (hj:ps[j]? = some p):∃ b off,ad = some ⟨b,off,none⟩ ∧ w.rangeAt b (off + j * 3) (actC p.1 p.2):=by
 obtain ⟨ad',cap,h1,h3⟩:=h
 simp only [Value.slice.injEq] at h1
 obtain ⟨rfl,_,_⟩:=h1
 have hl:=(List.getElem?_eq_some_iff.1 hj).1
 obtain ⟨b,off,h4,h5⟩:=h3 (by omega)
 exact ⟨b,off,h4,h5 j p hj⟩
theorem range_mut {w w':World} {P:Nat → Prop} {b off:Nat} {cs:List Value} (h:w.rangeAt b off cs) (m:Mut P w w') (hb:¬ P b):w'.rangeAt b off cs:=fun j u hj => by
 have h1:=h j u hj
 rw [World.cell?_of_block (w:=w) (m.block b (block_lt_of_cell h1) hb)]
 exact h1
theorem MapM.neC {w:World} {gm n:Nat} {V:Bs → Value} {m:KM} (h:MapM w gm n V m) {a:Addr} {u:Value} (hc:w.cell? a = some u):a.block ≠ gm:=fun e => by
 obtain ⟨D,⟨es,cl,hm,_⟩,_⟩:=h.ex
 rw [World.cell?,e,hm] at hc
 simp at hc
structure DoS (w:World) (gm n:Nat) (K:Value → Bs → Prop) (m:KM) (V:Bs → Value) (wr:World):Prop where
 mp:MapM wr gm n V m
 kk:∀ s t,getM m s = some t → K (V s) t
 mu:Mut (fun j => j = gm) w wr
theorem DoS.below {w wr w':World} {gm n:Nat} {K:Value → Bs → Prop} {m:KM} {V:Bs → Value} (h:DoS w gm n K m V wr) (hb:Below wr.heap.size wr w'):DoS w gm n K m V w':=⟨h.mp.same (hb.block gm h.mp.lt),h.kk,h.mu.trans (fun _ _ h => h) (mut_below hb _)⟩
theorem DoS.only {w wr w':World} {gm n g:Nat} {K:Value → Bs → Prop} {m:KM} {V:Bs → Value} {cs:List Value} {t:TypeId} (h:DoS w gm n K m V wr) (hb:Blk wr g cs t) (hg:w.heap.size ≤ g) (ho:Only g wr w'):DoS w gm n K m V w':=
 ⟨h.mp.same (ho.block gm (h.mp.ne hb) h.mp.lt),h.kk,h.mu.trans (fun k hk (e:k = g) => absurd hk (by omega)) (ho.mut (P:=fun k => k = g) rfl)⟩
theorem DoS.set {w wr w':World} {gm n:Nat} {K:Value → Bs → Prop} {m:KM} {V:Bs → Value} (h:DoS w gm n K m V wr) {s t:Bs} {v:Value} (hv:K v t) (hm:MapM w' gm (n + 1) (fun q => if q = s then v else V q) (oneM m ⟨s,true,t⟩)) (ho:Only gm wr w'):DoS w gm (n + 1) K (oneM m ⟨s,true,t⟩) (fun q => if q = s then v else V q) w':=by
 refine ⟨hm,fun q u hq => ?_,h.mu.trans (fun _ _ h => h) (ho.mut (P:=fun k => k = gm) rfl)⟩
 rw [get_one h.mp.up] at hq
 by_cases e:q = s
 · rw [if_pos e] at hq
   simp at hq
   show K (if q = s then v else V q) u;rw [if_pos e,← hq];exact hv
 · rw [if_neg e] at hq
   show K (if q = s then v else V q) u;rw [if_neg e];exact h.kk q u hq
theorem DoS.del {w wr w':World} {gm n:Nat} {K:Value → Bs → Prop} {m:KM} {V:Bs → Value} (h:DoS w gm n K m V wr) {s:Bs} (hm:MapM w' gm n V (oneM m ⟨s,false,[]⟩)) (ho:Only gm wr w'):DoS w gm (n + 1) K (oneM m ⟨s,false,[]⟩) V w':=by
 refine ⟨⟨?_,hm.sl,hm.up⟩,fun q u hq => ?_,h.mu.trans (fun _ _ h => h) (ho.mut (P:=fun k => k = gm) rfl)⟩
 · obtain ⟨D,h1,h2⟩:=hm.ex
   exact ⟨D,h1.mono (Nat.le_succ _),h2⟩
 · rw [get_one h.mp.up] at hq
   by_cases e:q = s
   · rw [if_pos e] at hq;simp at hq
   · rw [if_neg e] at hq
     exact h.kk q u hq
theorem one_unset (m:KM) (a:ActT) (h:a.set = false):oneM m a = oneM m ⟨a.key,false,[]⟩:=by unfold oneM;rw [h];rfl
theorem isSl_form {v:Value} (h:isSl v = true):∃ ad n c,v = .slice ad n c:=by
 cases v <;> simp [isSl] at h
 exact ⟨_,_,_,rfl⟩
theorem sDo_any {w:World} {gm n:Nat} {V:Bs → Value} {m:KM} (K:Value → Bs → Prop) (hm:MapM w gm n V m) (hK:∀ s t,getM m s = some t → K (V s) t) (v:Value) (ps:List (ActT × Value)) (hr:RdP w v ps) (hp:∀ p ∈ ps,p.1.key.length ≤ 1000000 ∧ isSl p.2 = true ∧ (p.1.set = true → K p.2 p.1.data)) (hn:n + ps.length < 10000000) :
 Calls Tryz.prog 54 #[.map (some gm),v] w fun e w' => e = .returned (.tuple #[]) ∧ ∃ V',DoS w gm (n + ps.length) K (doneM m (ps.map (·.1))) V' w':=by
 obtain ⟨ad,cp,hv⟩:=hr.form
 obtain ⟨N,HN⟩:=sqn (ps.length)
 rw [← HN.out] at hv hn ⊢
 subst hv
 have HR:Hid (RdP w (.slice ad N cp) ps):=hr
 have HP:Hid (∀ p ∈ ps,p.1.key.length ≤ 1000000 ∧ isSl p.2 = true ∧ (p.1.set = true → K p.2 p.1.data)):=hp
 have HNN:Hid (n + N < 10000000):=hn
 have HI0:Hid (DoS w gm (n + 0) K (doneM m ((ps.take 0).map (·.1))) V w):=⟨hm,hK,Mut.refl _ _⟩
 have HM0:Hid (MapM w gm n V m):=hm
 clear hr hp hn hm hK
 go_enter Tryz.func54,Tryz.ntmps54
 go_wp2
 go_loopw [8] (fun i wr => ∃ k:Nat,k ≤ N ∧ i = .int .i64 (k:Int) ∧ ∃ V',DoS w gm (n + k) K (doneM m ((ps.take k).map (·.1))) V' wr) (fun i _ => N - (intOf i).toNat)
 case atStart => exact ⟨0,Nat.zero_le _,rfl,V,HI0.out⟩
 case round =>
  clear HI0
  obtain ⟨k,hkn,rfl,V',hI⟩:=hrel
  by_cases hlt:k < N
  · obtain ⟨p,hp⟩:∃ p,ps[k]? = some p:=⟨_,List.getElem?_eq_getElem (by rw [← HN.out];exact hlt)⟩
    obtain ⟨hk1,hk2,hk3⟩:=HP.out p (List.mem_of_getElem? hp);obtain ⟨b,off,e1,hrg⟩:=HR.out.at hp;subst e1;have hneb:¬ b = gm:=HM0.out.neC (hrg 0 _ rfl);have hrw:=range_mut hrg hI.mu hneb
    have HTK:Hid (doneM m ((ps.take (k + 1)).map (·.1)) = oneM (doneM m ((ps.take k).map (·.1))) p.1):=by
     show _ = _;rw [List.take_add_one,hp,List.map_append];exact doneM_snoc _ _ _
    obtain ⟨⟨ky,st,da⟩,vd⟩:=p;obtain ⟨av,nv,cv,hvd⟩:=isSl_form hk2;simp only at hvd;subst hvd;obtain ⟨sk,HSK⟩:=sqn (strB ky)
    have HRW:Hid (wr.rangeAt b (off + k * 3) [.string sk,.bool st,.slice av nv cv]):=by
     show wr.rangeAt _ _ _;rw [HSK.out];exact hrw
    have HW:Hid (DoS w gm (n + k) K (doneM m ((ps.take k).map (·.1))) V' wr):=hI;have HKY:Hid (ky.length ≤ 1000000 ∧ isSl (.slice av nv cv) = true ∧ (st = true → K (.slice av nv cv) da)):=⟨hk1,hk2,hk3⟩;have k0:(0:Int) ≤ (k:Int):=by omega
    have k3:(k:Int) < (N:Int):=by omega
    have f5:IntKind.i64.wrap ((k:Int) + 1) = (k:Int) + 1:=by have:=HNN.out;rw [IntKind.wrap_i64];omega
    clear hI hp hk1 hk2 hk3 hrg hrw hneb;obtain ⟨tk0,tk1,tk2,tk3⟩:=sqk4
    cases st with
    | true =>
     go_wp2_with (first
      | (clear tk3;with_reducible refine wpSeq_idxA (.tmp 6) (.tmp 8) b off N cp k hlt ?_ ?_ ?_ ?_ ?_
         · rfl
         · rfl
         · rfl
         · rfl)
      | (clear tk0;with_reducible refine wpSeq_loadW 62 (.tmp 10) b (off + k * 3) [.string sk,.bool true,.slice av nv cv] _ HRW.out Tryz.underlying62 rfl (info_act15 _ _ _) ?_ ?_ ?_ ?_
         · rfl
         · rfl
         · rfl)
      | (clear tk1;with_reducible refine wpSeq_allocA ?_ ?_ ?_
         · rfl
         · rfl
         intro g5 y1 nn;have H5:Hid (Blk y1 g5 zA 62):=nn.blk;have HG5:Hid (w.heap.size ≤ g5):=Nat.le_trans HW.out.mu.size nn.ge;replace HW:Hid (DoS w gm (n + k) K (doneM m ((ps.take k).map (·.1))) V' y1):=HW.out.below nn.below;clear nn)
      | (clear tk2;with_reducible refine wpSeq_storeRow 62 (.tmp 5) (.tmp 11) g5 zA [.string sk,.bool true,.slice av nv cv] H5.out rfl (info_act15 _ _ _) (one_act _ _ _ _ _) ?_ ?_ ?_ ?_ ?_
         · rfl
         · rfl
         · rfl
         · rfl
         intro y2 sr;replace HW:Hid (DoS w gm (n + k) K (doneM m ((ps.take k).map (·.1))) V' y2):=HW.out.only H5.out HG5.out sr.only;have c0:y2.cell? ⟨g5,0,none⟩ = some (.string sk):=sr.blk.cell 0;have c1:y2.cell? ⟨g5,1,none⟩ = some (.bool true):=sr.blk.cell 1;have c2:y2.cell? ⟨g5,2,none⟩ = some (.slice av nv cv):=sr.blk.cell 2;obtain ⟨y3,hr3,hm3,ho3⟩:=HW.out.mp.lay (by have:=HNN.out;omega) HKY.out.1 HKY.out.2.1 da
         rw [← HSK.out] at hr3;have HW3:Hid (DoS w gm (n + k + 1) K (oneM (doneM m ((ps.take k).map (·.1))) ⟨ky,true,da⟩) (fun q => if q = ky then .slice av nv cv else V' q) y3):=HW.out.set (HKY.out.2.2 rfl) hm3 ho3
         clear sr hm3 ho3))
     go_roundw
     case rel => exact ⟨k + 1,hlt,rfl,_,by rw [HTK.out];exact HW3.out⟩
     case measure => simp [intOf];omega
    | false =>
     go_wp2_with (first
      | (clear tk3;with_reducible refine wpSeq_idxA (.tmp 6) (.tmp 8) b off N cp k hlt ?_ ?_ ?_ ?_ ?_
         · rfl
         · rfl
         · rfl
         · rfl)
      | (clear tk0;with_reducible refine wpSeq_loadW 62 (.tmp 10) b (off + k * 3) [.string sk,.bool false,.slice av nv cv] _ HRW.out Tryz.underlying62 rfl (info_act15 _ _ _) ?_ ?_ ?_ ?_
         · rfl
         · rfl
         · rfl)
      | (clear tk1;with_reducible refine wpSeq_allocA ?_ ?_ ?_
         · rfl
         · rfl
         intro g5 y1 nn;have H5:Hid (Blk y1 g5 zA 62):=nn.blk;have HG5:Hid (w.heap.size ≤ g5):=Nat.le_trans HW.out.mu.size nn.ge;replace HW:Hid (DoS w gm (n + k) K (doneM m ((ps.take k).map (·.1))) V' y1):=HW.out.below nn.below;clear nn)
      | (clear tk2;with_reducible refine wpSeq_storeRow 62 (.tmp 5) (.tmp 11) g5 zA [.string sk,.bool false,.slice av nv cv] H5.out rfl (info_act15 _ _ _) (one_act _ _ _ _ _) ?_ ?_ ?_ ?_ ?_
         · rfl
         · rfl
         · rfl
         · rfl
         intro y2 sr;replace HW:Hid (DoS w gm (n + k) K (doneM m ((ps.take k).map (·.1))) V' y2):=HW.out.only H5.out HG5.out sr.only;have c0:y2.cell? ⟨g5,0,none⟩ = some (.string sk):=sr.blk.cell 0;have c1:y2.cell? ⟨g5,1,none⟩ = some (.bool false):=sr.blk.cell 1;obtain ⟨y3,hr3,hm3,ho3⟩:=HW.out.mp.cut HKY.out.1 0;rw [← HSK.out] at hr3;have HW3:Hid (DoS w gm (n + k + 1) K (oneM (doneM m ((ps.take k).map (·.1))) ⟨ky,false,[]⟩) V' y3):=HW.out.del hm3 ho3;clear sr hm3 ho3))
     go_roundw
     case rel => exact ⟨k + 1,hlt,rfl,_,by rw [HTK.out,one_unset _ ⟨ky,false,da⟩ rfl];exact HW3.out⟩
     case measure => simp [intOf];omega
  · have hkk:k = N:=by omega
    subst hkk
    have HF:Hid (DoS w gm (n + k) K (doneM m (ps.map (·.1))) V' wr):=by
     have h9:=hI;rw [List.take_of_length_le (by rw [← HN.out];exact Nat.le_refl _)] at h9
     exact h9
    clear hI;go_wp2;refine bodyPost_end (results_none rfl _ _ _) rfl ?_;exact ⟨rfl,_,HF.out⟩
theorem rowP_app (a b:List (ActT × Value)):rowP (a ++ b) = rowP a ++ rowP b:=by simp [rowP]
theorem rowP_idx {ps:List (ActT × Value)} {q:Nat} {u:Value} (h:(rowP ps)[q]? = some u):∃ p,ps[q / 3]? = some p ∧ (actC p.1 p.2)[q % 3]? = some u:=by
 have hl:q < (rowP ps).length:=(List.getElem?_eq_some_iff.1 h).1
 rw [rowP_len] at hl
 have hq:q / 3 < ps.length:=by omega
 refine ⟨ps[q / 3],List.getElem?_eq_getElem hq,?_⟩
 have h3:q % 3 < (actC ps[q / 3].1 ps[q / 3].2).length:=by show q % 3 < 3;omega
 have h4:=rowP_at ps (q / 3) (q % 3) _ _ (List.getElem?_eq_getElem hq) (List.getElem?_eq_getElem h3)
 rw [show q / 3 * 3 + q % 3 = q by omega,h] at h4
 rw [List.getElem?_eq_getElem h3]
 exact h4.symm
theorem rowP_one {ps:List (ActT × Value)} (h:∀ p ∈ ps,isSl p.2 = true):∀ u ∈ rowP ps,u.oneCell' = true:=by
 intro u hu
 obtain ⟨q,hq⟩:=List.mem_iff_getElem?.1 hu
 obtain ⟨p,hp,hi⟩:=rowP_idx hq
 obtain ⟨ad,n,c,e⟩:=isSl_form (h p (List.mem_of_getElem? hp))
 rw [actC,e] at hi
 exact one_act _ _ _ _ _ u (List.mem_of_getElem? hi)
theorem build_a0 (f:Operand → Value) (o:Oper) (ho:o.op = .buildSlice 22 0 #[]) (w:World):(execOp f o).run Tryz.prog w = .ok (.value (.slice (some ⟨w.heap.size,0,none⟩) 0 0)) (w.alloc (.cells #[] 62)):=by
 unfold execOp
 rw [ho]
 kernel_rfl
theorem wpSeq_buildA0 {ops:Array Oper} {Q:Exit → Act → World → Prop} {rest:List Oper} {o:Oper} {a:Act} {w:World} (ho:o.op = .buildSlice 22 0 #[]) (hw:Region.wanted o (yielded ops a.tmps) = true)
 (h:∀ g w',w.heap.size ≤ g → w'.ownsRow w.heap.size 62 3 (.slice (some ⟨g,0,none⟩) 0 0) 0 [] → Below w.heap.size w w' → wpList Tryz.prog ops Q rest (a.put o.dst (.slice (some ⟨g,0,none⟩) 0 0)) w'):wpList Tryz.prog ops Q (o :: rest) a w:=
 wpSeq_val _ _ hw (build_a0 _ _ ho _) (h _ _ (Nat.le_refl _) ⟨rfl,Or.inr ⟨w.heap.size,0,#[],rfl,Nat.le_refl _,Blk.new w [] _,Nat.le_refl _,by unfold maxLen;omega,rfl,rfl⟩⟩ (below_alloc _ _))
theorem slCloneA_any {w:World} (v:Value) (ps:List (ActT × Value)) (hr:RdP w v ps) (hs:∀ p ∈ ps,isSl p.2 = true) (hl:ps.length < 1000000):Calls Tryz.prog 81 #[v] w fun e w' => ∃ v',e = .returned v' ∧ w'.ownsRow w.heap.size 62 3 v' ps.length (rowP ps) ∧ Below w.heap.size w w':=by
 obtain ⟨ad,cp,hv,hx⟩:=id hr
 obtain ⟨N,HN⟩:=sqn (ps.length)
 rw [← HN.out] at hv hl
 subst hv
 have HR:Hid (RdP w (.slice ad N cp) ps):=hr
 have HS:Hid (∀ u ∈ rowP ps,u.oneCell' = true):=rowP_one hs
 have HL:Hid (N < 1000000):=hl
 cases ad with
 | none =>
  have h0:ps = []:=by
   rcases Nat.eq_zero_or_pos ps.length with h | h
   · exact List.eq_nil_of_length_eq_zero h
   · obtain ⟨b,off,e,_⟩:=hx h
     cases e
  have HF:Hid (w.ownsRow w.heap.size 62 3 (.slice none 0 0) ps.length (rowP ps)):=by
   show World.ownsRow _ _ _ _ _ _ _;rw [h0];exact World.ownsRow_nil _ _ _ _
  clear hr hx hs hl h0
  have fe:(binOp .eql 22 (.slice none N cp) (.slice none 0 0)).run Tryz.prog w = .ok (.bool true) w:=by kernel_rfl
  go_enter Tryz.func81,Tryz.ntmps81
  go_wp2
  go_ret
  exact ⟨_,rfl,HF.out,Below.refl _ _⟩
 | some a =>
  have HRG:Hid (∀ q u,(rowP ps)[q]? = some u → w.cell? (a.add q) = some u):=fun q u hq => by
   obtain ⟨p,hp,hi⟩:=rowP_idx hq;obtain ⟨b,off,e,h⟩:=HR.out.at hp
   cases e
   have h2:=h _ _ hi;rw [Addr.add_mid];rw [show off + q / 3 * 3 + q % 3 = off + q by omega] at h2
   exact h2
  clear hr hx hs hl
  have fe:(binOp .eql 22 (.slice (some a) N cp) (.slice none 0 0)).run Tryz.prog w = .ok (.bool false) w:=by kernel_rfl
  go_enter Tryz.func81,Tryz.ntmps81
  obtain ⟨tk0,tk1⟩:=sqk2
  go_wp2_with (first
   | (clear tk0;with_reducible refine wpSeq_buildA0 ?_ ?_ ?_
      · rfl
      · rfl
      intro g5 y1 hg5 ow1 bl1;have HO:Hid (y1.ownsRow w.heap.size 62 3 (.slice (some ⟨g5,0,none⟩) 0 0) 0 []):=ow1;have HBL:Hid (Below w.heap.size w y1):=bl1
      have HRG1:Hid (∀ q u,(rowP ps)[q]? = some u → y1.cell? (a.add q) = some u):=fun q u hq => by
       have h2:=HRG.out q u hq;rw [bl1.cell (p:=a.add q) (block_lt_of_cell h2)];exact h2
      clear ow1 bl1 hg5)
   | (clear tk1;at_builtin
      obtain ⟨i0,hi,hz0,hz1,hz2⟩:=info_parts Tryz.infoact;refine wpList_append_own (P:=Tryz.prog) y1 rfl (.tmp 5) (.tmp 6) 22 rfl w.heap.size 62 i0 (.agg zA.toArray) 3 48 Tryz.underlying22 hi hz0 hz1 hz2 rfl (by decide) _ 0 [] rfl HO.out a N cp (rowP ps) rfl (by rw [rowP_len,HN.out]) HRG1.out HS.out (by unfold maxLen;have:=HL.out;omega) (by have:=HL.out;omega) HBL.out.size ?_
      intro v2 y2 ow2 gr2 _
      have HF:Hid (y2.ownsRow w.heap.size 62 3 v2 ps.length (rowP ps)):=by
       show World.ownsRow _ _ _ _ _ _ _;rw [Nat.zero_add,List.nil_append,HN.out] at ow2;exact ow2
      have HB2:Hid (Below w.heap.size w y2):=HBL.out.trans ((Below.refl _ _).grown gr2 HBL.out.size (fun k hk => (World.ownsRow.lt HO.out k hk).1))
      clear ow2 gr2 hi hz0 hz1 hz2))
  go_ret
  exact ⟨_,rfl,HF.out,HB2.out⟩
theorem OwnB.isSl {w:World} {base:Nat} {v:Value} {l:Bs} (h:OwnB w base v l):isSl v = true:=by
 obtain ⟨_,⟨rfl,_⟩ | ⟨g,cap,cur,rfl,_⟩⟩:=h
 · rfl
 · rfl
structure CpI (w:World) (g:Nat) (ps qs:List (ActT × Value)) (k:Nat) (tail:List Value) (W:World):Prop where
 blk:Blk W g (rowP (qs ++ ps.drop k) ++ tail) 62
 len:qs.length = k
 fst:qs.map (·.1) = (ps.take k).map (·.1)
 dat:∀ p ∈ qs,OwnB W w.heap.size p.2 p.1.data
 bel:Below w.heap.size w W
theorem OwnB.onlyA {w w':World} {base g:Nat} {v:Value} {l:Bs} {cs:List Value} (h:OwnB w base v l) (hb:Blk w g cs 62) (ho:Only g w w'):OwnB w' base v l:=
 h.sameS (fun k hk => ho.block k (fun e => by subst e;exact h.neA hb (by decide) hk) (h.ltS k hk).2)
theorem sCopies_any {w:World} (v:Value) (ps:List (ActT × Value)) (hr:RdP w v ps) (hs:∀ p ∈ ps,isSl p.2 = true) (hd:∀ p ∈ ps,Reads w p.2 p.1.data) (hb:∀ p ∈ ps,p.1.data.length ≤ 140737488355328) (hl:ps.length < 1000000):Calls Tryz.prog 55 #[v] w fun e w' => ∃ v' qs,e = .returned v' ∧ OwnA w' w.heap.size v' qs ∧ qs.map (·.1) = ps.map (·.1) ∧ Below w.heap.size w w':=by
 have hcl:=slCloneA_any v ps hr hs hl
 obtain ⟨N,HN⟩:=sqn (ps.length)
 have HCL:Hid (Calls Tryz.prog 81 #[v] w fun e w' => ∃ v',e = .returned v' ∧ w'.ownsRow w.heap.size 62 3 v' ps.length (rowP ps) ∧ Below w.heap.size w w'):=hcl
 have HD:Hid (∀ p ∈ ps,Reads w p.2 p.1.data ∧ p.1.data.length ≤ 140737488355328):=fun p hp => ⟨hd p hp,hb p hp⟩
 have HSL:Hid (∀ p ∈ ps,isSl p.2 = true):=hs
 have HNL:Hid (N < 1000000):=by show N < _;rw [HN.out];exact hl
 clear hcl hr hs hd hb hl
 go_enter Tryz.func55,Tryz.ntmps55
 have tk0:Hid True:=trivial
 go_wp2_with (first
  | (clear tk0;go_at_call 81;refine (HCL.out).mono ?_;rintro e0 y0 ⟨vc,rfl,ow0,bl0⟩
     obtain ⟨ad,cp,hvc⟩:∃ ad cp,vc = .slice ad N cp:=by
      obtain ⟨_,⟨rfl,h0⟩ | ⟨g,cap,cur,rfl,_⟩⟩:=ow0
      · exact ⟨none,0,by rw [HN.out,h0]⟩
      · exact ⟨_,_,by rw [HN.out]⟩
     subst hvc;have HOW:Hid (y0.ownsRow w.heap.size 62 3 (.slice ad N cp) ps.length (rowP ps)):=ow0;have HB0:Hid (Below w.heap.size w y0):=bl0;clear ow0 bl0))
 by_cases hz:N = 0
 · subst hz
   have HF:Hid (OwnA y0 w.heap.size (.slice ad 0 cp) [] ∧ ([]:List (ActT × Value)).map (·.1) = ps.map (·.1)):=by
    have e:ps = []:=List.eq_nil_of_length_eq_zero HN.out.symm;have h1:=HOW.out;rw [e] at h1 ⊢;exact ⟨⟨h1,fun p hp => by cases hp⟩,rfl⟩
   go_loopw [9] (fun i wr => i = .int .i64 0 ∧ wr = y0) (fun _ _ => 0)
   case atStart => exact ⟨rfl,rfl⟩
   case round =>
    obtain ⟨rfl,rfl⟩:=hrel;go_wp2;go_ret;exact ⟨_,rfl,[],HF.out.1,HF.out.2,HB0.out⟩
 · obtain ⟨g,tail,HG⟩:∃ g tail,Hid (ad = some ⟨g,0,none⟩ ∧ w.heap.size ≤ g ∧ Blk y0 g (rowP ps ++ tail) 62 ∧ N ≤ cp ∧ cp ≤ maxLen ∧ (rowP ps ++ tail).length = cp * 3):=by
    obtain ⟨h1,⟨e,h0⟩ | ⟨g,cap,cur,e,hg,hh,hc,hmx,hsz,ht⟩⟩:=HOW.out
    · exact absurd (by rw [HN.out];exact h0) hz
    · simp only [Value.slice.injEq] at e
      obtain ⟨rfl,_,rfl⟩:=e;have e2:rowP ps ++ cur.toList.drop (ps.length * 3) = cur.toList:=by rw [← ht];exact List.take_append_drop _ _
      refine ⟨g,cur.toList.drop (ps.length * 3),rfl,hg,?_,by rw [HN.out];exact hc,hmx,by rw [e2];simpa using hsz⟩
      rw [e2];exact hh
   obtain ⟨hga,hge,hblk,hnc,hcm,hlen⟩:=HG.out;subst hga;have HI0:Hid (CpI w g ps [] 0 tail y0):=⟨hblk,rfl,rfl,fun p hp => (by cases hp),HB0.out⟩
   have HGE:Hid (w.heap.size ≤ g):=hge;have HCP:Hid (N ≤ cp ∧ cp ≤ maxLen ∧ (rowP ps ++ tail).length = cp * 3):=⟨hnc,hcm,hlen⟩;clear hge hblk hnc hcm hlen HG HOW HB0
   go_loopw [9] (fun i wr => ∃ (k:Nat) (qs:List (ActT × Value)),k ≤ N ∧ i = .int .i64 (k:Int) ∧ CpI w g ps qs k tail wr) (fun i _ => N - (intOf i).toNat)
   case atStart => exact ⟨0,[],Nat.zero_le _,rfl,HI0.out⟩
   case round =>
    clear HI0;obtain ⟨k,qs,hkn,rfl,hI⟩:=hrel;have HI:Hid (CpI w g ps qs k tail wr):=hI
    by_cases hlt:k < N
    · obtain ⟨p,hp⟩:∃ p,ps[k]? = some p:=⟨_,List.getElem?_eq_getElem (by rw [← HN.out];exact hlt)⟩
      have hdr:ps.drop k = p :: ps.drop (k + 1):=by
       rw [List.drop_eq_getElem_cons (by rw [← HN.out];exact hlt)]
       congr 1
       rw [List.getElem?_eq_getElem (by rw [← HN.out];exact hlt)] at hp
       simpa using hp
      obtain ⟨hrd,hbd⟩:=HD.out p (List.mem_of_getElem? hp);have hbr:=hI.blk;rw [hdr,rowP_app] at hbr;obtain ⟨av,nv,cv,hvd⟩:=isSl_form (HSL.out p (List.mem_of_getElem? hp));obtain ⟨⟨ky,st,da⟩,vd⟩:=p;simp only at hvd;subst hvd;have hq3:(rowP qs).length = k * 3:=by rw [rowP_len,hI.len]
      have d2:wr.cell? ⟨g,k * 3 + 2,none⟩ = some (.slice av nv cv):=by
       rw [hbr.cell,List.append_assoc,List.getElem?_append_right (by omega),hq3,show k * 3 + 2 - k * 3 = 2 by omega]
       rfl
      have HBC:Hid (Calls Tryz.prog 64 #[.slice av nv cv] wr fun e w' => ∃ v',e = .returned v' ∧ OwnB w' wr.heap.size v' da ∧ Below wr.heap.size wr w'):=bclone_any _ _ _ (hrd.below hI.bel) hbd
      have HNX:Hid (∀ y z a n c,z = .slice a n c → OwnB y wr.heap.size z da → Below wr.heap.size wr y → Blk y g (rowP qs ++ (actC ⟨ky,st,da⟩ (.slice av nv cv) ++ rowP (ps.drop (k + 1))) ++ tail) 62 ∧ CpI w g ps (qs ++ [(⟨ky,st,da⟩,z)]) (k + 1) tail (y.setCell ⟨g,k * 3 + 2,none⟩ z)):=by
       intro y z a n c hz2 ow bl;have hby:Blk y g (rowP qs ++ (actC ⟨ky,st,da⟩ (.slice av nv cv) ++ rowP (ps.drop (k + 1))) ++ tail) 62:=hbr.below bl hbr.lt;have on:=Only.setCell (Only.refl g y) (k * 3 + 2) z;refine ⟨hby,⟨?_,by rw [List.length_append,hI.len];rfl,?_,?_,?_⟩⟩
       · have h7:=hby.set (k * 3 + 2) z
         have e7:(rowP qs ++ (actC ⟨ky,st,da⟩ (.slice av nv cv) ++ rowP (ps.drop (k + 1))) ++ tail).set (k * 3 + 2) z = rowP (qs ++ [(⟨ky,st,da⟩,z)] ++ ps.drop (k + 1)) ++ tail:=by
          rw [rowP_app,rowP_snoc,List.append_assoc,List.append_assoc,List.append_assoc,List.set_append_right _ _ (by omega),hq3,show k * 3 + 2 - k * 3 = 2 by omega,List.append_assoc]
          rfl
         rw [e7] at h7;exact h7
       · rw [List.map_append,hI.fst,List.take_add_one,hp,List.map_append];rfl
       · intro q hq
         rcases List.mem_append.1 hq with hq | hq
         · have h8:=hI.dat q hq
           exact (h8.below bl (Nat.le_refl _)).onlyA hby on
         · simp at hq
           rw [hq]
           have h8:OwnB y w.heap.size z da:=by
            obtain ⟨g1,⟨e9,g2⟩ | ⟨gg,cap,cur,e9,hg9,r9⟩⟩:=ow
            · exact ⟨g1,Or.inl ⟨e9,g2⟩⟩
            · exact ⟨g1,Or.inr ⟨gg,cap,cur,e9,Nat.le_trans hI.bel.size hg9,r9⟩⟩
           exact h8.onlyA hby on
       · exact (hI.bel.trans (bl.mono hI.bel.size)).trans (on.below HGE.out (Nat.le_trans hI.bel.size bl.size))
      have k0:(0:Int) ≤ (k:Int):=by omega
      have k3:(k:Int) < (N:Int):=by omega
      have f5:IntKind.i64.wrap ((k:Int) + 1) = (k:Int) + 1:=by have:=HNL.out;rw [IntKind.wrap_i64];omega
      clear hI hp hdr hrd hbd hbr hq3;obtain ⟨tk1,tk2,tk3⟩:=sqk3
      go_wp2_with (first
       | (clear tk1;with_reducible refine wpSeq_idxA (.tmp 14) (.tmp 15) g 0 N cp k hlt ?_ ?_ ?_ ?_ ?_
          · rfl
          · rfl
          · rfl
          · rfl
          rw [Nat.zero_add])
       | (clear tk2;go_at_call 64;refine (HBC.out).mono ?_;rintro e4 y4 ⟨v4,rfl,ow4,bl4⟩
          obtain ⟨a4,c4,hv4⟩:∃ a c,v4 = .slice a da.length c:=by obtain ⟨a,c,h,_⟩:=ow4.reads;exact ⟨a,c,h⟩
          obtain ⟨n4,HN4⟩:=sqn (da.length);rw [← HN4.out] at hv4;obtain ⟨hb4,hi4⟩:=HNX.out y4 v4 a4 n4 c4 hv4 ow4 bl4;subst hv4;have HI4:Hid (CpI w g ps (qs ++ [(⟨ky,st,da⟩,.slice a4 n4 c4)]) (k + 1) tail (y4.setCell ⟨g,k * 3 + 2,none⟩ (.slice a4 n4 c4))):=hi4;have hf4:=hb4.frozen (k * 3 + 2)
          have hc4:y4.cell? ⟨g,k * 3 + 2,none⟩ = some (.slice av nv cv):=by
           have h9:=d2;rw [← bl4.cell (p:=⟨g,k * 3 + 2,none⟩) (block_lt_of_cell h9)] at h9;exact h9
          clear ow4 bl4 hb4 hi4)
       | (clear tk3;with_reducible refine wpSeq_idxA (.tmp 12) (.tmp 13) g 0 N cp k hlt ?_ ?_ ?_ ?_ ?_
          · rfl
          · rfl
          · rfl
          · rfl
          rw [Nat.zero_add]))
      go_roundw
      case rel => exact ⟨k + 1,_,hlt,rfl,HI4.out⟩
      case measure => simp [intOf];omega
    · have hkk:k = N:=by omega
      subst hkk
      have HF:Hid (OwnA wr w.heap.size (.slice (some ⟨g,0,none⟩) k cp) qs ∧ qs.map (·.1) = ps.map (·.1) ∧ Below w.heap.size w wr):=by
       have hb:=hI.blk;rw [List.drop_eq_nil_of_le (by rw [← HN.out];exact Nat.le_refl _),List.append_nil] at hb
       have hql:qs.length = k:=hI.len;have hrl:(rowP qs).length = (rowP ps).length:=by rw [rowP_len,rowP_len,hql,HN.out]
       refine ⟨⟨⟨rowP_len qs,Or.inr ⟨g,cp,(rowP qs ++ tail).toArray,by rw [hql],HGE.out,hb,by rw [hql];exact HCP.out.1,HCP.out.2.1,?_,?_⟩⟩,hI.dat⟩,?_,hI.bel⟩
       · have h9:=HCP.out.2.2
         rw [List.size_toArray,List.length_append,hrl,← List.length_append];exact h9
       · rw [List.toList_toArray,← rowP_len,List.take_left]
       · rw [hI.fst,List.take_of_length_le (by rw [← HN.out];exact Nat.le_refl _)]
      clear hI;go_wp2;go_ret;exact ⟨_,rfl,qs,HF.out.1,HF.out.2.1,HF.out.2.2⟩
def Um (P Q:Nat → Prop) (g:Nat):Nat → Prop:=fun k => Un P Q k ∨ k = g
theorem DkIs.belowS {w w':World} {g:Nat} {P:Nat → Prop} {D:DkT} (h:DkIs w g P D) (hb:Below w.heap.size w w'):DkIs w' g P D:=by
 obtain ⟨gs,vw,fu,lf,hm,hP⟩:=h
 exact ⟨gs,vw,fu,lf,hm.below hb,hP⟩
structure StM (w:World) (gs gd lg gm n:Nat) (P Q:Nat → Prop) (V:Bs → Value) (m:KM) (D:DkT) (J:JnT):Prop where
 sb:Blk w gs [.pointer (some ⟨lg,0,none⟩),.map (some gm)] 99
 pk:Pk LgJ w gd lg P Q D J
 mp:MapM w gm n V m
 tx:∀ s t,getM m s = some t → Sta (Um P Q gm) w (fun W => Reads W (V s) t) ∧ t.length ≤ 1048576
 ns:¬ Un P Q gs
 nm:¬ Un P Q gm
theorem sGet_any {w:World} {gs gm n:Nat} {lv:Value} {V:Bs → Value} {m:KM} (hsb:Blk w gs [lv,.map (some gm)] 99) (hm:MapM w gm n V m) (htx:∀ s t,getM m s = some t → Reads w (V s) t ∧ t.length ≤ 1048576) (s:Bs) (hs:s.length ≤ 1000000) :
 Calls Tryz.prog 32 #[.pointer (some ⟨gs,0,none⟩),.string (strB s)] w fun e w' => ∃ v',e = .returned (.tuple #[v',.bool (getM m s).isSome]) ∧ OwnB w' w.heap.size v' ((getM m s).getD []) ∧ Below w.heap.size w w':=by
 have c1:w.cell? ⟨gs,1,none⟩ = some (.map (some gm)):=hsb.cell 1
 have hk:=hm.look hs
 obtain ⟨sk,HSK⟩:=sqn (strB s)
 rw [← HSK.out] at hk ⊢
 cases e:getM m s with
 | none =>
  rw [e] at hk
  simp only [Option.isSome_none,Bool.false_eq_true,if_false] at hk
  have HBC:Hid (Calls Tryz.prog 64 #[.slice none 0 0] w fun e w' => ∃ v',e = .returned v' ∧ OwnB w' w.heap.size v' [] ∧ Below w.heap.size w w'):=bclone_any _ [] w (reads_nil13 w) (by decide)
  clear hsb hm htx e hs
  go_enter Tryz.func32,Tryz.ntmps32
  go_wp2_with (first
   | (go_at_call 64;refine (HBC.out).mono ?_;rintro e4 y4 ⟨v4,rfl,ow4,bl4⟩
      have HO:Hid (OwnB y4 w.heap.size v4 [] ∧ Below w.heap.size w y4):=⟨ow4,bl4⟩;clear ow4 bl4))
  refine bodyPost_ret (results_tmp2 rfl _ _ _) rfl ?_
  exact ⟨v4,rfl,HO.out.1,HO.out.2⟩
 | some t =>
  rw [e] at hk
  simp only [Option.isSome_some,if_true] at hk
  obtain ⟨hrd,hle⟩:=htx s t e
  obtain ⟨av,nv,cv,hvs⟩:=isSl_form (hm.sl s (by rw [e];rfl))
  have HBC:Hid (Calls Tryz.prog 64 #[.slice av nv cv] w fun e w' => ∃ v',e = .returned v' ∧ OwnB w' w.heap.size v' t ∧ Below w.heap.size w w'):=by rw [← hvs];exact bclone_any _ t w hrd (Nat.le_trans hle (by decide))
  rw [hvs] at hk
  clear hsb hm htx e hs hrd hle hvs
  go_enter Tryz.func32,Tryz.ntmps32
  go_wp2_with (first
   | (go_at_call 64;refine (HBC.out).mono ?_;rintro e4 y4 ⟨v4,rfl,ow4,bl4⟩
      have HO:Hid (OwnB y4 w.heap.size v4 t ∧ Below w.heap.size w y4):=⟨ow4,bl4⟩;clear ow4 bl4))
  refine bodyPost_ret (results_tmp2 rfl _ _ _) rfl ?_
  exact ⟨v4,rfl,HO.out.1,HO.out.2⟩
theorem sLen_any {w:World} {gs gm n:Nat} {lv:Value} {V:Bs → Value} {m:KM} (hsb:Blk w gs [lv,.map (some gm)] 99) (hm:MapM w gm n V m):Calls Tryz.prog 36 #[.pointer (some ⟨gs,0,none⟩)] w fun e w' => e = .returned (.int .i64 (m.length:Int)) ∧ w' = w:=by
 have c1:w.cell? ⟨gs,1,none⟩ = some (.map (some gm)):=hsb.cell 1
 have hk:=fun ty => hm.len ty
 clear hsb hm
 go_enter Tryz.func36,Tryz.ntmps36
 go_wp2
 go_ret
 exact ⟨rfl,rfl⟩
theorem wpSeq_mkMap {ops:Array Oper} {Q:Exit → Act → World → Prop} {rest:List Oper} {o:Oper} {a:Act} {w:World} (V:Bs → Value) (ho:o.op = .makeMap 97 none) (hw:Region.wanted o (yielded ops a.tmps) = true)
 (h:∀ gm w',w.heap.size ≤ gm → MapM w' gm 0 V [] → Below w.heap.size w w' → wpList Tryz.prog ops Q rest (a.put o.dst (.map (some gm))) w'):wpList Tryz.prog ops Q (o :: rest) a w:=by
 refine wpSeq_val _ _ hw ?_ (h _ _ (Nat.le_refl _) (mapM_new w V) (below_alloc _ _))
 unfold execOp
 rw [ho]
 rfl
def nilV:Bs → Value:=fun _ => .slice none 0 0
theorem sLoad_empty {w:World} {gd:Nat} {P:Nat → Prop} {D:DkT} (hK:KOk w) (hd:DkIs w gd P D) (hw:D.wait.length ≤ 200) (hl:(dumpD D).length < 8000000) (h0:rdL14 (dumpD D) = []) :
 Calls Tryz.prog 61 #[.pointer (some ⟨gd,0,none⟩)] w fun e w' => ∃ gm,e = .returned (.tuple #[.map (some gm),.bool true]) ∧ MapM w' gm 0 nilV [] ∧ Below w.heap.size w w' ∧ w.heap.size ≤ gm:=by
 have HD:Hid (DkIs w gd P D ∧ D.wait.length ≤ 200 ∧ (dumpD D).length < 8000000 ∧ rdL14 (dumpD D) = [] ∧ KOk w):=⟨hd,hw,hl,h0,hK⟩
 clear hd hw hl h0 hK
 obtain ⟨gn,HGN⟩:=sqn ((rdG14 (dumpD D):Int))
 obtain ⟨xn,HXN⟩:=sqn (rdX14 (dumpD D))
 go_enter Tryz.func61,Tryz.ntmps61
 obtain ⟨tk0,tk1,tk2⟩:=sqk3
 go_wp2_with (first
  | (clear tk0;with_reducible refine wpSeq_mkMap nilV ?_ ?_ ?_
     · rfl
     · rfl
     intro gm y0 hg0 hm0 bl0;have HM:Hid (MapM y0 gm 0 nilV []):=hm0;have HB:Hid (Below w.heap.size w y0 ∧ w.heap.size ≤ gm):=⟨bl0,hg0⟩;clear hg0 hm0 bl0)
  | (clear tk1;go_at_call 25;refine (dkDump_b (HD.out.1.belowS HB.out.1) HD.out.2.1).mono ?_;rintro e1 y1 ⟨vd,rfl,hr1,bl1⟩
     have HR1:Hid (Reads y1 vd (dumpD D)):=hr1;replace HM:Hid (MapM y1 gm 0 nilV []):=HM.out.same (bl1.block gm HM.out.lt);replace HB:Hid (Below w.heap.size w y1 ∧ w.heap.size ≤ gm):=⟨HB.out.1.trans (bl1.mono HB.out.1.size),HB.out.2⟩;clear hr1 bl1)
  | (clear tk2;go_at_call 86;refine (jRead_any vd (dumpD D) HD.out.2.2.1 y1 (HD.out.2.2.2.2.below HB.out.1 HD.out.2.2.2.2.lt) HR1.out).mono ?_;rintro e2 y2 ⟨lv,rfl,hl2,bl2⟩
     rw [HD.out.2.2.2.1] at hl2;obtain ⟨al,cl,hlv⟩:∃ a c,lv = .slice a 0 c:=by obtain ⟨a,c,h,_⟩:=hl2;exact ⟨a,c,h⟩
     subst hlv;rw [← HGN.out,← HXN.out];replace HM:Hid (MapM y2 gm 0 nilV []):=HM.out.same (bl2.block gm HM.out.lt);replace HB:Hid (Below w.heap.size w y2 ∧ w.heap.size ≤ gm):=⟨HB.out.1.trans (bl2.mono HB.out.1.size),HB.out.2⟩;clear hl2 bl2 HR1))
 go_loopw [25] (fun i wr => i = .int .i64 0 ∧ wr = y2) (fun _ _ => 0)
 case atStart => exact ⟨rfl,rfl⟩
 case round =>
  obtain ⟨rfl,rfl⟩:=hrel
  go_wp2
  refine bodyPost_ret (results_tmp2 rfl _ _ _) rfl ?_
  exact ⟨gm,rfl,HM.out,HB.out.1,HB.out.2⟩
theorem dump_zero (m:Nat):dumpD (zeroD m) = List.replicate (64 * m) 0:=by rw [zeroD_load];exact dump_idle _
theorem rdl_zero (m:Nat):rdL14 (dumpD (zeroD m)) = []:=by
 unfold rdL14
 split
 · unfold readJ
   rw [dump_zero,pick_zero]
   rfl
 · rfl
theorem DkIs.ltS {w:World} {g:Nat} {P:Nat → Prop} {D:DkT} (h:DkIs w g P D):∀ k,P k → k < w.heap.size:=by
 obtain ⟨gs,vw,fu,lf,hm,hP⟩:=h
 subst hP
 exact hm.lt
theorem LgJ.ltS {w:World} {lg gd n:Nat} {Q:Nat → Prop} {J:JnT} (h:LgJ w lg Q gd n J):∀ k,Q k → k < w.heap.size:=by
 obtain ⟨vr,us,hm,hQ⟩:=h
 subst hQ
 exact hm.lt
theorem LgJ.sameS {w w':World} {lg gd n:Nat} {Q:Nat → Prop} {J:JnT} (h:LgJ w lg Q gd n J) (hs:w.heap.size ≤ w'.heap.size) (hq:∀ k,Q k → w'.heap[k]? = w.heap[k]?):LgJ w' lg Q gd n J:=by
 obtain ⟨vr,us,hm,hQ⟩:=h
 subst hQ
 exact ⟨vr,us,hm.same hs hq,rfl⟩
theorem Pk.belowS {w w':World} {gd lg:Nat} {P Q:Nat → Prop} {D:DkT} {J:JnT} (h:Pk LgJ w gd lg P Q D J) (hb:Below w.heap.size w w'):Pk LgJ w' gd lg P Q D J:=⟨h.dk.belowS hb,h.lg.sameS hb.size (fun k hk => hb.block k (h.lg.ltS k hk)),h.ap⟩
theorem StM.below {w w':World} {gs gd lg gm n:Nat} {P Q:Nat → Prop} {V:Bs → Value} {m:KM} {D:DkT} {J:JnT} (h:StM w gs gd lg gm n P Q V m D J) (hb:Below w.heap.size w w'):StM w' gs gd lg gm n P Q V m D J:=
 ⟨h.sb.below hb h.sb.lt,h.pk.belowS hb,h.mp.same (hb.block gm h.mp.lt),fun s t ht => ⟨(h.tx s t ht).1.below hb,(h.tx s t ht).2⟩,h.ns,h.nm⟩
theorem sOpen_zero {w:World} {gd:Nat} {P:Nat → Prop} (m:Nat) (hK:KOk w) (hd:DkIs w gd P (zeroD m)) (h8:8 ≤ m) (h9:m ≤ 100) :
 Calls Tryz.prog 28 #[.pointer (some ⟨gd,0,none⟩)] w fun e w' => ∃ gs lg gm P' Q,e = .returned (.tuple #[.pointer (some ⟨gs,0,none⟩),.int .i64 0]) ∧ StM w' gs gd lg gm 0 P' Q nilV [] (openD (zeroD m)) ⟨0,1,[]⟩ ∧ Mut P w w' ∧ Grew w P P' ∧ (∀ k,Q k → w.heap.size ≤ k) ∧ w.heap.size ≤ gs ∧ w.heap.size ≤ gm:=by
 obtain ⟨z1,z2,z3,z4⟩:=open_zero h8 (Nat.le_trans h9 (by decide))
 have HLD:Hid (Calls Tryz.prog 61 #[.pointer (some ⟨gd,0,none⟩)] w fun e w' => ∃ gm,e = .returned (.tuple #[.map (some gm),.bool true]) ∧ MapM w' gm 0 nilV [] ∧ Below w.heap.size w w' ∧ w.heap.size ≤ gm):=sLoad_empty hK hd (Nat.zero_le _) (by rw [dump_zero,List.length_replicate];omega) (rdl_zero m)
 have HOP:Hid (∀ W,KOk W → DkIs W gd P (zeroD m) → Calls Tryz.prog 63 #[.pointer (some ⟨gd,0,none⟩)] W fun e w' => ∃ P' lg Q,e = .returned (.tuple #[.pointer (some ⟨lg,0,none⟩),.int .i64 0]) ∧ Pk LgJ w' gd lg P' Q (openD (zeroD m)) ⟨0,1,[]⟩ ∧ Mut P W w' ∧ Grew W P P' ∧ ∀ k,Q k → W.heap.size ≤ k):=fun W hk hd2 => by
  have hn8:¬ sizeD (zeroD m) < 8:=by rw [size_zero];omega
  have hg:=openG_eq (D:=zeroD m) (by rw [dump_zero,pick_zero];decide)
  have hok:okD (zeroD m):=okD_zero (by omega) (by omega)
  refine (jOpen_any hk hd2 rfl (by rw [size_zero];omega) (by rw [size_zero];omega)).mono (fun e w' h => ?_)
  obtain ⟨P',lv,h1,h2⟩:=h
  rw [hg] at h1 h2
  have ex:(runJ (zeroD m) (openS (zeroD m)).1).2 = 0:=by have:=z1;rw [show openX (zeroD m) = (runJ (zeroD m) (openS (zeroD m)).1).2 from if_neg hn8] at this;exact this
  have ed:(runJ (zeroD m) (openS (zeroD m)).1).1 = openD (zeroD m):=(if_neg hn8).symm
  obtain ⟨lg,Q,e1,e2,e3⟩:=h2.lg ex
  rw [ex,e1] at h1
  have h3:=h2.dk
  rw [ed] at h3
  rw [z2] at e2
  have e4:LgJ w' lg Q gd (sizeD (openD (zeroD m))) ⟨0,1,[]⟩:=by rw [z4,← size_zero m];exact e2
  exact ⟨P',lg,Q,h1,⟨h3,e4,fun k hk => (e3 k hk).2⟩,h2.mv,h2.gr,fun k hk => (e3 k hk).1⟩
 have HD:Hid (DkIs w gd P (zeroD m) ∧ KOk w):=⟨hd,hK⟩
 clear hd hK z1 z2 z3 z4 h8 h9
 go_enter Tryz.func28,Tryz.ntmps28
 obtain ⟨tk0,tk1,tk2⟩:=sqk3
 go_wp2_with (first
  | (clear tk0;go_at_call 61;refine (HLD.out).mono ?_;rintro e0 y0 ⟨gm,rfl,hm0,bl0,hg0⟩
     have HM:Hid (MapM y0 gm 0 nilV [] ∧ Below w.heap.size w y0 ∧ w.heap.size ≤ gm):=⟨hm0,bl0,hg0⟩;clear hm0 bl0 hg0)
  | (clear tk1;go_at_call 63;refine (HOP.out y0 (HD.out.2.below HM.out.2.1 HD.out.2.lt) (HD.out.1.belowS HM.out.2.1)).mono ?_;rintro e1 y1 ⟨P1,lg,Q,rfl,hpk,mu1,gr1,hq1⟩
     have HPK:Hid (Pk LgJ y1 gd lg P1 Q (openD (zeroD m)) ⟨0,1,[]⟩):=hpk;have HNP:Hid (¬ P gm):=fun h => absurd (HD.out.1.ltS gm h) (by have:=HM.out.2.2;omega)
     have HM1:Hid (MapM y1 gm 0 nilV []):=HM.out.1.same (mu1.block gm HM.out.1.lt HNP.out);have HMU:Hid (Mut P w y1 ∧ Grew w P P1 ∧ ∀ k,Q k → y0.heap.size ≤ k):=⟨(mut_below HM.out.2.1 P).trans (fun _ _ h => h) mu1,(Grew.refl w P).trans HM.out.2.1.size gr1,hq1⟩
     have HNU:Hid (¬ Un P1 Q gm):=fun h => by
      rcases h with h | h
      · rcases gr1 gm h with h2 | h2
        · exact HNP.out h2
        · exact absurd HM.out.1.lt (by omega)
      · exact absurd HM.out.1.lt (by have:=hq1 gm h;omega)
     clear hpk mu1 gr1 hq1)
  | (clear tk2;with_reducible refine wpSeq_boxW 99 (.tmp 33) [.pointer (some ⟨lg,0,none⟩),.map (some gm)] ?_ ?_ ?_ ?_
     · rfl
     · rfl
     · rfl
     intro gs y2 nn
     have HF:Hid (StM y2 gs gd lg gm 0 P1 Q nilV [] (openD (zeroD m)) ⟨0,1,[]⟩):=⟨nn.blk,HPK.out.belowS nn.below,HM1.out.same (nn.below.block gm HM1.out.lt),fun s t h => (by cases h),fun h => by
      rcases h with h | h
      · exact absurd (HPK.out.dk.ltS gs h) (by have:=nn.ge;omega)
      · exact absurd (HPK.out.lg.ltS gs h) (by have:=nn.ge;omega),HNU.out⟩
     have HMU2:Hid (Mut P w y2 ∧ w.heap.size ≤ gs):=⟨HMU.out.1.trans (fun _ _ h => h) (mut_below nn.below P),Nat.le_trans HMU.out.1.size nn.ge⟩
     clear nn))
 refine bodyPost_ret (results_tmp2 rfl _ _ _) rfl ?_
 exact ⟨gs,lg,gm,P1,Q,rfl,HF.out,HMU2.out.1,HMU.out.2.1,fun k hk => Nat.le_trans HM.out.2.1.size (HMU.out.2.2 k hk),HMU2.out.2,HM.out.2.2⟩
theorem StM.lt {w:World} {gs gd lg gm n:Nat} {P Q:Nat → Prop} {V:Bs → Value} {m:KM} {D:DkT} {J:JnT} (h:StM w gs gd lg gm n P Q V m D J):∀ k,Un P Q k → k < w.heap.size:=fun k hk => hk.elim (h.pk.dk.ltS k) (h.pk.lg.ltS k)
theorem StM.ltM {w:World} {gs gd lg gm n:Nat} {P Q:Nat → Prop} {V:Bs → Value} {m:KM} {D:DkT} {J:JnT} (h:StM w gs gd lg gm n P Q V m D J):∀ k,Um P Q gm k → k < w.heap.size:=fun k hk => hk.elim (h.lt k) (fun e => by rw [e];exact h.mp.lt)
theorem StM.moved {w w':World} {gs gd lg gm n:Nat} {P Q P' Q':Nat → Prop} {V:Bs → Value} {m:KM} {D D':DkT} {J J':JnT} (h:StM w gs gd lg gm n P Q V m D J) (hm:Mut (Un P Q) w w') (hg:Grew w (Un P Q) (Un P' Q')) (hp:Pk LgJ w' gd lg P' Q' D' J'):StM w' gs gd lg gm n P' Q' V m D' J':=
 ⟨hm.blk h.sb h.ns,hp,h.mp.same (hm.block gm h.mp.lt h.nm),fun s t ht => ⟨(h.tx s t ht).1.go ⟨hm.os,hm.tape,hm.output,hm.size,fun k hk hn => hm.block k hk (fun hx => hn (Or.inl hx))⟩ (fun k hk hx => hx.elim (fun hx => Or.inl (hg.old k hk hx)) Or.inr),(h.tx s t ht).2⟩,fun hx => h.ns (hg.old gs h.sb.lt hx),fun hx => h.nm (hg.old gm h.mp.lt hx)⟩
theorem sRecord_fit {w:World} {gs gd lg gm n:Nat} {P Q:Nat → Prop} {V:Bs → Value} {m:KM} {D:DkT} {J:JnT} (h:StM w gs gd lg gm n P Q V m D J) (hK:KOk w) (hok:okJ D J) (v:Value) (l:List ActT) (hr:ReadsA w v l) (hz:okZ l) (hf:(batchB l).length ≤ roomZ J.l (sizeD D)) :
 Calls Tryz.prog 53 #[.pointer (some ⟨gs,0,none⟩),v] w fun e w' => e = .returned (.int .i64 (appX J D (batchB l))) ∧ ∃ P' Q',Mut (Un P Q) w w' ∧ Grew w (Un P Q) (Un P' Q') ∧ (appX J D (batchB l) ≠ 14 → StM w' gs gd lg gm n P' Q' V m (appD J D (batchB l)) (appJ J D (batchB l))):=by
 obtain ⟨nr,HNR⟩:=sqn (roomZ J.l (sizeD D))
 rw [← HNR.out] at hf
 have h4:Calls Tryz.prog 78 #[.pointer (some ⟨lg,0,none⟩)] w fun e w' => e = .returned (.int .i64 (nr:Int)) ∧ Below w.heap.size w w':=by
  obtain ⟨vr,us,hm,hQ⟩:=id h.pk.lg
  have h1:=hok.fit
  have h2:=hok.hi
  have h3:=sizeL_eq J.l
  unfold hsD at h1
  have h4:=jRoom_any hm.lb (by omega) (by omega)
  rw [show min 1048576 (64 * (sizeD D / 2 - (1 + secL J.l)) - 57) = nr from by rw [HNR.out,roomZ];omega] at h4
  exact h4
 have HRM:Hid (Calls Tryz.prog 78 #[.pointer (some ⟨lg,0,none⟩)] w fun e w' => e = .returned (.int .i64 (nr:Int)) ∧ Below w.heap.size w w'):=h4
 have hxl:(batchB l).length ≤ 100000:=by
  have h2:=hok.hi
  have h3:=HNR.out
  rw [roomZ] at h3
  omega
 obtain ⟨x,HX⟩:=sqn (batchB l)
 have HWI:Hid (∀ W,ReadsA W v l → Calls Tryz.prog 46 #[v,.int .i64 (nr:Int)] W fun e w' => ∃ vb,e = .returned (.tuple #[vb,.bool true]) ∧ OwnB w' W.heap.size vb x ∧ Below W.heap.size W w'):=fun W hr => by
  refine (sWithin_any v l (nr:Int) W hr hz).mono (fun e w' h => ?_)
  obtain ⟨vb,e1,e2,e3⟩:=h
  have hle:((batchB l).length:Int) ≤ (nr:Int):=by omega
  rw [decide_eq_true hle] at e1
  rw [HX.out]
  exact ⟨vb,e1,e2 hle,e3⟩
 rw [← HX.out] at hxl ⊢
 obtain ⟨ex,HEX⟩:=sqn (appX J D x)
 have HAP:Hid (∀ W vb,StM W gs gd lg gm n P Q V m D J → KOk W → Sta (Un P Q) W (fun X => Reads X vb x) → Calls Tryz.prog 79 #[.pointer (some ⟨lg,0,none⟩),vb] W fun e w' => e = .returned (.int .i64 ex) ∧ ∃ P' Q',Mut (Un P Q) W w' ∧ Grew W (Un P Q) (Un P' Q') ∧ (ex ≠ 14 → StM w' gs gd lg gm n P' Q' V m (appD J D x) (appJ J D x))):=fun W vb hs hk hb => by
  refine (jAppend_any vb x hk hs.pk hok hxl hb).mono (fun e w' h => ?_)
  obtain ⟨h1,P',Q',h2,h3,h4,h5⟩:=h
  rw [← HEX.out] at h1 h5
  exact ⟨h1,P',Q',h3,h4,fun he => hs.moved h3 h4 (h5 he)⟩
 rw [← HEX.out]
 have HS:Hid (StM w gs gd lg gm n P Q V m D J):=h
 have HR:Hid (ReadsA w v l ∧ KOk w):=⟨hr,hK⟩
 have c0:w.cell? ⟨gs,0,none⟩ = some (.pointer (some ⟨lg,0,none⟩)):=h.sb.cell 0
 clear h hK hok hr hz hf h4 hxl
 go_enter Tryz.func53,Tryz.ntmps53
 obtain ⟨tk0,tk1,tk2⟩:=sqk3
 go_wp2_with (first
  | (clear tk0;go_at_call 78;refine (HRM.out).mono ?_;rintro e0 y0 ⟨rfl,bl0⟩
     have HS0:Hid (StM y0 gs gd lg gm n P Q V m D J):=HS.out.below bl0;have HB0:Hid (Below w.heap.size w y0):=bl0;clear bl0)
  | (clear tk1;go_at_call 46;refine (HWI.out y0 (HR.out.1.below HB0.out)).mono ?_;rintro e1 y1 ⟨vb,rfl,ow1,bl1⟩
     have HST:Hid (Sta (Un P Q) y1 (fun X => Reads X vb x)):=ow1.st (fun k hk => HS0.out.lt k hk)
     have HS1:Hid (StM y1 gs gd lg gm n P Q V m D J):=HS0.out.below bl1;have HB1:Hid (Below w.heap.size w y1):=HB0.out.trans (bl1.mono HB0.out.size);have c1:y1.cell? ⟨gs,0,none⟩ = some (.pointer (some ⟨lg,0,none⟩)):=HS1.out.sb.cell 0;clear ow1 bl1)
  | (clear tk2;go_at_call 79;refine (HAP.out y1 vb HS1.out (HR.out.2.below HB1.out HR.out.2.lt) HST.out).mono ?_;rintro e2 y2 ⟨rfl,P',Q',mu,gr,hs2⟩
     have HF:Hid (Mut (Un P Q) w y2 ∧ Grew w (Un P Q) (Un P' Q') ∧ (ex ≠ 14 → StM y2 gs gd lg gm n P' Q' V m (appD J D x) (appJ J D x))):=⟨(mut_below HB1.out _).trans (fun _ _ h => h) mu,fun k hk => (gr k hk).elim Or.inl (fun h => Or.inr (Nat.le_trans HB1.out.size h)),hs2⟩
     clear mu gr hs2))
 go_ret
 exact ⟨rfl,P',Q',HF.out⟩
theorem OwnA.rdp {W:World} {base:Nat} {v:Value} {ps:List (ActT × Value)} (h:OwnA W base v ps):RdP W v ps:=by
 obtain ⟨h1,h2⟩:=id h.row
 rcases h2 with ⟨rfl,h0⟩ | ⟨g,cap,cur,rfl,hg,hh,hc,hm,hs,ht⟩
 · exact ⟨none,0,by rw [h0],fun h => absurd h (by omega)⟩
 · refine ⟨_,cap,rfl,fun _ => ⟨g,0,rfl,fun j p hp i u hu => ?_⟩⟩
   have hr:=rowP_at ps j i p u hp hu;have hi:j * 3 + i < (rowP ps).length:=(List.getElem?_eq_some_iff.1 hr).1;rw [rowP_len] at hi;rw [cell_of_row W g (0 + j * 3 + i) cur _ (0,0) hh,Nat.zero_add];rw [← ht,List.getElem?_take_of_lt hi] at hr
   simpa using hr
theorem RdP.below {w w':World} {v:Value} {ps:List (ActT × Value)} (h:RdP w v ps) (hb:Below w.heap.size w w'):RdP w' v ps:=by
 obtain ⟨ad,cap,h1,h2⟩:=h
 refine ⟨ad,cap,h1,fun hp => ?_⟩
 obtain ⟨b,off,h3,h4⟩:=h2 hp
 exact ⟨b,off,h3,fun j p hj => range_below (h4 j p hj) hb (block_lt_of_cell (h4 j p hj 0 _ rfl))⟩
theorem StM.done {w w':World} {gs gd lg gm n n':Nat} {P Q:Nat → Prop} {V V':Bs → Value} {m m':KM} {D:DkT} {J:JnT} (h:StM w gs gd lg gm n P Q V m D J) (hd:DoS w gm n' (fun v t => Sta (Um P Q gm) w (fun W => Reads W v t) ∧ t.length ≤ 1048576) m' V' w'):StM w' gs gd lg gm n' P Q V' m' D J:=by
 have hne:¬ gs = gm:=fun e => h.mp.ne h.sb e.symm
 refine ⟨hd.mu.blk h.sb hne,⟨h.pk.dk.same14 (fun k hk => hd.mu.block k (h.pk.dk.ltS k hk) (fun e => h.nm (by rw [← e];exact Or.inl hk))),h.pk.lg.sameS hd.mu.size (fun k hk => hd.mu.block k (h.pk.lg.ltS k hk) (fun e => h.nm (by rw [← e];exact Or.inr hk))),h.pk.ap⟩,hd.mp,fun s t ht => ?_,h.ns,h.nm⟩
 obtain ⟨h1,h2⟩:=hd.kk s t ht
 exact ⟨h1.go ⟨hd.mu.os,hd.mu.tape,hd.mu.output,hd.mu.size,fun k hk hn => hd.mu.block k hk (fun e => hn (Or.inr e))⟩ (fun _ _ h => h),h2⟩
theorem sApply_ok {w:World} {gs gd lg gm n:Nat} {P Q:Nat → Prop} {V:Bs → Value} {m:KM} {D:DkT} {J:JnT} (h:StM w gs gd lg gm n P Q V m D J) (hK:KOk w) (hok:okJ D J) (v:Value) (ps:List (ActT × Value)) (hst:Sta (Un P Q) w (fun W => RdP W v ps ∧ (∀ p ∈ ps,Reads W p.2 p.1.data) ∧ ReadsA W v (ps.map (·.1)))) (hsl:∀ p ∈ ps,isSl p.2 = true ∧ p.1.key.length ≤ 1000000 ∧ p.1.data.length ≤ 1048576) (hz:okZ (ps.map (·.1))) (hck:chkL (ps.map (·.1)) = 0) (h0:ps ≠ []) (hf:(batchB (ps.map (·.1))).length ≤ roomZ J.l (sizeD D)) (hx:appX J D (batchB (ps.map (·.1))) = 0) (hn:n + ps.length < 10000000) (hpl:ps.length < 1000000) :
 Calls Tryz.prog 23 #[.pointer (some ⟨gs,0,none⟩),v] w fun e w' => e = .returned (.int .i64 0) ∧ ∃ P' Q' V',StM w' gs gd lg gm (n + ps.length) P' Q' V' (doneM m (ps.map (·.1))) (appD J D (batchB (ps.map (·.1)))) (appJ J D (batchB (ps.map (·.1)))) ∧ Mut (Um P Q gm) w w' ∧ Grew w (Un P Q) (Un P' Q'):=by
 obtain ⟨l,HL⟩:=sqn (ps.map (·.1))
 rw [← HL.out] at hst hz hck hf hx ⊢
 obtain ⟨D',HD'⟩:∃ x,Hid (x = appD J D (batchB l)):=⟨_,rfl⟩
 obtain ⟨J',HJ'⟩:∃ x,Hid (x = appJ J D (batchB l)):=⟨_,rfl⟩
 have HRC:Hid (∀ W,Below w.heap.size w W → Calls Tryz.prog 53 #[.pointer (some ⟨gs,0,none⟩),v] W fun e w' => e = .returned (.int .i64 0) ∧ ∃ P' Q',Mut (Un P Q) W w' ∧ Grew W (Un P Q) (Un P' Q') ∧ StM w' gs gd lg gm n P' Q' V m D' J'):=fun W hb => by
  refine (sRecord_fit (h.below hb) (hK.below hb hK.lt) hok v l (hst.now.2.2.below hb) hz hf).mono (fun e w' h => ?_)
  obtain ⟨h1,P',Q',h2,h3,h4⟩:=h
  rw [hx] at h1 h4
  rw [HD'.out,HJ'.out]
  exact ⟨h1,P',Q',h2,h3,h4 (by decide)⟩
 rw [← HD'.out,← HJ'.out]
 have hcc:=sCheck_any v l w hst.now.2.2 (by have:=hz.n;omega)
 rw [hck] at hcc
 have HCK:Hid (Calls Tryz.prog 11 #[v] w fun e w' => e = .returned (.int .i64 0) ∧ Below w.heap.size w w'):=hcc
 obtain ⟨N,HN⟩:=sqn (ps.length)
 obtain ⟨ad,cp,hv⟩:=hst.now.1.form
 rw [← HN.out] at hv
 subst hv
 have fz:¬ ((N:Int) = 0):=by
  have h1:0 < ps.length:=List.length_pos_iff.2 h0
  have h2:=HN.out
  omega
 have HCP:Hid (∀ W,RdP W (.slice ad N cp) ps → (∀ p ∈ ps,Reads W p.2 p.1.data) → Calls Tryz.prog 55 #[.slice ad N cp] W fun e w' => ∃ v' qs,e = .returned v' ∧ OwnA w' W.heap.size v' qs ∧ qs.map (·.1) = l ∧ Below W.heap.size W w'):=fun W h1 h2 => by
  rw [HL.out]
  exact sCopies_any _ ps h1 (fun p hp => (hsl p hp).1) h2 (fun p hp => Nat.le_trans (hsl p hp).2.2 (by decide)) hpl
 have HQS:Hid (∀ qs:List (ActT × Value),qs.map (·.1) = l → qs.length = N ∧ ∀ q ∈ qs,q.1.key.length ≤ 1000000 ∧ q.1.data.length ≤ 1048576):=fun qs hq => by
  rw [HL.out] at hq
  have hle:(qs.map (·.1)).length = (ps.map (·.1)).length:=by rw [hq]
  rw [List.length_map,List.length_map] at hle
  refine ⟨by rw [HN.out,hle],fun q hqm => ?_⟩
  have h1:q.1 ∈ ps.map (·.1):=by rw [← hq];exact List.mem_map_of_mem hqm
  obtain ⟨p,hp,e⟩:=List.mem_map.1 h1
  rw [← e]
  exact (hsl p hp).2
 have HST:Hid (Sta (Un P Q) w (fun W => RdP W (.slice ad N cp) ps ∧ (∀ p ∈ ps,Reads W p.2 p.1.data) ∧ ReadsA W (.slice ad N cp) l)):=hst
 have HNN:Hid (n + N < 10000000):=by show _ < _;rw [HN.out];exact hn
 have HNM:Hid (¬ gs = gm):=fun e => h.mp.ne h.sb e.symm
 rw [← HN.out]
 clear h hK hok hst hsl hz hck h0 hf hx hn hpl hcc
 go_enter Tryz.func23,Tryz.ntmps23
 obtain ⟨tk0,tk1⟩:=sqk2
 go_upto_region 7 with (first
  | (clear tk0;go_at_call 11;refine (HCK.out).mono ?_;rintro e0 y0 ⟨rfl,bl0⟩
     have HB0:Hid (Below w.heap.size w y0):=bl0;clear bl0)
  | (clear tk1;go_at_call 53;refine (HRC.out y0 HB0.out).mono ?_;rintro e1 y1 ⟨rfl,P',Q',mu1,gr1,hs1⟩
     have HS:Hid (StM y1 gs gd lg gm n P' Q' V m D' J'):=hs1;have HMU:Hid (Mut (Un P Q) w y1 ∧ Grew w (Un P Q) (Un P' Q')):=⟨(mut_below HB0.out _).trans (fun _ _ h => h) mu1,fun k hk => (gr1 k hk).elim Or.inl (fun h => Or.inr (Nat.le_trans HB0.out.size h))⟩
     clear mu1 gr1 hs1))
 have HS1:Hid (StM y1.drew gs gd lg gm n P' Q' V m D' J'):=HS.out.below (Below.refl _ _).drew
 have HX1:Hid (RdP y1.drew (.slice ad N cp) ps ∧ ∀ p ∈ ps,Reads y1.drew p.2 p.1.data):=⟨(HST.out.at HMU.out.1.drew).1,(HST.out.at HMU.out.1.drew).2.1⟩
 refine wp_region_held_drew (S:=fun wx => Blk wx gs [.pointer (some ⟨lg,0,none⟩),.map (some gm)] 99) (by kernel_rfl) HS.out.sb.drew ?_
 intro hS
 refine tkc 0 (.pointer (some ⟨gs,0,none⟩)) rfl hS ?_
 simp only [Act.put,sq]
 refine tkc 1 (.pointer (some ⟨gs,0,none⟩)) rfl hS ?_
 simp only [Act.put,sq]
 refine tkc 2 (.pointer (some ⟨gs,1,none⟩)) rfl hS ?_
 simp only [Act.put,sq]
 refine tka 3 (.map (some gm)) rfl (fun wx hx => by (have c0:wx.cell? ⟨gs,1,none⟩ = some (.map (some gm)):=hx.cell 1;simp [go_sem,c0])) hS ?_
 simp only [Act.put,sq]
 refine tkc 4 (.slice ad N cp) rfl hS ?_
 simp only [Act.put,sq]
 refine wpAnyH_enter 5 (by kernel_rfl) rfl (by rfl) (f:=55) (args:=#[.slice ad N cp]) (by simp [go_sem]) (HCP.out _ HX1.out.1 HX1.out.2) ?_
 rintro e2 y2 ⟨v2,qs,rfl,ow2,hq2,bl2⟩
 have hS2:=HS1.out.below bl2
 refine ⟨_,rfl,hS2.sb,?_⟩
 simp only [Act.put,sq]
 obtain ⟨hqn,hqz⟩:=HQS.out qs hq2
 have hdo:=sDo_any (fun v t => Sta (Um P' Q' gm) y2 (fun W => Reads W v t) ∧ t.length ≤ 1048576) hS2.mp hS2.tx v2 qs ow2.rdp (fun q hq => ⟨(hqz q hq).1,(ow2.dat q hq).isSl,fun _ => ⟨(ow2.dat q hq).st (fun k hk => HS1.out.ltM k hk),(hqz q hq).2⟩⟩) (by rw [hqn];exact HNN.out)
 refine wpAnyH_enter 6 (by kernel_rfl) rfl (by rfl) (f:=54) (args:=#[.map (some gm),v2]) (by simp [go_sem]) hdo ?_
 rintro e3 y3 ⟨rfl,V',hI⟩
 rw [hq2,hqn] at hI
 have hS3:=hS2.done hI
 refine ⟨_,rfl,hS3.sb,?_⟩
 simp only [Act.put,sq]
 have HF:Hid (StM y3 gs gd lg gm (n + N) P' Q' V' (doneM m l) D' J' ∧ Mut (Um P Q gm) w y3 ∧ Grew w (Un P Q) (Un P' Q')):=by
  refine ⟨hS3,?_,HMU.out.2⟩
  have m1:Mut (Um P Q gm) w y1.drew:=⟨HMU.out.1.os,HMU.out.1.tape,HMU.out.1.output,HMU.out.1.size,fun k hk hn => HMU.out.1.block k hk (fun hx => hn (Or.inl hx))⟩
  exact (m1.trans (fun _ _ h => h) (mut_below bl2 _)).trans (fun _ _ h => Or.inr h) hI.mu
 clear hS hS2 hS3 hI hdo ow2 hq2 bl2 hqn hqz
 refine wpAnyH_done (by kernel_rfl) ?_ _
 go_wp2
 go_ret
 exact ⟨rfl,P',Q',V',HF.out⟩
theorem staA {w:World} {g:Nat} {P:Nat → Prop} {ps:List (ActT × Value)} (hb:Blk w g (rowP ps) 62) (hg:¬ P g) (hd:∀ p ∈ ps,Sta P w (fun W => Reads W p.2 p.1.data)):Sta P w (fun W => RdP W (.slice (some ⟨g,0,none⟩) ps.length ps.length) ps ∧ (∀ p ∈ ps,Reads W p.2 p.1.data) ∧ ReadsA W (.slice (some ⟨g,0,none⟩) ps.length ps.length) (ps.map (·.1))):=fun W m => by
 have hb2:=m.blk hb hg
 have hrg:∀ (j:Nat) (p:ActT × Value),ps[j]? = some p → W.rangeAt g (0 + j * 3) (actC p.1 p.2):=fun j p hp i u hu => by
  rw [hb2.cell,Nat.zero_add]
  exact rowP_at ps j i p u hp hu
 refine ⟨⟨_,_,rfl,fun _ => ⟨g,0,rfl,hrg⟩⟩,fun p hp => (hd p hp).at m,⟨_,ps.length,by rw [List.length_map],by rw [List.length_map];exact Nat.le_refl _,(fun e => by cases e),fun _ => ⟨g,0,rfl,fun j hj => ?_⟩⟩⟩
 rw [List.length_map] at hj
 obtain ⟨p,hp⟩:∃ p,ps[j]? = some p:=⟨ps[j],List.getElem?_eq_getElem hj⟩
 have e:(ps.map (·.1)).getD j ⟨[],false,[]⟩ = p.1:=by rw [List.getD_eq_getElem?_getD,List.getElem?_map,hp];rfl
 rw [e]
 exact ⟨p.2,hrg j p hp,(hd p (List.mem_of_getElem? hp)).at m⟩
def wkA:List ActT:=[⟨[97],true,[120]⟩,⟨[98],false,[]⟩]
def wkP (g:Nat):List (ActT × Value):=[(⟨[97],true,[120]⟩,.slice (some ⟨g,0,none⟩) 1 1),(⟨[98],false,[]⟩,.slice none 0 0)]
theorem wkP_fst (g:Nat):(wkP g).map (·.1) = wkA:=rfl
def wkC (g:Nat):List Value:=[.string ⟨#[97]⟩,.bool true,.slice (some ⟨g,0,none⟩) 1 1,.string ⟨#[98]⟩,.bool false,.slice none 0 0]
theorem wk_batch:batchB wkA = [2,1,97,1,1,120,1,98,0]:=by
 simp [batchB,wkA,encList,encAll,encA,encText,encNum_lt]
theorem wk_chk:chkL wkA = 0:=by decide
theorem wk_done:doneM [] wkA = [([97],[120])]:=by decide
theorem wk_okZ:okZ wkA:=⟨by decide,by rw [wk_batch];decide,by decide⟩
theorem wk_plain:appX jn0 (openD (zeroD 8)) (batchB wkA) = 0 ∧ okJ (openD (zeroD 8)) jn0 ∧ (batchB wkA).length ≤ roomZ jn0.l (sizeD (openD (zeroD 8))):=by
 obtain ⟨z1,z2,z3,z4⟩:=open_zero (m:=8) (by decide) (by decide)
 rw [wk_batch]
 have he:appE jn0 (openD (zeroD 8)) [2,1,97,1,1,120,1,98,0] = 0:=by
  rw [app_ref,z4]
  exact ⟨by decide,by decide⟩
 obtain ⟨a1,a2,a3,a4⟩:=Log.app (J:=jn0) z3 he
 exact ⟨a1,Log.okJ (J:=jn0) z3 (by rw [z4];decide) (by rw [z4];decide) (by decide),by rw [z4];decide⟩
theorem build_a2 (f:Operand → Value) (o:Oper) (x y:Operand) (g:Nat) (hx:f x = .agg #[.string ⟨#[97]⟩,.bool true,.slice (some ⟨g,0,none⟩) 1 1]) (hy:f y = .agg #[.string ⟨#[98]⟩,.bool false,.slice none 0 0]) (ho:o.op = .buildSlice 22 2 #[(0,x),(1,y)]) (w:World):(execOp f o).run Tryz.prog w = .ok (.value (.slice (some ⟨w.heap.size,0,none⟩) 2 2)) (w.alloc (.cells (wkC g).toArray 62)):=by
 unfold execOp
 rw [ho]
 simp only [List.map_toArray,List.map_cons,List.map_nil,hx,hy]
 kernel_rfl
theorem wpSeq_buildA2 {ops:Array Oper} {Q:Exit → Act → World → Prop} {rest:List Oper} {o:Oper} {a:Act} {w:World} (x y:Operand) (g:Nat) (hx:a.eval x = .agg #[.string ⟨#[97]⟩,.bool true,.slice (some ⟨g,0,none⟩) 1 1]) (hy:a.eval y = .agg #[.string ⟨#[98]⟩,.bool false,.slice none 0 0]) (ho:o.op = .buildSlice 22 2 #[(0,x),(1,y)]) (hw:Region.wanted o (yielded ops a.tmps) = true)
 (h:∀ g2 w',NewR (wkC g) 62 w g2 w' → wpList Tryz.prog ops Q rest (a.put o.dst (.slice (some ⟨g2,0,none⟩) 2 2)) w'):wpList Tryz.prog ops Q (o :: rest) a w:=
 wpSeq_val _ _ hw (build_a2 _ o x y g hx hy ho w) (h _ _ (NewR.of _ _ w))
theorem build_b1 (f:Operand → Value) (o:Oper) (ho:o.op = .build 62 #[(0,.const (.string ⟨#[98]⟩))]) (hf:f (.const (.string ⟨#[98]⟩)) = .string ⟨#[98]⟩) (w:World):(execOp f o).run Tryz.prog w = .ok (.value (.agg #[.string ⟨#[98]⟩,.bool false,.slice none 0 0])) w:=by
 unfold execOp
 rw [ho]
 simp only [List.map_toArray,List.map_cons,List.map_nil,hf]
 kernel_rfl
theorem wpSeq_buildB1 {ops:Array Oper} {Q:Exit → Act → World → Prop} {rest:List Oper} {o:Oper} {a:Act} {w:World} (ho:o.op = .build 62 #[(0,.const (.string ⟨#[98]⟩))]) (hw:Region.wanted o (yielded ops a.tmps) = true)
 (h:wpList Tryz.prog ops Q rest (a.put o.dst (.agg #[.string ⟨#[98]⟩,.bool false,.slice none 0 0])) w):wpList Tryz.prog ops Q (o :: rest) a w:=
 wpSeq_val _ _ hw (build_b1 _ o ho rfl w) h
theorem str120:strB [120] = ⟨#[120]⟩:=by rfl
theorem works15_any (w:World) (hK:KOk w):Calls Tryz.prog 10 #[] w fun e w' => e = .returned (.bool true) ∧ Below w.heap.size w w':=by
 obtain ⟨p1,p2,p3⟩:=wk_plain
 obtain ⟨D0,HD0⟩:=sqn (openD (zeroD 8))
 rw [← HD0.out] at p1 p2 p3
 obtain ⟨D1,HD1⟩:=sqn (appD jn0 D0 (batchB wkA))
 obtain ⟨J1,HJ1⟩:=sqn (appJ jn0 D0 (batchB wkA))
 obtain ⟨m1,HM1⟩:=sqn (doneM [] wkA)
 have HNW:Hid (Calls Tryz.prog 35 #[.int .i64 8] w fun r w' => ∃ g gs,r = .returned (.tuple #[.pointer (some ⟨g,0,none⟩),.int .i64 0]) ∧ DkM w' g gs (.slice none 0 0) false 0 (zeroD 8) ∧ Below w.heap.size w w' ∧ w.heap.size ≤ g ∧ w.heap.size ≤ gs):=dkNew_m w 8 (by decide) (by decide)
 have HOP:Hid (∀ (W:World) (gd:Nat) (P:Nat → Prop),KOk W → DkIs W gd P (zeroD 8) → Calls Tryz.prog 28 #[.pointer (some ⟨gd,0,none⟩)] W fun e w' => ∃ gs lg gm P' Q,e = .returned (.tuple #[.pointer (some ⟨gs,0,none⟩),.int .i64 0]) ∧ StM w' gs gd lg gm 0 P' Q nilV [] D0 jn0 ∧ Mut P W w' ∧ Grew W P P' ∧ (∀ k,Q k → W.heap.size ≤ k) ∧ W.heap.size ≤ gs ∧ W.heap.size ≤ gm):=fun W gd P hk hd => by
  rw [HD0.out]
  exact sOpen_zero 8 hk hd (by decide) (by decide)
 have HAP:Hid (∀ (W:World) (gs gd lg gm g gy:Nat) (P Q:Nat → Prop),StM W gs gd lg gm 0 P Q nilV [] D0 jn0 → KOk W → Blk W g (wkC gy) 62 → ¬ Un P Q g → Sta (Un P Q) W (fun X => Reads X (.slice (some ⟨gy,0,none⟩) 1 1) [120]) → Calls Tryz.prog 23 #[.pointer (some ⟨gs,0,none⟩),.slice (some ⟨g,0,none⟩) 2 2] W fun e w' => e = .returned (.int .i64 0) ∧ ∃ P' Q' V',StM w' gs gd lg gm 2 P' Q' V' m1 D1 J1 ∧ Mut (Um P Q gm) W w'):=fun W gs gd lg gm g gy P Q hs hk hb hg hy => by
  have hst:Sta (Un P Q) W (fun W => RdP W (.slice (some ⟨g,0,none⟩) 2 2) (wkP gy) ∧ (∀ p ∈ wkP gy,Reads W p.2 p.1.data) ∧ ReadsA W (.slice (some ⟨g,0,none⟩) 2 2) ((wkP gy).map (·.1))):=staA (ps:=wkP gy) hb hg (fun p hp => by
   simp only [wkP,List.mem_cons,List.not_mem_nil,or_false] at hp
   rcases hp with rfl | rfl
   · exact hy
   · exact Sta.nil _ _)
  refine (sApply_ok hs hk p2 _ (wkP gy) hst (fun p hp => ?_) wk_okZ wk_chk (by simp [wkP]) p3 p1 (show 0 + 2 < 10000000 by decide) (show 2 < 1000000 by decide)).mono (fun e w' h => ?_)
  · simp only [wkP,List.mem_cons,List.not_mem_nil,or_false] at hp
    rcases hp with rfl | rfl
    · exact ⟨rfl,show 1 ≤ 1000000 by decide,show 1 ≤ 1048576 by decide⟩
    · exact ⟨rfl,show 1 ≤ 1000000 by decide,show 0 ≤ 1048576 by decide⟩
  · obtain ⟨h1,P',Q',V',h2,h3,_⟩:=h
    rw [wkP_fst,← HM1.out,← HD1.out,← HJ1.out] at h2;exact ⟨h1,P',Q',V',h2,h3⟩
 have g1:getM m1 [97] = some [120]:=by rw [HM1.out,wk_done];decide
 have g2:getM m1 [98] = none:=by rw [HM1.out,wk_done];decide
 have g3:m1.length = 1:=by rw [HM1.out,wk_done];rfl
 have HGA:Hid (∀ (W:World) (gs gd lg gm n:Nat) (P Q:Nat → Prop) (V:Bs → Value),StM W gs gd lg gm n P Q V m1 D1 J1 → Calls Tryz.prog 32 #[.pointer (some ⟨gs,0,none⟩),.string ⟨#[97]⟩] W fun e w' => ∃ v',e = .returned (.tuple #[v',.bool true]) ∧ Reads w' v' [120] ∧ Below W.heap.size W w'):=fun W gs gd lg gm n P Q V h => by
  have h1:=sGet_any h.sb h.mp (fun s t ht => ⟨(h.tx s t ht).1.now,(h.tx s t ht).2⟩) [97] (by decide)
  rw [g1] at h1
  refine h1.mono (fun e w' h => ?_)
  obtain ⟨v',h2,h3,h4⟩:=h
  exact ⟨v',h2,h3.reads,h4⟩
 have HGB:Hid (∀ (W:World) (gs gd lg gm n:Nat) (P Q:Nat → Prop) (V:Bs → Value),StM W gs gd lg gm n P Q V m1 D1 J1 → Calls Tryz.prog 32 #[.pointer (some ⟨gs,0,none⟩),.string ⟨#[98]⟩] W fun e w' => ∃ v',e = .returned (.tuple #[v',.bool false]) ∧ Below W.heap.size W w'):=fun W gs gd lg gm n P Q V h => by
  have h1:=sGet_any h.sb h.mp (fun s t ht => ⟨(h.tx s t ht).1.now,(h.tx s t ht).2⟩) [98] (by decide)
  rw [g2] at h1
  refine h1.mono (fun e w' h => ?_)
  obtain ⟨v',h2,h3,h4⟩:=h
  exact ⟨v',h2,h4⟩
 have HLN:Hid (∀ (W:World) (gs gd lg gm n:Nat) (P Q:Nat → Prop) (V:Bs → Value),StM W gs gd lg gm n P Q V m1 D1 J1 → Calls Tryz.prog 36 #[.pointer (some ⟨gs,0,none⟩)] W fun e w' => e = .returned (.int .i64 1) ∧ w' = W):=fun W gs gd lg gm n P Q V h => by
  have h1:=sLen_any h.sb h.mp
  rw [g3] at h1
  exact h1
 have HK0:Hid (KOk w):=hK
 clear p1 p2 p3 g1 g2 g3 hK
 go_enter Tryz.func10,Tryz.ntmps10
 obtain ⟨tk0,tk1,tk2,tk3,tk4,tk5,tk6,tk7,tk8⟩:=sqk9
 go_wp2_with (first
  | (clear tk0;go_at_call 35;refine (HNW.out).mono ?_;rintro e0 y1 ⟨gd,gs0,rfl,hm,hb,hg1,hg2⟩
     have HDK:Hid (DkIs y1 gd (dkP gd gs0 (.slice none 0 0)) (zeroD 8)):=⟨gs0,_,_,_,hm,rfl⟩
     have HPW:Hid (∀ k,dkP gd gs0 (.slice none 0 0) k → w.heap.size ≤ k):=fun k hk => by
      rcases hk with rfl | rfl | hk
      · exact hg1
      · exact hg2
      · cases hk
     have HBW:Hid (Below w.heap.size w y1):=hb;clear hm hb hg1 hg2 HNW)
  | (clear tk1;go_at_call 28;refine (HOP.out _ _ _ (HK0.out.below HBW.out HK0.out.lt) HDK.out).mono ?_;rintro e0 y2 ⟨gs,lg,gm,P2,Q2,rfl,hs2,hm2,hg2,hq2,hgs,hgm⟩
     have HS:Hid (StM y2 gs gd lg gm 0 P2 Q2 nilV [] D0 jn0):=hs2
     have HUN:Hid (∀ k,Um P2 Q2 gm k → w.heap.size ≤ k):=fun k hk => by
      rcases hk with (h | h) | rfl
      · exact (hg2 k h).elim (HPW.out k) (fun h => Nat.le_trans HBW.out.size h)
      · exact Nat.le_trans HBW.out.size (hq2 k h)
      · exact Nat.le_trans HBW.out.size hgm
     replace HBW:Hid (Below w.heap.size w y2):=HBW.out.trans (hm2.below HBW.out.size HPW.out);clear hs2 hm2 hg2 hq2 hgs hgm HOP HDK HPW)
  | (clear tk2;with_reducible refine wpSeq_constN (.tmp 31) y2 120 _ rfl ?_ ?_ ?_ ?_
     · rfl
     · rfl
     · rfl
     intro gy y3 hge hst hz;have HRY:Hid (Sta (Un P2 Q2) y3 (fun X => Reads X (.slice (some ⟨gy,0,none⟩) 1 1) [120])):=hst _ (fun h => absurd (HS.out.lt gy h) (by omega))
     replace HS:Hid (StM y3 gs gd lg gm 0 P2 Q2 nilV [] D0 jn0):=HS.out.below hz;replace HBW:=sqt HBW hz;clear hge hst hz)
  | (clear tk3;with_reducible refine wpSeq_buildB1 ?_ ?_ ?_
     · rfl
     · rfl)
  | (clear tk4;with_reducible refine wpSeq_buildA2 (.tmp 33) (.tmp 34) gy ?_ ?_ ?_ ?_ ?_
     · rfl
     · rfl
     · rfl
     · rfl
     intro ga y4 nn;have HRA:Hid (Blk y4 ga (wkC gy) 62 ∧ ¬ Un P2 Q2 ga):=⟨nn.blk,fun h => absurd (HS.out.lt ga h) (by have:=nn.ge;omega)⟩
     replace HRY:Hid (Sta (Un P2 Q2) y4 (fun X => Reads X (.slice (some ⟨gy,0,none⟩) 1 1) [120])):=HRY.out.below nn.below
     replace HS:Hid (StM y4 gs gd lg gm 0 P2 Q2 nilV [] D0 jn0):=HS.out.below nn.below;replace HBW:Hid (Below w.heap.size w y4):=HBW.out.trans (nn.below.mono HBW.out.size);clear nn)
  | (clear tk5;go_at_call 23;refine (HAP.out _ _ _ _ _ _ _ _ _ HS.out (HK0.out.below HBW.out HK0.out.lt) HRA.out.1 HRA.out.2 HRY.out).mono ?_;rintro e0 y5 ⟨rfl,P5,Q5,V5,hs5,hm5⟩
     have HS5:Hid (StM y5 gs gd lg gm 2 P5 Q5 V5 m1 D1 J1):=hs5;replace HBW:Hid (Below w.heap.size w y5):=HBW.out.trans (hm5.below HBW.out.size HUN.out);clear hs5 hm5 HS HRA HRY HUN)
  | (clear tk6;go_at_call 32;refine (HGA.out _ _ _ _ _ _ _ _ _ HS5.out).mono ?_;rintro e0 y6 ⟨v6,rfl,hr6,bl6⟩
     have HR6:Hid (Reads y6 v6 [120]):=hr6;have HS6:Hid (StM y6 gs gd lg gm 2 P5 Q5 V5 m1 D1 J1):=HS5.out.below bl6;replace HBW:=sqt HBW bl6;clear hr6 bl6 HS5)
  | (clear tk7;go_at_call 32;refine (HGB.out _ _ _ _ _ _ _ _ _ HS6.out).mono ?_;rintro e0 y7 ⟨v7,rfl,bl7⟩
     have hc7:=conv_reads (HR6.out.below bl7);rw [str120] at hc7;have HS7:Hid (StM y7 gs gd lg gm 2 P5 Q5 V5 m1 D1 J1):=HS6.out.below bl7;replace HBW:=sqt HBW bl7;clear bl7 HS6 HR6)
  | (clear tk8;go_at_call 36;refine (HLN.out _ _ _ _ _ _ _ _ _ HS7.out).mono ?_;rintro e0 y8 ⟨rfl,hz⟩
     subst hz;clear HS7))
 go_ret
 exact ⟨rfl,HBW.out⟩
end Go.Proofs.YtheincjkoefalaaGreatDoor

/- Texts that the proof leans on, one behind the other: The walks of journal's number, readNumber, sectors, recordSectors, padded, Head, Text, Record, Check, blank, room, as they landed; bytes.HasPrefix and bytes.Clone (layer 14). The walks of journal's begun and first, as they landed (layer 14). The walks of journal's look and Read, as they landed (layer 14). .. -/
import Derived.Test.YtheincjkoefalaaGreatDoorMzb
import Derived.Lib.AppendZerosOnto
import Derived.Deep.Cut
import Derived.Deep.RegionHeld
import Derived.RangeFuncNested
import Derived.RangeFuncFrom
import Derived.OrdersIn
import Derived.TacticsIn
import Derived.RangeFuncBound
import Derived.RangeFuncCalls
import Derived.RangeFuncLeaves
import Derived.Shelf.Abstract
import Derived.TacticsInMore
import Derived.Lib.SlBytesConst
import Derived.Deep.CutRange
set_option maxRecDepth 100000
set_option maxHeartbeats 16000000
namespace Go.Proofs.YtheincjkoefalaaGreatDoor
open Go.RowKit
theorem OwnB.zero9 (w:World) (base g:Nat) (hg:base ≤ g) (h:Blk w g [] 5):OwnB w base (.slice (some ⟨g,0,none⟩) 0 0) []:=
 ⟨by simp [cb],Or.inr ⟨g,0,#[],rfl,hg,h,Nat.le_refl _,by unfold maxLen;omega,rfl,rfl⟩⟩
theorem bclone_any (v:Value) (l:List (BitVec 8)) (w:World) (h:Reads w v l) (hl:l.length ≤ 140737488355328) :
 Calls Tryz.prog 64 #[v] w fun e w' => ∃ v',e = .returned v' ∧ OwnB w' w.heap.size v' l ∧ Below w.heap.size w w':=by
 have HR:Hid (Reads w v l):=h
 have HL:Hid (l.length ≤ 140737488355328):=hl
 obtain ⟨ad,cap,rfl,_,hn,hx⟩:=h
 cases ad with
 | none =>
  have h0:l = []:=by
   cases l with
   | nil => rfl
   | cons b r => obtain ⟨b,off,h1,_⟩:=hx (by simp);cases h1
  subst h0
  have:=hn rfl
  subst this
  clear hx hn hl
  have hnil:∀ (a:Option Addr) (n c:Nat) (w:World),(binOp .eql 23 (.slice a n c) (.slice none 0 0)).run Tryz.prog w = .ok (.bool a.isNone) w:=fun a n c w => Lib.run_eql_slice_nil w 23 5 a n c 0 0 Tryz.underlying23
  go_enter Tryz.func64,Tryz.ntmps64
  go_wp2
  go_ret
  exact ⟨_,rfl,OwnB.nil _ _,Below.refl _ _⟩
 | some ad =>
  clear hx hn hl
  obtain ⟨m,HM⟩:=sqn (l.length)
  rw [← HM.out] at HR ⊢
  have HB:=below_alloc w (.cells ([]:List Value).toArray 5)
  have HO:Hid (OwnB (w.alloc (.cells ([]:List Value).toArray 5)) w.heap.size (.slice (some ⟨w.heap.size,0,none⟩) 0 0) []):=OwnB.zero9 _ _ _ (Nat.le_refl _) (Blk.new w [] 5)
  have HR1:Hid (Reads (w.alloc (.cells ([]:List Value).toArray 5)) (.slice (some ad) m cap) l):=HR.out.below HB
  have HBB:Hid (Below w.heap.size w (w.alloc (.cells ([]:List Value).toArray 5))):=HB
  clear HB
  have hnil:∀ (a:Option Addr) (n c:Nat) (w:World),(binOp .eql 23 (.slice a n c) (.slice none 0 0)).run Tryz.prog w = .ok (.bool a.isNone) w:=fun a n c w => Lib.run_eql_slice_nil w 23 5 a n c 0 0 Tryz.underlying23
  go_enter Tryz.func64,Tryz.ntmps64
  go_wp2_with (at_builtin;refine wpList_appendB rfl (.tmp 5) (.tmp 6) rfl w.heap.size _ [] rfl HO.out _ l rfl HR1.out (by have:=HL.out;simp;omega) HBB.out.size ?_;intro v2 w2 hown2 hb2 _)
  have hB2:=HBB.out.trans hb2
  go_wp2
  go_ret
  exact ⟨_,rfl,hown2,hB2⟩
theorem bEqual_any (va vb:Value) (a b:List (BitVec 8)) (w:World) (ha:Reads w va a) (hb:Reads w vb b):Calls Tryz.prog 153 #[va,vb] w fun e w' => e = .returned (.bool (decide (a = b))) ∧ Below w.heap.size w w':=by
 have hca:=conv_reads ha
 have hcb:=conv_reads hb
 obtain ⟨aa,na,ca,hva⟩:=ha.form
 subst hva
 obtain ⟨ab,nb,cbb,hvb⟩:=hb.form
 subst hvb
 have hne:=strB_inj a b
 clear ha hb
 generalize decide (a = b) = o at *
 go_enter Tryz.func153,Tryz.ntmps153
 go_wp2
 go_ret
 exact ⟨rfl,Below.refl _ _⟩
theorem cdigest_any (base:Nat) (v:Value) (l d:List (BitVec 8)) (hd:d.length = 32) (w:World) (hown:OwnB w base v l) (hb:base ≤ w.heap.size) (hl:l.length + 32 ≤ 140737488355328) :
 Calls Tryz.prog 123 #[v,.agg (cb d).toArray] w fun e w' => ∃ v',e = .returned v' ∧ OwnB w' base v' (l ++ d) ∧ Below base w w':=by
 have HO:Hid (OwnB w base v l):=hown
 have HD:Hid (d.length = 32):=hd
 have HL:Hid (l.length + 32 ≤ 140737488355328):=hl
 have HB:Hid (base ≤ w.heap.size):=hb
 have hs:=slice_dig_at w.heap.size 0
 clear hown hd hl hb
 have b0:=below_alloc w (.cells (cb d).toArray 155)
 have HR:Hid (Reads (w.alloc (.cells (cb d).toArray 155)) (.slice (some ⟨w.heap.size,0,none⟩) 32 32) d):=(Blk.new w (cb d) 155).reads HD.out.symm (by rw [HD.out];omega)
 have HO1:Hid (OwnB (w.alloc (.cells (cb d).toArray 155)) base v l):=HO.out.below b0 (Nat.le_refl _)
 have HB1:Hid (Below base w (w.alloc (.cells (cb d).toArray 155))):=b0.mono HB.out
 have HS1:Hid (base ≤ (w.alloc (.cells (cb d).toArray 155)).heap.size):=Nat.le_trans HB.out b0.size
 clear b0
 go_enter Tryz.func123,Tryz.ntmps123
 go_wp2_with (at_builtin;refine wpList_appendB rfl (.tmp 5) (.tmp 6) rfl base _ l rfl HO1.out _ d rfl HR.out (by have:=HL.out;have:=HD.out;omega) HS1.out ?_;intro v2 w2 hown2 hb2 _)
 have hB2:=HB1.out.trans hb2
 go_wp2
 go_ret
 exact ⟨_,rfl,hown2,hB2⟩
theorem replicate_cells (n:Nat):(Builtin.zeroCells #[Value.int .u8 0] n) = (cb (List.replicate n 0)).toArray:=by
 apply Array.ext
 · simp [Builtin.zeroCells,cb]
 · intro i h1 h2
   simp [Builtin.zeroCells,cb,Nat.mod_one]
theorem run_append_noughts (w:World) (base:Nat) (ty:TypeId) (v:Value) (l:Bs) (k:Nat) (hown:OwnB w base v l) (hne:l ≠ []) (hl:l.length + k ≤ 100000000) (hbase:base ≤ w.heap.size) :
 ∃ v' w',(Builtin.append_ #[23,3] ty #[v,.int .i64 (k:Int)]).run Tryz.prog w = .ok v' w' ∧ OwnB w' base v' (l ++ List.replicate k 0) ∧ w.grownBy w' v.ownBlock:=by
 obtain ⟨i0,hi,hz0,hz1,hz2⟩:=info_parts Tryz.infob
 have hlen:(cb (l ++ List.replicate k 0)).length = (l.length + k) * 1:=by rw [cb_len,List.length_append,List.length_replicate,Nat.mul_one]
 have hL:(l ++ List.replicate k 0).length = l.length + k:=by rw [List.length_append,List.length_replicate]
 have hint:Tryz.prog.underlying 3 = some (.int .i64):=Tryz.underlying3
 obtain ⟨h1,h2⟩:=id hown
 rcases h2 with ⟨rfl,h0⟩ | ⟨g,cap,cur,rfl,hbg,hg,hnc,hcm,hcs,htake⟩
 · exact absurd (List.eq_nil_of_length_eq_zero h0) hne
 by_cases hk0:k = 0
 · subst hk0
   refine ⟨.slice (some ⟨g,0,none⟩) l.length cap,w,?_,by rw [List.replicate_zero,List.append_nil];exact hown,⟨rfl,rfl,rfl,Nat.le_refl _,fun _ _ _ => rfl⟩⟩
   have hw:IntKind.i64.wrap 0 = 0:=by decide
   simp [Builtin.append_,run_underlying Tryz.underlying23,run_underlying hint,sizeOf,typeInfo,hi,asInt,asIntOf,hw,hnc,storeCells]
 · by_cases hroom:l.length + k ≤ cap
   · have hw:IntKind.i64.wrap (k:Int) = k:=by rw [IntKind.wrap_i64];omega
     have hneg:¬ ((k:Int) < 0):=by omega
     have h48i:¬ (281474976710656 < (k:Int) * (i0.bytes:Int)):=by rw [hz2];omega
     have hns:¬ (k * i0.size = 0):=by rw [hz1];omega
     have hfit:l.length * 1 + (cb (List.replicate k 0)).length ≤ cur.size:=by rw [cb_len,List.length_replicate,hcs];omega
     have hst:=run_storeCells_at Tryz.prog g (l.length * 1) 5 (cb (List.replicate k 0)) 0 cur w hg (by simpa using hfit) (cb_one _)
     simp only [Nat.add_zero] at hst;refine ⟨.slice (some ⟨g,0,none⟩) (l.length + k) cap,w.setRow g (cur.toList.take (l.length * 1) ++ cb (List.replicate k 0) ++ cur.toList.drop (l.length * 1 + (cb (List.replicate k 0)).length)).toArray,?_,?_,⟨rfl,rfl,rfl,by simp,fun k2 _ hk => setRow_other w g k2 _ (fun e => hk (by simp [Value.ownBlock,e]))⟩⟩
     · have hzc:(zeroValue 5).run Tryz.prog w = .ok (.int .u8 0) w:=by simp [zeroValue,typeInfo,hi,hz0]
       have hz1':i0.size = 1:=hz1;simp [Builtin.append_,run_underlying Tryz.underlying23,run_underlying hint,sizeOf,typeInfo,zeroValue,hi,hz0,asInt,asIntOf,hw,hneg,h48i,hroom,Addr.add_lit,hz1',Value.cells,replicate_cells,hk0] at hst ⊢;rw [hst]
       rfl
     · refine ⟨by rw [hL];exact hlen,Or.inr ⟨g,cap,_,by rw [hL],hbg,setRow_heap w g cur _ 5 _ hg,by rw [hL];exact hroom,hcm,?_,?_⟩⟩
       · simp only [List.size_toArray,List.length_append,List.length_take,List.length_drop,Array.length_toList]
         omega
       · rw [htake,hL,← hlen]
         have e:cb l ++ cb (List.replicate k 0) = cb (l ++ List.replicate k 0):=by simp [cb]
         rw [e];exact List.take_left
   · have holds:∀ j u,(cb l)[j]? = some u → w.cell? ((⟨g,0,none⟩:Addr).add j) = some u:=hown.cells (g:=g) rfl
     have hold:(Builtin.firstCells i0.size l.length (.slice (some ⟨g,0,none⟩) l.length cap)).run Tryz.prog w.drew = .ok (cb l).toArray w.drew:=by
      rw [hz1];exact run_firstCells_some (P:=Tryz.prog) w.drew 1 l.length ⟨g,0,none⟩ l.length cap (cb l) (by rw [cb_len];omega) holds
     have hr:=Go.Lib.run_append_grow_zeros (P:=Tryz.prog) w 23 3 ty 5 i0 (.int .u8 0) .i64 .i64 Tryz.underlying23 hint hi hz0 (some ⟨g,0,none⟩) l.length cap (cb l) hold k (by omega) (by rw [hz1];decide) (by omega) (by omega) (by rw [hz2];omega) (growslice_fits (by omega) (by rw [hz2];omega))
     have hge:=grownCap_ge w (l.length + k) cap 5;have hcm2:grownCap w (l.length + k) cap 5 ≤ maxLen:=grownCap_le_maxLen w (l.length + k) cap 5 (by unfold maxLen;omega)
     refine ⟨_,_,hr,?_,⟨rfl,rfl,rfl,by simp,fun k2 hk2 _ => Go.heap_alloc_old w.drew _ hk2⟩⟩
     refine ⟨by rw [hL];exact hlen,Or.inr ⟨w.heap.size,_,_,by rw [hL],hbase,heap_alloc_new w.drew _,by rw [hL];exact hge,hcm2,?_,?_⟩⟩
     · simp only [Array.size_append,List.size_toArray,size_zeroCells,cb_len,Value.cells]
       show l.length + k * 1 + (grownCap w (l.length + k) cap 5 - (l.length + k)) * 1 = _;omega
     · have e:(cb l).toArray ++ Builtin.zeroCells (Value.int .u8 0).cells k = (cb (l ++ List.replicate k 0)).toArray:=by
        show (cb l).toArray ++ Builtin.zeroCells #[Value.int .u8 0] k = _;rw [replicate_cells];simp [cb]
       rw [e,hL,← hlen];simp only [Array.toList_append];exact List.take_left
theorem wpSeq_noughts {ops:Array Oper} {Q:Exit → Act → World → Prop} {rest:List Oper} {o:Oper} {a:Act} {w:World} (s x:Operand) (base:Nat) (v:Value) (l:Bs) (k:Nat) (hown:OwnB w base v l) (hne:l ≠ []) (hl:l.length + k ≤ 100000000) (hbase:base ≤ w.heap.size)
 (ho:o.op = .call { callee:=.builtin .append,args:=#[s,x],argTypes:=#[23,3] }) (hs:a.eval s = v) (hx:a.eval x = .int .i64 (k:Int)) (hgd:o.guard = none)
 (h:∀ v' w',OwnB w' base v' (l ++ List.replicate k 0) → w.grownBy w' v.ownBlock → Below base w w' → wpList Tryz.prog ops Q rest (a.put o.dst v') w'):wpList Tryz.prog ops Q (o :: rest) a w:=by
 obtain ⟨v',w',hr,h2,h3⟩:=run_append_noughts w base o.type v l k hown hne hl hbase
 exact Go.Lib.wpList_append_run w hgd s x 23 3 ho v _ hs hx v' w' hr (h v' w' h2 h3 ((Below.refl _ _).grown h3 hbase (fun k hk => hown.own k hk)))
theorem own_of_blkJ {w:World} {base g k c:Nat} {z:List (BitVec 8)} (h:Blk w g (cb z) 5) (hb:base ≤ g) (hz:z.length = c) (hk:k ≤ c) (hc:c < 281474976710600):OwnB w base (.slice (some ⟨g,0,none⟩) k c) (z.take k):=by
 have hl:(z.take k).length = k:=by rw [List.length_take];omega
 have e:(cb z).take k = cb (z.take k):=by simp [cb]
 refine ⟨by rw [cb_len,Nat.mul_one],Or.inr ⟨g,c,(cb z).toArray,by rw [hl],hb,h,by rw [hl];exact hk,by unfold maxLen;omega,by simp [cb_len,hz],by rw [hl,Nat.mul_one,← e]⟩⟩
theorem tl8_succ (n k:Nat):tl8 n (k + 1) = tl8 n k ++ [BitVec.ofNat 8 (n / 2 ^ (56 - 8 * k))]:=by simp [tl8,List.range_succ]
theorem jNumber_own (base:Nat) (v:Value) (l:Bs) (n:Nat) (hn:n < 18446744073709551616) (w:World) (hown:OwnB w base v l) (hb:base ≤ w.heap.size) (hl:l.length ≤ 100000000) :
 Calls Tryz.prog 126 #[v,.int .u64 (n:Int)] w fun e w' => ∃ v',e = .returned v' ∧ OwnB w' base v' (l ++ num8 n) ∧ Below base w w':=by
 have HO:Hid (OwnB w base v l):=hown
 have HL:Hid (l.length ≤ 100000000):=hl
 have HB:Hid (base ≤ w.heap.size):=hb
 have HN:Hid (n < 18446744073709551616):=hn
 clear hown hl hb hn
 go_enter Tryz.func126,Tryz.ntmps126
 go_wp2
 go_loopw [0,5] (fun u i wr => ∃ k:Nat,k ≤ 8 ∧ i = .int .i64 ((k:Int) - 1) ∧ OwnB wr base u (l ++ tl8 n (8 - k)) ∧ Below base w wr) (fun _ i _ => (intOf i + 1).toNat)
 case atStart => exact ⟨8,by omega,by simp,by simpa [tl8] using HO.out,Below.refl _ _⟩
 case round =>
  obtain ⟨k,hk,rfl,hI,hB⟩:=hrel
  have HI:Hid (OwnB wr base u0 (l ++ tl8 n (8 - k))):=hI
  have HBB:Hid (Below base w wr):=hB
  have HS:Hid (base ≤ wr.heap.size):=Nat.le_trans HB.out hB.size
  clear hI hB
  cases k with
  | zero =>
   have hge:¬ ((0:Int) ≤ ((0:Nat):Int) - 1):=by omega
   go_wp2;go_ret;exact ⟨_,rfl,HI.out,HBB.out⟩
  | succ m =>
   have e1:(((m + 1:Nat):Int) - 1) = (m:Int):=by omega
   rw [e1];have hge:(0:Int) ≤ (m:Int):=by omega
   have e8:IntKind.i64.wrap (8 * (m:Int)) = ((8 * m:Nat):Int):=by rw [IntKind.wrap_i64];omega
   have e9:IntKind.i64.wrap ((m:Int) - 1) = (m:Int) - 1:=by rw [IntKind.wrap_i64];omega
   have hx:n / 2 ^ (8 * m) < 18446744073709551616:=Nat.lt_of_le_of_lt (Nat.div_le_self _ _) HN.out;have HX:Hid (56 - 8 * (8 - (m + 1)) = 8 * m):=by show _ = _;omega
   have HT:Hid (l ++ tl8 n (8 - m) = (l ++ tl8 n (8 - (m + 1))) ++ [BitVec.ofNat 8 (n / 2 ^ (8 * m))]):=by
    show _ = _;rw [show 8 - m = (8 - (m + 1)) + 1 by omega,tl8_succ,HX.out,List.append_assoc]
   have HLT:Hid ((l ++ tl8 n (8 - (m + 1))).length ≤ 100000008):=by
    show _ ≤ _;have:=HL.out;rw [List.length_append,tl8,List.length_map,List.length_range];omega
   clear e1 HX
   go_wp2_with (at_builtin;refine wpList_appendB rfl (.tmp 10) (.tmp 16) rfl base _ (l ++ tl8 n (8 - (m + 1))) rfl (HI.out.below ((Below.refl _ _).alloc (Nat.le_refl _) _) (Nat.le_refl _)) _ [BitVec.ofNat 8 (n / 2 ^ (8 * m))] rfl (reads_val wr _ _ ?_) (by have:=HLT.out;simp only [List.length_singleton];omega) (by have:=HS.out;simp;omega) ?_;(rw [BitVec.toNat_ofNat,Int.natCast_emod,Int.natCast_ediv,Int.natCast_pow];rfl);intro v2 w2 hown2 hb2 _)
   have hJ:OwnB w2 base v2 (l ++ tl8 n (8 - m)):=by rw [HT.out];exact hown2
   have hJB:Below base w w2:=HBB.out.trans (((Below.refl _ _).alloc HS.out _).trans hb2);have HJ:Hid (OwnB w2 base v2 (l ++ tl8 n (8 - m)) ∧ Below base w w2):=⟨hJ,hJB⟩;clear hown2 hb2 HI hJ hJB hx HT;go_wp2;go_roundw
   case rel => exact ⟨m,by omega,rfl,HJ.out.1,HJ.out.2⟩
   case measure => simp [intOf]
theorem or_byte (a y:Nat) (ha:a < 18446744073709551616) (hy:y < 256) (hd:a % 256 = 0):bits .or .u64 (a:Int) (y:Int) = ((a + y:Nat):Int):=by
 have e:(BitVec.ofInt 64 (a:Int) ||| BitVec.ofInt 64 (y:Int)).toNat = a + y:=by
  rw [BitVec.ofInt_natCast,BitVec.ofInt_natCast,BitVec.toNat_or,BitVec.toNat_ofNat,BitVec.toNat_ofNat,Nat.mod_eq_of_lt (by omega:a < 2 ^ 64),Nat.mod_eq_of_lt (by omega:y < 2 ^ 64)]
  obtain ⟨q,rfl⟩:∃ q,a = q * 2 ^ 8:=⟨a / 256,by omega⟩
  rw [← Nat.shiftLeft_eq,Nat.shiftLeft_add_eq_or_of_lt (by omega:y < 2 ^ 8)]
 show IntKind.u64.wrap ((BitVec.ofInt 64 (a:Int) ||| BitVec.ofInt 64 (y:Int)).toNat:Int) = _
 rw [e,IntKind.wrap_u64]
 omega
theorem jRdNum_any (bb off n c:Nat) (l:Bs) (hl:8 ≤ l.length) (w:World) (hr:Reads w (.slice (some ⟨bb,off,none⟩) n c) l):Calls Tryz.prog 133 #[.slice (some ⟨bb,off,none⟩) n c] w fun e w' => e = .returned (.int .u64 (rdNum (l.take 8):Int)) ∧ w' = w:=by
 have hn:n = l.length:=by obtain ⟨_,cp,hv,_⟩:=hr;simp only [Value.slice.injEq] at hv;exact hv.2.1
 have hc:n ≤ c:=by obtain ⟨_,cp,hv,hc,_⟩:=hr;simp only [Value.slice.injEq] at hv;rw [hv.2.2,hn];exact hc
 obtain ⟨p,HP⟩:=sqn (l.take 8)
 have HL:Hid (p.length = 8):=by show _ = _;rw [HP.out,List.length_take];omega
 have HR:Hid (Reads w (.slice (some ⟨bb,off,none⟩) 8 c) p):=by
  have h:=hr.cutJ 0 8 c (by omega) (by omega)
  rw [Nat.add_zero,List.drop_zero] at h
  rw [HP.out];exact h
 have HCT:Hid (8 ≤ n ∧ n ≤ c):=⟨by omega,hc⟩
 rw [← HP.out]
 clear hl hr hn hc HP
 go_enter Tryz.func133,Tryz.ntmps133
 have tk0:Hid True:=trivial
 go_wp2_with (first
  | (clear tk0;refine wpSeq_val (.slice (some ⟨bb,off,none⟩) 8 c) _ (by rfl) (cutTo bb off n c 8 HCT.out.1 HCT.out.2 _ _ (.tmp 6) (.const (.int .i64 8)) rfl rfl rfl _) ?_))
 go_loopw [3,9] (fun a i wr => ∃ k:Nat,k ≤ 8 ∧ i = .int .i64 (k:Int) ∧ a = .int .u64 (rdNum (p.take k):Int) ∧ wr = w) (fun _ i _ => 8 - (intOf i).toNat)
 case atStart => exact ⟨0,by omega,rfl,rfl,rfl⟩
 case round =>
  obtain ⟨k,hk,rfl,rfl,rfl⟩:=hrel
  by_cases hlt:k < 8
  case neg =>
   have hlk:¬ ((k:Int) < 8):=by omega
   obtain rfl:k = 8:=by omega
   have HE:Hid (p.take 8 = p):=List.take_of_length_le (by rw [HL.out];exact Nat.le_refl _)
   rw [HE.out];go_wp2;go_ret;exact ⟨rfl,rfl⟩
  case pos =>
   have hlk:(k:Int) < 8:=by omega
   have k0:(0:Int) ≤ (k:Int):=by omega
   have f5:IntKind.i64.wrap ((k:Int) + 1) = (k:Int) + 1:=by rw [IntKind.wrap_i64];omega
   have hst:=rdNum_step HL.out hlt;have hnx:=rdNum_take (l:=p) (k:=k) (by rw [HL.out];exact hlt)
   have ck:wr.cell? ⟨bb,off + k,none⟩ = some (.int .u8 ((p.getD k 0).toNat:Int)):=HR.out.cellsAt k (by rw [HL.out];exact hlt)
   obtain ⟨a,HA⟩:=sqn (rdNum (p.take k):Nat);obtain ⟨y,HY⟩:=sqn ((p.getD k 0).toNat:Nat);obtain ⟨a2,HA2⟩:=sqn (rdNum (p.take k) * 256:Nat);rw [← HA.out] at hst hnx HA2 ⊢;rw [← HY.out] at hst hnx ck;have hy:y < 256:=by rw [HY.out];exact (p.getD k 0).isLt
   have f6:IntKind.u64.wrap ((a:Int) * 256) = (a2:Int):=by rw [IntKind.wrap_u64];have:=HA2.out;omega
   have f7:bits .or .u64 (a2:Int) (y:Int) = ((rdNum (p.take (k + 1)):Nat):Int):=by rw [hnx,or_byte a2 y (by have:=HA2.out;omega) hy (by have:=HA2.out;omega),HA2.out]
   clear hst hnx;go_wp2;go_roundw
   case rel => exact ⟨k + 1,by omega,by simp,by trivial,trivial⟩
   case measure => simp [intOf];omega
theorem jSectors_any (n:Nat) (hn:n < 1000000000000) (w:World):Calls Tryz.prog 103 #[.int .i64 (n:Int)] w fun e w' => e = .returned (.int .i64 (((n + 63) / 64:Nat):Int)) ∧ w' = w:=by
 obtain ⟨m,HM⟩:=sqn (n + 63)
 obtain ⟨q,HQ⟩:=sqn (m / 64)
 have hm:=HM.out
 have hq:=HQ.out
 have f1:IntKind.i64.wrap ((n:Int) + 64) = (n:Int) + 64:=by rw [IntKind.wrap_i64];omega
 have f2:IntKind.i64.wrap ((n:Int) + 64 - 1) = (m:Int):=by rw [IntKind.wrap_i64];omega
 have f4:IntKind.i64.wrap ((n:Int) + 63) = (m:Int):=by rw [IntKind.wrap_i64];omega
 have f3:wrap64 ((m:Int) / 64) = (q:Int):=qJ hq (by omega)
 rw [← hm,← hq]
 clear hm hq hn
 go_enter Tryz.func103,Tryz.ntmps103
 go_wp2
 go_ret
 refine ⟨?_,rfl⟩
 show Ending.returned (.int .i64 (wrap64 ((m:Int) / 64))) = _
 rw [f3]
theorem jRecSec_any (v:Value) (x:Bs) (hx:x.length < 100000000000) (w:World) (hr:Reads w v x):Calls Tryz.prog 116 #[v] w fun e w' => e = .returned (.int .i64 (secR x.length:Int)) ∧ w' = w:=by
 obtain ⟨ad,cp,hv,_⟩:=hr
 obtain ⟨n,HN⟩:=sqn (x.length)
 obtain ⟨m,HM⟩:=sqn (57 + n)
 rw [← HN.out] at hv hx ⊢
 subst hv
 have hm:=HM.out
 have f1:IntKind.i64.wrap (57 + (n:Int)) = (m:Int):=by rw [IntKind.wrap_i64];omega
 have HS:Hid (∀ W,Calls Tryz.prog 103 #[.int .i64 (m:Int)] W fun e w' => e = .returned (.int .i64 (secR n:Int)) ∧ w' = W):=fun W => by
  have h:=jSectors_any m (by omega) W
  have e:(m + 63) / 64 = secR n:=by unfold secR;omega
  rw [e] at h
  exact h
 clear hm hx
 go_enter Tryz.func116,Tryz.ntmps116
 go_wp2_with (go_at_call 103;refine (HS.out _).mono ?_;rintro e0 y1 ⟨rfl,rfl⟩)
 go_ret
 exact ⟨rfl,rfl⟩
theorem jPadded_own (base:Nat) (v:Value) (l:Bs) (w:World) (hown:OwnB w base v l) (hne:l ≠ []) (hb:base ≤ w.heap.size) (hl:l.length ≤ 10000000) :
 Calls Tryz.prog 127 #[v] w fun e w' => ∃ v',e = .returned v' ∧ OwnB w' base v' (padB l) ∧ Below base w w':=by
 have HO:Hid (OwnB w base v l):=hown
 have HNE:Hid (l ≠ []):=hne
 have HB:Hid (base ≤ w.heap.size):=hb
 obtain ⟨ad,c,hv⟩:∃ a c,v = .slice a l.length c:=by
  rcases hown with ⟨_,⟨rfl,h2⟩ | ⟨g',cap,cur,rfl,_⟩⟩
  · exact ⟨none,0,by rw [h2]⟩
  · exact ⟨_,_,rfl⟩
 obtain ⟨n,HN⟩:=sqn (l.length)
 obtain ⟨q,HQ⟩:=sqn ((n + 63) / 64)
 obtain ⟨N,HNN⟩:=sqn (q * 64)
 obtain ⟨k,HK⟩:=sqn (N - n)
 rw [← HN.out] at hv hl
 subst hv
 have hq:=HQ.out
 have hN:=HNN.out
 have hk:=HK.out
 have f1:IntKind.i64.wrap ((q:Int) * 64) = (N:Int):=mJ hN (by omega)
 have f2:IntKind.i64.wrap ((N:Int) - (n:Int)) = (k:Int):=by rw [IntKind.wrap_i64];omega
 have HLK:Hid (l.length + k ≤ 100000000):=by show _ ≤ _;rw [← HN.out];omega
 have HSC:Hid (∀ W,Calls Tryz.prog 103 #[.int .i64 (n:Int)] W fun e w' => e = .returned (.int .i64 (q:Int)) ∧ w' = W):=fun W => by
  have h:=jSectors_any n (by omega) W
  rw [← hq] at h
  exact h
 have HPD:Hid (l ++ List.replicate k 0 = padB l):=by show _ = _;rw [padB,← HN.out,hk,hN,hq]
 clear hq hN hk hown hne hb hl
 go_enter Tryz.func127,Tryz.ntmps127
 obtain ⟨tk0,tk1⟩:=sqk2
 go_wp2_with (first
  | (clear tk0;go_at_call 103;refine (HSC.out _).mono ?_;rintro e0 y1 ⟨rfl,hw1⟩;subst hw1)
  | (clear tk1;at_builtin;refine wpSeq_noughts (.tmp 3) (.tmp 10) base _ l k HO.out HNE.out HLK.out HB.out rfl rfl rfl rfl ?_;intro v2 w2 hown2 hg2 hb2))
 go_ret
 exact ⟨_,rfl,by rw [← HPD.out];exact hown2,hb2⟩
theorem wpSeq_buildYO {ops:Array Oper} {Q:Exit → Act → World → Prop} {rest:List Oper} {o:Oper} {a:Act} {w:World} (b:BitVec 8) (x:Operand) (hx:a.eval x = .int .u8 (b.toNat:Int)) (ho:o.op = .buildSlice 23 1 #[(0,x)]) (hw:Region.wanted o (yielded ops a.tmps) = true)
 (h:∀ g w',NewR (cb [b]) 5 w g w' → wpList Tryz.prog ops Q rest (a.put o.dst (.slice (some ⟨g,0,none⟩) 1 1)) w'):wpList Tryz.prog ops Q (o :: rest) a w:=
 wpSeq_val _ _ hw (build_yJ b _ o x hx ho w) (h _ _ (NewR.of _ _ w))
theorem blk_own1 {w:World} {base g:Nat} {b:BitVec 8} (h:Blk w g (cb [b]) 5) (hb:base ≤ g):OwnB w base (.slice (some ⟨g,0,none⟩) 1 1) [b]:=by
 have h2:=own_of_blkJ (k:=1) (c:=1) h hb rfl (Nat.le_refl _) (by decide)
 exact h2
theorem jHead_own (gen:Nat) (hg:gen < 18446744073709551616) (w:World) (hK:KOk w):Calls Tryz.prog 118 #[.int .u64 (gen:Int)] w fun e w' => ∃ v',e = .returned v' ∧ OwnB w' w.heap.size v' (headB gen) ∧ Below w.heap.size w w':=by
 have HK:Hid (KOk w):=hK
 have HBW:Hid (Below w.heap.size w w):=Below.refl _ _
 obtain ⟨hd,HHD⟩:=sqn (hd9 gen)
 obtain ⟨dg,HDG⟩:=sqn (dig hd)
 have HD9:Hid (hd.length = 9):=by rw [HHD.out];exact len_hd9 gen
 have HDL:Hid (dg.length = 32):=by rw [HDG.out];exact len_dig' _
 have HNU:Hid (∀ (W:World) (v:Value),OwnB W w.heap.size v [72] → w.heap.size ≤ W.heap.size → Calls Tryz.prog 126 #[v,.int .u64 (gen:Int)] W fun e w' => ∃ v',e = .returned v' ∧ OwnB w' w.heap.size v' hd ∧ Below w.heap.size W w'):=fun W v h1 h2 => by rw [HHD.out];exact jNumber_own _ v [72] gen hg W h1 h2 (by decide)
 have HOF:Hid (∀ (W:World) (v:Value),KOk W → Reads W v hd → Calls Tryz.prog 125 #[v] W fun e w' => e = .returned (.agg (cb dg).toArray) ∧ Below W.heap.size W w'):=fun W v hk hr => by rw [HDG.out];exact tOf_any v hd W hk hr (by rw [HD9.out];omega)
 have HPD:Hid (padB (hd ++ dg) = headB gen ∧ hd ++ dg ≠ [] ∧ (hd ++ dg).length ≤ 10000000):=⟨by rw [HDG.out,HHD.out];rfl,fun e => by have h1:=congrArg List.length e;rw [List.length_append,HD9.out] at h1;simp at h1,by rw [List.length_append,HD9.out,HDL.out];decide⟩
 clear hg hK
 go_enter Tryz.func118,Tryz.ntmps118
 obtain ⟨tk0,tk1,tk2,tk3,tk4⟩:=sqk5
 go_wp2_with (first
  | (clear tk0;with_reducible refine wpSeq_buildYO 72 (.const (.int .u8 72)) ?_ ?_ ?_ ?_
     · rfl
     · rfl
     · rfl
     intro gy y1 nn;have HO:Hid (OwnB y1 w.heap.size (.slice (some ⟨gy,0,none⟩) 1 1) [72]):=blk_own1 nn.blk nn.ge;replace HBW:Hid (Below w.heap.size w y1):=nn.below;clear nn)
  | (clear tk1;go_at_call 126;refine (HNU.out _ _ HO.out HBW.out.size).mono ?_;rintro e0 y2 ⟨v2,rfl,ho,hz⟩
     replace HBW:Hid (Below w.heap.size w y2):=HBW.out.trans hz;replace HO:Hid (OwnB y2 w.heap.size v2 hd):=ho;clear ho hz)
  | (clear tk2;go_at_call 125;refine (HOF.out _ _ (HK.out.below HBW.out HK.out.lt) HO.out.reads).mono ?_;rintro e0 y3 ⟨rfl,hz⟩
     replace HO:Hid (OwnB y3 w.heap.size v2 hd):=HO.out.below hz (Nat.le_refl _);replace HBW:=sqt HBW hz;clear hz)
  | (clear tk3;go_at_call 123;refine (cdigest_any w.heap.size v2 hd dg HDL.out _ HO.out HBW.out.size (by rw [HD9.out];decide)).mono ?_;rintro e0 y4 ⟨v4,rfl,ho,hz⟩
     replace HBW:Hid (Below w.heap.size w y4):=HBW.out.trans hz;have HO4:Hid (OwnB y4 w.heap.size v4 (hd ++ dg)):=ho;clear ho hz HO)
  | (clear tk4;go_at_call 127;refine (jPadded_own w.heap.size v4 _ _ HO4.out HPD.out.2.1 HBW.out.size HPD.out.2.2).mono ?_;rintro e0 y5 ⟨v5,rfl,ho,hz⟩
     replace HBW:Hid (Below w.heap.size w y5):=HBW.out.trans hz;have HO5:Hid (OwnB y5 w.heap.size v5 (headB gen)):=by rw [← HPD.out.1];exact ho
     clear ho hz HO4))
 go_ret
 exact ⟨_,rfl,HO5.out,HBW.out⟩
theorem jText_own (gen seq:Nat) (hg:gen < 18446744073709551616) (hq:seq < 18446744073709551616) (v:Value) (b:Bs) (hb:b.length < 9000000) (w:World) (hr:Reads w v b):Calls Tryz.prog 124 #[.int .u64 (gen:Int),.int .u64 (seq:Int),v] w fun e w' => ∃ v',e = .returned v' ∧ OwnB w' w.heap.size v' (textB gen seq b) ∧ Below w.heap.size w w':=by
 obtain ⟨ab,nb,cbb,rfl⟩:=hr.form
 have HB:Hid (Reads w (.slice ab nb cbb) b):=hr
 have HBW:Hid (Below w.heap.size w w):=Below.refl _ _
 have HG:Hid (gen < 18446744073709551616):=hg
 have HQ:Hid (seq < 18446744073709551616):=hq
 have HL:Hid (b.length < 9000000):=hb
 have HTX:Hid (([74] ++ num8 gen ++ num8 seq) ++ b = textB gen seq b ∧ ([74] ++ num8 gen ++ num8 seq).length = 17 ∧ ([74] ++ num8 gen).length = 9):=⟨by simp [textB],by simp [len_num8],by simp [len_num8]⟩
 clear hr hg hq hb
 go_enter Tryz.func124,Tryz.ntmps124
 obtain ⟨tk0,tk1,tk2,tk3⟩:=sqk4
 go_wp2_with (first
  | (clear tk0;with_reducible refine wpSeq_buildYO 74 (.const (.int .u8 74)) ?_ ?_ ?_ ?_
     · rfl
     · rfl
     · rfl
     intro gy y1 nn;have HO:Hid (OwnB y1 w.heap.size (.slice (some ⟨gy,0,none⟩) 1 1) [74]):=blk_own1 nn.blk nn.ge;replace HBW:Hid (Below w.heap.size w y1):=nn.below;clear nn)
  | (clear tk1;go_at_call 126;refine (jNumber_own _ _ [74] gen HG.out _ HO.out HBW.out.size (by decide)).mono ?_;rintro e0 y2 ⟨v2,rfl,ho,hz⟩
     replace HBW:Hid (Below w.heap.size w y2):=HBW.out.trans hz;replace HO:Hid (OwnB y2 w.heap.size v2 ([74] ++ num8 gen)):=ho;clear ho hz)
  | (clear tk2;go_at_call 126;refine (jNumber_own _ _ ([74] ++ num8 gen) seq HQ.out _ HO.out HBW.out.size (by rw [HTX.out.2.2];decide)).mono ?_;rintro e0 y3 ⟨v3,rfl,ho,hz⟩
     replace HBW:Hid (Below w.heap.size w y3):=HBW.out.trans hz;replace HO:Hid (OwnB y3 w.heap.size v3 ([74] ++ num8 gen ++ num8 seq)):=ho;clear ho hz)
  | (clear tk3;at_builtin;refine wpList_appendB rfl (.tmp 11) (.tmp 12) rfl w.heap.size _ ([74] ++ num8 gen ++ num8 seq) rfl HO.out _ b rfl (HB.out.below HBW.out) (by rw [HTX.out.2.1];have:=HL.out;omega) HBW.out.size ?_;intro v4 y4 ho hz _
     replace HBW:Hid (Below w.heap.size w y4):=HBW.out.trans hz;have HO4:Hid (OwnB y4 w.heap.size v4 (textB gen seq b)):=by rw [← HTX.out.1];exact ho
     clear ho hz HO))
 go_ret
 exact ⟨_,rfl,HO4.out,HBW.out⟩
theorem raw_parts (gen seq:Nat) (b:Bs):(((textB gen seq [] ++ dig (textB gen seq b)) ++ num8 b.length) ++ b) = rawB gen seq b:=by simp [textB,rawB]
theorem len_textB (gen seq:Nat) (b:Bs):(textB gen seq b).length = 17 + b.length:=by simp [textB,len_num8];omega
theorem jRecord_own (gen seq:Nat) (hg:gen < 18446744073709551616) (hq:seq < 18446744073709551616) (v:Value) (b:Bs) (hb:b.length < 8000000) (w:World) (hK:KOk w) (hr:Reads w v b):Calls Tryz.prog 101 #[.int .u64 (gen:Int),.int .u64 (seq:Int),v] w fun e w' => ∃ v',e = .returned v' ∧ OwnB w' w.heap.size v' (recB gen seq b) ∧ Below w.heap.size w w':=by
 obtain ⟨m,HM⟩:=sqn (b.length)
 obtain ⟨ab,cbb,hv⟩:∃ a c,v = .slice a m c:=by obtain ⟨ad,cp,hv,_⟩:=hr;exact ⟨ad,cp,by rw [HM.out];exact hv⟩
 subst hv
 have HB:Hid (Reads w (.slice ab m cbb) b):=hr
 have HBW:Hid (Below w.heap.size w w):=Below.refl _ _
 have HK:Hid (KOk w):=hK
 have HG:Hid (gen < 18446744073709551616):=hg
 have HQ:Hid (seq < 18446744073709551616):=hq
 have HL:Hid (b.length < 8000000 ∧ m < 8000000):=⟨hb,by rw [HM.out];exact hb⟩
 have f1:IntKind.u64.wrap (m:Int) = (m:Int):=uJ (by have:=HL.out.2;omega)
 obtain ⟨t0,HT0⟩:=sqn (textB gen seq [])
 obtain ⟨t1,HT1⟩:=sqn (textB gen seq b)
 obtain ⟨dg,HDG⟩:=sqn (dig t1)
 have HDL:Hid (dg.length = 32 ∧ t0.length = 17 ∧ t1.length < 9000000):=⟨by rw [HDG.out];exact len_dig' _,by rw [HT0.out,len_textB];rfl,by rw [HT1.out,len_textB];have:=HL.out.1;omega⟩
 have HNIL:Hid (∀ W,Reads W (.slice none 0 0) []):=fun W => ⟨none,0,rfl,Nat.le_refl _,fun _ => rfl,fun h => by simp at h⟩
 have HX0:Hid (∀ W:World,Calls Tryz.prog 124 #[.int .u64 (gen:Int),.int .u64 (seq:Int),.slice none 0 0] W fun e w' => ∃ v',e = .returned v' ∧ OwnB w' W.heap.size v' t0 ∧ Below W.heap.size W w'):=fun W => by rw [HT0.out];exact jText_own gen seq HG.out HQ.out _ [] (by decide) W (HNIL.out W)
 have HX1:Hid (∀ W:World,Reads W (.slice ab m cbb) b → Calls Tryz.prog 124 #[.int .u64 (gen:Int),.int .u64 (seq:Int),.slice ab m cbb] W fun e w' => ∃ v',e = .returned v' ∧ OwnB w' W.heap.size v' t1 ∧ Below W.heap.size W w'):=fun W h => by rw [HT1.out];exact jText_own gen seq HG.out HQ.out _ b (by have:=HL.out.1;omega) W h
 have HOF:Hid (∀ (W:World) (v:Value),KOk W → Reads W v t1 → Calls Tryz.prog 125 #[v] W fun e w' => e = .returned (.agg (cb dg).toArray) ∧ Below W.heap.size W w'):=fun W v hk hr => by rw [HDG.out];exact tOf_any v t1 W hk hr (by have:=HDL.out.2.2;omega)
 have HPD:Hid (padB (((t0 ++ dg) ++ num8 m) ++ b) = recB gen seq b ∧ ((t0 ++ dg) ++ num8 m) ++ b ≠ [] ∧ (((t0 ++ dg) ++ num8 m) ++ b).length ≤ 10000000 ∧ ((t0 ++ dg) ++ num8 m).length = 57 ∧ (t0 ++ dg).length = 49):=by
  have hl:(((t0 ++ dg) ++ num8 m)).length = 57:=by rw [List.length_append,List.length_append,HDL.out.1,HDL.out.2.1,len_num8]
  refine ⟨by rw [HDG.out,HT0.out,HT1.out,HM.out,raw_parts];rfl,fun e => ?_,?_,hl,by rw [List.length_append,HDL.out.1,HDL.out.2.1]⟩
  · have h1:=congrArg List.length e;rw [List.length_append,hl] at h1;simp at h1
  · rw [List.length_append,hl];have:=HL.out.1;omega
 clear hg hK hq hb hr
 go_enter Tryz.func101,Tryz.ntmps101
 obtain ⟨tk0,tk1,tk2,tk3,tk4,tk5,tk6⟩:=sqk7
 go_wp2_with (first
  | (clear tk0;go_at_call 124;refine (HX0.out _).mono ?_;rintro e0 y1 ⟨v1,rfl,ho,hz⟩
     have HO:Hid (OwnB y1 w.heap.size v1 t0):=ho;replace HBW:Hid (Below w.heap.size w y1):=hz;clear ho hz)
  | (clear tk1;go_at_call 124;refine (HX1.out _ (HB.out.below HBW.out)).mono ?_;rintro e0 y2 ⟨v2,rfl,ho,hz⟩
     replace HO:Hid (OwnB y2 w.heap.size v1 t0):=HO.out.below hz (Nat.le_refl _);have HRT:Hid (Reads y2 v2 t1):=ho.reads;replace HBW:=sqt HBW hz;clear ho hz)
  | (clear tk2;go_at_call 125;refine (HOF.out _ _ (HK.out.below HBW.out HK.out.lt) HRT.out).mono ?_;rintro e0 y3 ⟨rfl,hz⟩
     replace HO:Hid (OwnB y3 w.heap.size v1 t0):=HO.out.below hz (Nat.le_refl _);replace HBW:=sqt HBW hz;clear hz HRT)
  | (clear tk3;go_at_call 123;refine (cdigest_any w.heap.size v1 t0 dg HDL.out.1 _ HO.out HBW.out.size (by rw [HDL.out.2.1];decide)).mono ?_;rintro e0 y4 ⟨v4,rfl,ho,hz⟩
     replace HBW:Hid (Below w.heap.size w y4):=HBW.out.trans hz;have HO4:Hid (OwnB y4 w.heap.size v4 (t0 ++ dg)):=ho;clear ho hz HO)
  | (clear tk4;go_at_call 126;refine (jNumber_own _ _ (t0 ++ dg) m (by have:=HL.out.2;omega) _ HO4.out HBW.out.size (by rw [HPD.out.2.2.2.2];decide)).mono ?_;rintro e0 y5 ⟨v5,rfl,ho,hz⟩
     replace HBW:Hid (Below w.heap.size w y5):=HBW.out.trans hz;have HO5:Hid (OwnB y5 w.heap.size v5 ((t0 ++ dg) ++ num8 m)):=ho;clear ho hz HO4)
  | (clear tk5;at_builtin;refine wpList_appendB rfl (.tmp 22) (.tmp 23) rfl w.heap.size _ ((t0 ++ dg) ++ num8 m) rfl HO5.out _ b rfl (HB.out.below HBW.out) (by rw [HPD.out.2.2.2.1];have:=HL.out.1;omega) HBW.out.size ?_;intro v6 y6 ho hz _
     replace HBW:Hid (Below w.heap.size w y6):=HBW.out.trans hz;have HO6:Hid (OwnB y6 w.heap.size v6 (((t0 ++ dg) ++ num8 m) ++ b)):=ho;clear ho hz HO5)
  | (clear tk6;go_at_call 127;refine (jPadded_own w.heap.size v6 _ _ HO6.out HPD.out.2.1 HBW.out.size HPD.out.2.2.1).mono ?_;rintro e0 y7 ⟨v7,rfl,ho,hz⟩
     replace HBW:Hid (Below w.heap.size w y7):=HBW.out.trans hz;have HO7:Hid (OwnB y7 w.heap.size v7 (recB gen seq b)):=by rw [← HPD.out.1];exact ho
     clear ho hz HO6))
 go_ret
 exact ⟨_,rfl,HO7.out,HBW.out⟩
theorem jCheck_any (v:Value) (x:Bs) (w:World) (hr:Reads w v x):Calls Tryz.prog 100 #[v] w fun e w' => e = .returned (.int .i64 (chkX x)) ∧ w' = w:=by
 obtain ⟨ad,cp,hv,_⟩:=hr
 obtain ⟨n,HN⟩:=sqn (x.length)
 obtain ⟨r,HRR⟩:=sqn (chkX x)
 rw [← HRR.out]
 have hx:r = if n = 0 ∨ 1048576 < n then 1 else 0:=by rw [HRR.out,chkX,← HN.out]
 rw [← HN.out] at hv
 subst hv
 by_cases h0:n = 0
 · subst h0
   rw [if_pos (Or.inl rfl)] at hx;subst hx
   go_enter Tryz.func100,Tryz.ntmps100
   go_wp2;go_ret;exact ⟨rfl,rfl⟩
 · have q0:((n:Int) == 0) = false:=by rw [beq_eq_false_iff_ne];omega
   by_cases h1:1048576 < n
   · rw [if_pos (Or.inr h1)] at hx
     subst hx;have q1:(1048576:Int) < (n:Int):=by omega
     go_enter Tryz.func100,Tryz.ntmps100
     go_wp2;go_ret;exact ⟨rfl,rfl⟩
   · rw [if_neg (by omega)] at hx
     subst hx;have q1:¬ ((1048576:Int) < (n:Int)):=by omega
     go_enter Tryz.func100,Tryz.ntmps100
     go_wp2;go_ret;exact ⟨rfl,rfl⟩
theorem bPrefix_any (va vb:Value) (a p:Bs) (w:World) (hp0:0 < a.length) (ha:Reads w va a) (hb:Reads w vb p):Calls Tryz.prog 134 #[va,vb] w fun e w' => e = .returned (.bool (decide (a.take p.length = p))) ∧ Below w.heap.size w w':=by
 obtain ⟨aa,ca,hva,hca,hna,hpa⟩:=id ha
 obtain ⟨ab,cbb,hvb,hcb,hnb,hpb⟩:=id hb
 obtain ⟨n,HN⟩:=sqn (a.length)
 obtain ⟨m,HM⟩:=sqn (p.length)
 obtain ⟨r,HRR⟩:=sqn (decide (a.take p.length = p))
 rw [← HRR.out]
 rw [← HN.out] at hva
 rw [← HM.out] at hvb
 subst hva hvb
 have HB:Hid (Reads w (.slice ab m cbb) p):=hb
 by_cases hle:m ≤ n
 case neg =>
  have hr:r = false:=by
   rw [HRR.out,decide_eq_false_iff_not];intro e;have h1:=congrArg List.length e;rw [List.length_take] at h1;have h2:=HN.out;have h3:=HM.out;omega
  have g1:¬ ((m:Int) ≤ (n:Int)):=by omega
  subst hr
  clear HB ha hb hpa hpb hna hnb hca hcb
  go_enter Tryz.func134,Tryz.ntmps134
  go_wp2
  go_ret
  exact ⟨rfl,Below.refl _ _⟩
 case pos =>
  have g1:(m:Int) ≤ (n:Int):=by omega
  obtain ⟨bb,off,had,_⟩:=hpa hp0
  subst had
  have hnc:n ≤ ca:=by rw [HN.out];exact hca
  have HCUT:Hid (m ≤ n ∧ n ≤ ca):=⟨hle,hnc⟩
  have hrv:Reads w (.slice (some ⟨bb,off,none⟩) m ca) (a.take m):=by
   have h:=ha.cutJ 0 m ca (by have:=HN.out;omega) (by omega)
   rw [Nat.add_zero,List.drop_zero] at h;exact h
  have HE:Hid (Calls Tryz.prog 153 #[.slice (some ⟨bb,off,none⟩) m ca,.slice ab m cbb] w fun e w' => e = .returned (.bool r) ∧ Below w.heap.size w w'):=by
   have h:=bEqual_any _ _ (a.take m) p w hrv HB.out;rw [HM.out] at h;rw [HRR.out];rw [HM.out];exact h
  clear hrv hnc ha hb hpa hpb hna hnb hca hcb HB
  go_enter Tryz.func134,Tryz.ntmps134
  obtain ⟨tk0,tk1⟩:=sqk2
  go_wp2_with (first
   | (clear tk0;refine wpSeq_val (.slice (some ⟨bb,off,none⟩) m ca) _ (by rfl) (cutTo bb off n ca m HCUT.out.1 HCUT.out.2 _ _ (.tmp 11) (.tmp 13) rfl rfl rfl _) ?_)
   | (clear tk1;go_at_call 153;refine HE.out.mono ?_;rintro e0 y1 ⟨rfl,hz⟩))
  go_ret
  exact ⟨rfl,hz⟩
theorem jBlank_any (v:Value) (b:Bs) (w:World) (hl:b.length < 1000000000) (hr:Reads w v b):Calls Tryz.prog 115 #[v] w fun e w' => e = .returned (.bool (decide (∀ z ∈ b,z = 0))) ∧ w' = w:=by
 obtain ⟨ad,c,hv,_,_,hpos⟩:=id hr
 obtain ⟨n,HN⟩:=sqn (b.length)
 obtain ⟨r,HRR⟩:=sqn (decide (∀ z ∈ b,z = 0))
 rw [← HRR.out]
 rw [← HN.out] at hv hl
 subst hv
 have HL:Hid (n < 1000000000):=hl
 have HC:Hid (∀ k,k < n → ∃ bb off,ad = some ⟨bb,off,none⟩ ∧ w.cell? ⟨bb,off + k,none⟩ = some (.int .u8 ((b.getD k 0).toNat:Int))):=fun k hk => by
  obtain ⟨bb,off,h1,h2⟩:=hpos (by rw [← HN.out];omega)
  exact ⟨bb,off,h1,h2 k (by rw [← HN.out];exact hk)⟩
 clear hr hpos hl
 go_enter Tryz.func115,Tryz.ntmps115
 go_wp2
 go_loopw [7] (fun i wr => ∃ k:Nat,k ≤ n ∧ i = .int .i64 (k:Int) ∧ (∀ j,j < k → b.getD j 0 = 0) ∧ wr = w) (fun i _ => n - (intOf i).toNat)
 case atStart => exact ⟨0,by omega,rfl,fun j hj => absurd hj (by omega),rfl⟩
 case round =>
  obtain ⟨k,hk,rfl,hz,rfl⟩:=hrel
  have HZ:Hid (∀ j,j < k → b.getD j 0 = 0):=hz
  clear hz
  by_cases hlt:k < n
  case neg =>
   have hlk:¬ ((k:Int) < (n:Int)):=by omega
   have hr:r = true:=by
    rw [HRR.out,decide_eq_true_iff];intro z hzb;obtain ⟨j,hj,rfl⟩:=List.getElem_of_mem hzb;have:=HZ.out j (by have:=HN.out;omega)
    rw [List.getD_eq_getElem?_getD,List.getElem?_eq_getElem hj] at this;exact this
   subst hr;go_wp2;go_ret;exact ⟨rfl,rfl⟩
  case pos =>
   have hlk:(k:Int) < (n:Int):=by omega
   have k0:(0:Int) ≤ (k:Int):=by omega
   have f5:IntKind.i64.wrap ((k:Int) + 1) = (k:Int) + 1:=by rw [IntKind.wrap_i64];have:=HL.out;omega
   obtain ⟨bb,off,rfl,ck⟩:=HC.out k hlt;obtain ⟨y,HY⟩:=sqn ((b.getD k 0).toNat:Nat);rw [← HY.out] at ck
   by_cases hy:y = 0
   · subst hy
     have HZK:Hid (b.getD k 0 = 0):=BitVec.eq_of_toNat_eq HY.out.symm;go_wp2;go_roundw
     case rel => exact ⟨k + 1,by omega,by simp,fun j hj => by by_cases e:j = k;rw [e];exact HZK.out;exact HZ.out j (by omega),trivial⟩
     case measure => simp [intOf];omega
   · have hr:r = false:=by
      rw [HRR.out,decide_eq_false_iff_not];intro h;have hj:k < b.length:=by have:=HN.out;omega
      have:=h (b[k]) (List.getElem_mem hj)
      apply hy
      rw [HY.out,List.getD_eq_getElem?_getD,List.getElem?_eq_getElem hj];show (b[k]).toNat = 0;rw [this];rfl
     subst hr;have q0:((y:Int) == 0) = false:=by rw [beq_eq_false_iff_ne];omega
     go_wp2;go_ret;exact ⟨rfl,rfl⟩
theorem jRoom1_any (n:Nat) (hn:n < 1000000000) (w:World):Calls Tryz.prog 99 #[.int .i64 (n:Int)] w fun e w' => e = .returned (.int .i64 ((min 1048576 (64 * n - 57):Nat):Int)) ∧ w' = w:=by
 obtain ⟨m,HM⟩:=sqn (min 1048576 (64 * n - 57))
 rw [← HM.out]
 have f1:IntKind.i64.wrap ((n:Int) * 64) = (n:Int) * 64:=by rw [IntKind.wrap_i64];omega
 have f2:IntKind.i64.wrap ((n:Int) * 64 - 57) = (n:Int) * 64 - 57:=by rw [IntKind.wrap_i64];omega
 go_enter Tryz.func99,Tryz.ntmps99
 go_wp2
 all_goals
  go_ret
  refine ⟨?_,rfl⟩
  show Ending.returned (Value.int IntKind.i64 _) = Ending.returned (Value.int IntKind.i64 (m:Int))
  congr 2
  have:=HM.out
  omega
theorem reads_drop {w:World} {b off n c:Nat} {l:Bs} (h:Reads w (.slice (some ⟨b,off,none⟩) n c) l) (k:Nat) (hk:k ≤ l.length):Reads w (.slice (some ⟨b,off + k,none⟩) (n - k) (c - k)) (l.drop k):=by
 have hn:n = l.length ∧ n ≤ c:=by obtain ⟨_,cp,hv,hc,_⟩:=h;simp only [Value.slice.injEq] at hv;exact ⟨hv.2.1,by rw [hv.2.1,hv.2.2];exact hc⟩
 have h2:=h.cutJ k (n - k) (c - k) (by omega) (by omega)
 rw [List.take_of_length_le (by rw [List.length_drop];omega)] at h2
 exact h2
theorem reads_nc {w:World} {ad:Option Addr} {n c:Nat} {l:Bs} (h:Reads w (.slice ad n c) l):n = l.length ∧ n ≤ c:=by obtain ⟨_,cp,hv,hc,_⟩:=h;simp only [Value.slice.injEq] at hv;exact ⟨hv.2.1,by rw [hv.2.1,hv.2.2];exact hc⟩
theorem gen_pre (half:Bs):genH half = if half.take 64 = headB (rdNum ((half.drop 1).take 8)) then rdNum ((half.drop 1).take 8) else 0:=by
 unfold genH
 by_cases h:half.take 64 = headB (rdNum ((half.drop 1).take 8))
 · rw [if_pos h]
   by_cases h0:rdNum ((half.drop 1).take 8) = 0
   · rw [if_pos (Or.inl h0),h0]
   · rw [if_neg (fun e => e.elim h0 (fun e2 => e2 h))]
 · rw [if_neg h,if_pos (Or.inr h)]
theorem jBegun_any (bb off n c:Nat) (half:Bs) (hl:64 ≤ half.length) (w:World) (hK:KOk w) (hr:Reads w (.slice (some ⟨bb,off,none⟩) n c) half):Calls Tryz.prog 113 #[.slice (some ⟨bb,off,none⟩) n c] w fun e w' => e = .returned (.int .u64 (genH half:Int)) ∧ Below w.heap.size w w':=by
 obtain ⟨hn,hc⟩:=reads_nc hr
 obtain ⟨g,HG⟩:=sqn (rdNum ((half.drop 1).take 8))
 obtain ⟨r,HR⟩:=sqn (genH half)
 obtain ⟨ok,HOK⟩:=sqn (decide (half.take 64 = headB g))
 have HGL:Hid (g < 18446744073709551616):=by show _ < _;rw [HG.out];exact rdNum_8 (by rw [List.length_take,List.length_drop];omega)
 have HRR:Hid (r = if ok = true then g else 0):=by
  show _ = _
  rw [HR.out,gen_pre,← HG.out,HOK.out]
  by_cases h:half.take 64 = headB g
  · rw [if_pos h,if_pos (by simp [h])]
  · rw [if_neg h,if_neg (by simp [h])]
 have HCT:Hid (1 < n ∧ n ≤ c):=⟨by omega,hc⟩
 have HN:Hid (∀ W,W = w → Calls Tryz.prog 133 #[.slice (some ⟨bb,off + 1,none⟩) (n - 1) (c - 1)] W fun e w' => e = .returned (.int .u64 (g:Int)) ∧ w' = W):=fun W hW => by
  subst hW
  rw [HG.out]
  exact jRdNum_any _ _ _ _ (half.drop 1) (by rw [List.length_drop];omega) W (reads_drop hr 1 (by omega))
 have HRD:Hid (Reads w (.slice (some ⟨bb,off,none⟩) n c) half):=hr
 have HPF:Hid (∀ W v,Reads W (.slice (some ⟨bb,off,none⟩) n c) half → Reads W v (headB g) → Calls Tryz.prog 134 #[.slice (some ⟨bb,off,none⟩) n c,v] W fun e w' => e = .returned (.bool ok) ∧ Below W.heap.size W w'):=fun W v h1 h2 => by
  have h3:=bPrefix_any _ v half (headB g) W (by omega) h1 h2
  rw [len_headB,← HOK.out] at h3
  exact h3
 have HK:Hid (KOk w):=hK
 rw [← HR.out]
 clear hn hc hl hr hK
 go_enter Tryz.func113,Tryz.ntmps113
 obtain ⟨tk0,tk1,tk2,tk3⟩:=sqk4
 cases ok
 all_goals
  have hrr:=HRR.out
  first | rw [if_pos rfl] at hrr | rw [if_neg Bool.false_ne_true] at hrr
  rw [hrr]
  clear hrr
  go_wp2_with (first
   | (clear tk0;refine wpSeq_val (.slice (some ⟨bb,off + 1,none⟩) (n - 1) (c - 1)) _ (by rfl) (cutFrom bb off n c 1 HCT.out.1 HCT.out.2 _ _ (.tmp 4) (.const (.int .i64 1)) rfl rfl rfl _) ?_)
   | (clear tk1;go_at_call 133;refine (HN.out _ rfl).mono ?_;rintro e0 y1 ⟨rfl,hy1⟩;subst hy1)
   | (clear tk2;go_at_call 118;refine (jHead_own g HGL.out _ HK.out).mono ?_;rintro e0 y2 ⟨v2,rfl,ho,hz⟩
      have HO:Hid (Reads y2 v2 (headB g)):=ho.reads;have HBW:Hid (Below y1.heap.size y1 y2):=hz;clear ho hz)
   | (clear tk3;go_at_call 134;refine (HPF.out _ _ (HRD.out.below HBW.out) HO.out).mono ?_;rintro e0 y3 ⟨rfl,hz⟩
      replace HBW:Hid (Below y1.heap.size y1 y3):=HBW.out.trans (hz.mono HBW.out.size);clear hz))
  go_ret
  refine ⟨?_,HBW.out⟩
  first
   | rfl
   | (show Ending.returned (Value.int IntKind.u64 0) = _
      simp)
def firstR (gen seq:Nat) (r:Bs):Option Bs:=
 if r.length < 57 then none
 else if rdNum ((r.drop 49).take 8) = 0 ∨ r.length - 57 < rdNum ((r.drop 49).take 8) then none
 else if r.take (recB gen seq ((r.drop 57).take (rdNum ((r.drop 49).take 8)))).length = recB gen seq ((r.drop 57).take (rdNum ((r.drop 49).take 8))) then some ((r.drop 57).take (rdNum ((r.drop 49).take 8))) else none
theorem first_len {gen seq:Nat} {r x:Bs} (h:firstR gen seq r = some x):0 < x.length ∧ 64 * secR x.length ≤ r.length ∧ x.length ≤ r.length:=by
 unfold firstR at h
 by_cases h1:r.length < 57
 · rw [if_pos h1] at h;cases h
 rw [if_neg h1] at h
 by_cases h2:rdNum ((r.drop 49).take 8) = 0 ∨ r.length - 57 < rdNum ((r.drop 49).take 8)
 · rw [if_pos h2] at h;cases h
 rw [if_neg h2] at h
 by_cases h3:r.take (recB gen seq ((r.drop 57).take (rdNum ((r.drop 49).take 8)))).length = recB gen seq ((r.drop 57).take (rdNum ((r.drop 49).take 8)))
 · rw [if_pos h3] at h
   injection h with h
   rw [h] at h3;have h4:=congrArg List.length h3;rw [List.length_take,len_recB] at h4;have h5:x.length = rdNum ((r.drop 49).take 8):=by rw [← h,List.length_take,List.length_drop];omega
   exact ⟨by omega,by omega,by omega⟩
 · rw [if_neg h3] at h;cases h
def recNext (gen:Nat) (half:Bs) (f p seq:Nat):Option Bs → List Bs × Nat
 | none => ([],p)
 | some x => (x :: (recsL gen half f (p + 64 * secR x.length) (seq + 1)).1,(recsL gen half f (p + 64 * secR x.length) (seq + 1)).2)
theorem recs_first {gen:Nat} {half:Bs} {f p seq:Nat} (hm:half.length % 64 = 0) (hp:p % 64 = 0) (hle:p ≤ half.length):recsL gen half (f + 1) p seq = recNext gen half f p seq (firstR gen seq (half.drop p)):=by
 have e1:(half.drop p).drop 49 = half.drop (p + 49):=by rw [List.drop_drop]
 have e2:(half.drop p).drop 57 = half.drop (p + 57):=by rw [List.drop_drop]
 rw [recsL,firstR,e1,e2]
 have e3:(half.drop p).length = half.length - p:=List.length_drop
 rw [e3]
 by_cases h1:p + 64 ≤ half.length
 case neg => rw [if_neg h1,if_pos (show half.length - p < 57 by omega)];rfl
 rw [if_pos h1,if_neg (show ¬ half.length - p < 57 by omega)]
 by_cases h2:rdNum ((half.drop (p + 49)).take 8) = 0 ∨ half.length - p - 57 < rdNum ((half.drop (p + 49)).take 8)
 · rw [if_pos h2,if_pos h2];rfl
 rw [if_neg h2,if_neg h2]
 by_cases h3:(half.drop p).take (recB gen seq ((half.drop (p + 57)).take (rdNum ((half.drop (p + 49)).take 8)))).length = recB gen seq ((half.drop (p + 57)).take (rdNum ((half.drop (p + 49)).take 8)))
 · have h4:=congrArg List.length h3
   rw [List.length_take,List.length_drop] at h4;rw [if_pos h3,if_neg (by rw [not_or];exact ⟨by omega,fun h => h h3⟩)]
   rw [recNext];simp only [len_recB]
 · rw [if_neg h3,if_pos (Or.inr h3)];rfl
theorem jFirst_any (gen seq:Nat) (hg:gen < 18446744073709551616) (hq:seq < 18446744073709551616) (v:Value) (r:Bs) (hl:r.length < 8000000) (w:World) (hK:KOk w) (hr:Reads w v r):Calls Tryz.prog 114 #[v,.int .u64 (gen:Int),.int .u64 (seq:Int)] w fun e w' => ∃ vx,e = .returned (.tuple #[vx,.bool (firstR gen seq r).isSome]) ∧ (∀ x,firstR gen seq r = some x → ∀ W,Reads W v r → Reads W vx x) ∧ Below w.heap.size w w':=by
 obtain ⟨ad,c,hv,hc,hnn,hpos⟩:=id hr
 obtain ⟨n,HN⟩:=sqn (r.length)
 rw [← HN.out] at hv hc hl
 subst hv
 obtain ⟨fr,HFR⟩:=sqn (firstR gen seq r)
 rw [← HFR.out]
 by_cases h57:n < 57
 · have hfr:fr = none:=by rw [HFR.out,firstR,if_pos (by rw [← HN.out];exact h57)]
   subst hfr;have q1:(n:Int) < 57:=by omega
   clear hr hpos hnn hc hl hK
   go_enter Tryz.func114,Tryz.ntmps114
   go_wp2;refine bodyPost_ret (results_tmp2 rfl _ _ _) rfl ?_;exact ⟨_,rfl,(fun x h => by cases h),Below.refl _ _⟩
 obtain ⟨bb,off,had,_⟩:=hpos (by rw [← HN.out];omega)
 subst had
 have q1:¬ ((n:Int) < 57):=by omega
 obtain ⟨N,HNN⟩:=sqn (rdNum ((r.drop 49).take 8))
 have HCT:Hid (49 < n ∧ n ≤ c):=⟨by omega,hc⟩
 have HNM:Hid (∀ W,W = w → Calls Tryz.prog 133 #[.slice (some ⟨bb,off + 49,none⟩) (n - 49) (c - 49)] W fun e w' => e = .returned (.int .u64 (N:Int)) ∧ w' = W):=fun W hW => by
  subst hW
  rw [HNN.out]
  exact jRdNum_any _ _ _ _ (r.drop 49) (by rw [List.length_drop,← HN.out];omega) W (reads_drop hr 49 (by rw [← HN.out];omega))
 obtain ⟨m,HM⟩:=sqn (n - 57)
 have hm:=HM.out
 have f1:IntKind.i64.wrap ((n:Int) - 57) = (m:Int):=sJ (b:=57) (by omega) (by omega)
 have f2:IntKind.u64.wrap (m:Int) = (m:Int):=uJ (by omega)
 by_cases h2:N = 0 ∨ m < N
 · have hfr:fr = none:=by rw [HFR.out,firstR,if_neg (by rw [← HN.out];exact h57),← HNN.out,if_pos (by rw [← HN.out,← hm];exact h2)]
   subst hfr;clear hr hpos hnn hc hl hK hm
   by_cases hn0:N = 0
   · subst hn0
     go_enter Tryz.func114,Tryz.ntmps114
     obtain ⟨tk0,tk1⟩:=sqk2
     go_wp2_with (first
      | (clear tk0;refine wpSeq_val (.slice (some ⟨bb,off + 49,none⟩) (n - 49) (c - 49)) _ (by rfl) (cutFrom bb off n c 49 HCT.out.1 HCT.out.2 _ _ (.tmp 13) (.const (.int .i64 49)) rfl rfl rfl _) ?_)
      | (clear tk1;go_at_call 133;refine (HNM.out _ rfl).mono ?_;rintro e0 y1 ⟨rfl,hy1⟩;subst hy1))
     refine bodyPost_ret (results_tmp2 rfl _ _ _) rfl ?_;exact ⟨_,rfl,(fun x h => by cases h),Below.refl _ _⟩
   · have q2:((N:Int) == 0) = false:=by rw [beq_eq_false_iff_ne];omega
     have q3:(m:Int) < (N:Int):=by omega
     go_enter Tryz.func114,Tryz.ntmps114
     obtain ⟨tk0,tk1⟩:=sqk2
     go_wp2_with (first
      | (clear tk0;refine wpSeq_val (.slice (some ⟨bb,off + 49,none⟩) (n - 49) (c - 49)) _ (by rfl) (cutFrom bb off n c 49 HCT.out.1 HCT.out.2 _ _ (.tmp 13) (.const (.int .i64 49)) rfl rfl rfl _) ?_)
      | (clear tk1;go_at_call 133;refine (HNM.out _ rfl).mono ?_;rintro e0 y1 ⟨rfl,hy1⟩;subst hy1))
     refine bodyPost_ret (results_tmp2 rfl _ _ _) rfl ?_;exact ⟨_,rfl,(fun x h => by cases h),Below.refl _ _⟩
 have q2:((N:Int) == 0) = false:=by rw [beq_eq_false_iff_ne];omega
 have q3:¬ ((m:Int) < (N:Int)):=by omega
 have f3:IntKind.i64.wrap (N:Int) = (N:Int):=iJ (by omega)
 obtain ⟨e,HE⟩:=sqn (57 + N)
 have he:=HE.out
 have f4:IntKind.i64.wrap (57 + (N:Int)) = (e:Int):=by rw [IntKind.wrap_i64];omega
 have HC2:Hid (0 < N ∧ 57 + N ≤ n ∧ (e:Int) = ((57 + N:Nat):Int)):=⟨by omega,by omega,by omega⟩
 obtain ⟨x,HX⟩:=sqn ((r.drop 57).take N)
 have HXL:Hid (x.length = N):=by show _ = _;rw [HX.out,List.length_take,List.length_drop,← HN.out];omega
 have HXR:Hid (∀ W,Reads W (.slice (some ⟨bb,off,none⟩) n c) r → Reads W (.slice (some ⟨bb,off + 57,none⟩) N (c - 57)) x):=fun W hW => by rw [HX.out];exact hW.cutJ 57 N (c - 57) (by rw [← HN.out];omega) (by omega)
 have HRD:Hid (Reads w (.slice (some ⟨bb,off,none⟩) n c) r):=hr
 obtain ⟨ok,HOK⟩:=sqn (decide (r.take (recB gen seq x).length = recB gen seq x))
 have HFF:Hid (fr = if ok = true then some x else none):=by
  show _ = _
  rw [HFR.out,firstR,if_neg (by rw [← HN.out];exact h57),← HNN.out,if_neg (by rw [← HN.out,← hm];exact h2),← HX.out,HOK.out]
  by_cases h:r.take (recB gen seq x).length = recB gen seq x
  · rw [if_pos h,if_pos (by simp [h])]
  · rw [if_neg h,if_neg (by simp [h])]
 have HSO:Hid (ok = fr.isSome):=by show _ = _;rw [HFF.out];cases ok <;> rfl
 have HRC:Hid (Calls Tryz.prog 101 #[.int .u64 (gen:Int),.int .u64 (seq:Int),.slice (some ⟨bb,off + 57,none⟩) N (c - 57)] w fun e w' => ∃ v',e = .returned v' ∧ OwnB w' w.heap.size v' (recB gen seq x) ∧ Below w.heap.size w w'):=jRecord_own gen seq hg hq _ x (by rw [HXL.out];omega) w hK (HXR.out w hr)
 have HPF:Hid (∀ W v,Reads W (.slice (some ⟨bb,off,none⟩) n c) r → Reads W v (recB gen seq x) → Calls Tryz.prog 134 #[.slice (some ⟨bb,off,none⟩) n c,v] W fun e w' => e = .returned (.bool ok) ∧ Below W.heap.size W w'):=fun W v h1 h2 => by
  have h3:=bPrefix_any _ v r (recB gen seq x) W (by rw [← HN.out];omega) h1 h2
  rw [← HOK.out] at h3
  exact h3
 rw [← HSO.out]
 have HFX:Hid (∀ x',fr = some x' → x' = x):=fun x' h => by
  rw [HFF.out] at h
  cases hok:ok
  · rw [hok,if_neg Bool.false_ne_true] at h;cases h
  · rw [hok,if_pos rfl] at h;injection h with h;exact h.symm
 clear hr hpos hnn hc hl hK hm he h2 h57 hg hq
 go_enter Tryz.func114,Tryz.ntmps114
 obtain ⟨tk0,tk1,tk2,tk3,tk4⟩:=sqk5
 go_wp2_with (first
  | (clear tk0;refine wpSeq_val (.slice (some ⟨bb,off + 49,none⟩) (n - 49) (c - 49)) _ (by rfl) (cutFrom bb off n c 49 HCT.out.1 HCT.out.2 _ _ (.tmp 13) (.const (.int .i64 49)) rfl rfl rfl _) ?_)
  | (clear tk1;go_at_call 133;refine (HNM.out _ rfl).mono ?_;rintro e0 y1 ⟨rfl,hy1⟩;subst hy1)
  | (clear tk2;refine wpSeq_val (.slice (some ⟨bb,off + 57,none⟩) N (c - 57)) _ (by rfl) (cutMid bb off n c 57 N HC2.out.1 HC2.out.2.1 HCT.out.2 57 (e:Int) rfl HC2.out.2.2 _ _ (.tmp 26) (.const (.int .i64 57)) (.tmp 29) rfl rfl rfl rfl _) ?_)
  | (clear tk3;go_at_call 101;refine (HRC.out).mono ?_;rintro e0 y2 ⟨v2,rfl,ho,hz⟩
     have HO:Hid (Reads y2 v2 (recB gen seq x)):=ho.reads;have HBW:Hid (Below y1.heap.size y1 y2):=hz;clear ho hz)
  | (clear tk4;go_at_call 134;refine (HPF.out _ _ (HRD.out.below HBW.out) HO.out).mono ?_;rintro e0 y3 ⟨rfl,hz⟩
     replace HBW:Hid (Below y1.heap.size y1 y3):=HBW.out.trans (hz.mono HBW.out.size);clear hz))
 refine bodyPost_ret (results_tmp2 rfl _ _ _) rfl ?_
 exact ⟨_,rfl,(fun x' h => by rw [HFX.out x' h];exact HXR.out),HBW.out⟩
theorem wpAnyH_readC {P:Program} {md:Region.Mode} {ops:Array Oper} {Q:Exit → Act → World → Prop} {S:World → Prop} {fuel:Nat} {listed:Array Bool} {a:Act} {w:World} (i j:Nat) {oi oj:Oper} (v:Value) {f:FuncId} {args:Array Value} {R:Ending → World → Prop}
 (hr:Region.ready md ops listed = [i,j]) (hi:ops[i]? = some oi) (hj:ops[j]? = some oj)
 (wi:Region.wanted oi (yielded ops a.tmps) = true) (wj:Region.wanted oj (yielded ops a.tmps) = true) (wi2:∀ u,Region.wanted oi (yielded ops (a.put oj.dst u).tmps) = true) (wj2:Region.wanted oj (yielded ops (a.put oi.dst v).tmps) = true)
 (ei:(execOp a.eval oi).run P w = .ok (.value v) w) (ej:(execOp a.eval oj).run P w = .ok (.enter f args) w) (ej2:(execOp (a.put oi.dst v).eval oj).run P w = .ok (.enter f args) w) (hc:Calls P f args w R)
 (hr1:Region.ready md ops (listed.setIfInBounds i true) = [j]) (hr2:Region.ready md ops (listed.setIfInBounds j true) = [i])
 (hp:∀ u,(a.put oj.dst u).put oi.dst v = (a.put oi.dst v).put oj.dst u) (hl:(listed.setIfInBounds j true).setIfInBounds i true = (listed.setIfInBounds i true).setIfInBounds j true)
 (hS:S w) (h:∀ e w',R e w' → ∃ u,e = .returned u ∧ S w' ∧ (execOp (a.put oj.dst u).eval oi).run P w' = .ok (.value v) w' ∧ wpAnyH P md ops Q S fuel ((listed.setIfInBounds i true).setIfInBounds j true) ((a.put oi.dst v).put oj.dst u) w'):wpAnyH P md ops Q S (fuel + 2) listed a w:=by
 refine wpAnyH_all hr (by simp) (fun k hk => ?_)
 rcases List.mem_cons.1 hk with rfl | hk
 · refine wpOp_vl k v w hi wi ei ⟨hS,wpAnyH_enter j hr1 hj wj2 ej2 hc fun e w' hR => ?_⟩
   obtain ⟨u,h1,h2,_,h4⟩:=h e w' hR;exact ⟨u,h1,h2,h4⟩
 · obtain rfl:k = j:=by simpa using hk
   unfold wpOp;rw [hj];simp only [wj,if_true]
   left
   unfold Oper.wp;rw [ej,Oper.upon_enter];refine hc.mono ?_;intro e w' hR;obtain ⟨u,rfl,h2,h3,h4⟩:=h e w' hR;refine ⟨h2,wpAnyH_step i v w' hr2 hi (wi2 u) h3 h2 ?_⟩;rw [hl,hp];exact h4
theorem wpAnyH_skip {P:Program} {md:Region.Mode} {ops:Array Oper} {Q:Exit → Act → World → Prop} {S:World → Prop} {fuel:Nat} {listed:Array Bool} {a:Act} {w:World} (i:Nat) {oi:Oper} (w':World)
 (hr:Region.ready md ops listed = [i]) (hi:ops[i]? = some oi) (hw:Region.wanted oi (yielded ops a.tmps) = true) (he:(execOp a.eval oi).run P w = .ok .skip w') (hS:S w')
 (h:wpAnyH P md ops Q S fuel (listed.setIfInBounds i true) (a.put oi.dst undef) w'):wpAnyH P md ops Q S (fuel + 1) listed a w:=by
 refine wpAnyH_law i hr hi hw ?_
 unfold Oper.wp
 rw [he]
 exact ⟨hS,h⟩
theorem Blk.grownJ {w w':World} {g:Nat} {cs:List Value} {t:TypeId} {row:Option Nat} (h:Blk w g cs t) (hg:w.grownBy w' row) (hne:row ≠ some g):Blk w' g cs t:=by
 have hh:w.heap[g]? = some (.cells cs.toArray t (0,0)):=h
 show w'.heap[g]? = some (.cells cs.toArray t (0,0))
 rw [hg.block g h.lt (fun e => hne e.symm)]
 exact hh
theorem wpAnyH_readCB {P:Program} {md:Region.Mode} {ops:Array Oper} {Q:Exit → Act → World → Prop} {S:World → Prop} {fuel:Nat} {listed:Array Bool} {a:Act} {w:World} (i j k:Nat) {oi oj ok:Oper} (v:Value) {f:FuncId} {args:Array Value} {R:Ending → World → Prop}
 (hr:Region.ready md ops listed = [i,j]) (hi:ops[i]? = some oi) (hj:ops[j]? = some oj) (hk:ops[k]? = some ok)
 (wi:Region.wanted oi (yielded ops a.tmps) = true) (wj:Region.wanted oj (yielded ops a.tmps) = true) (wi2:∀ u,Region.wanted oi (yielded ops (a.put oj.dst u).tmps) = true) (wi3:∀ u u2,Region.wanted oi (yielded ops ((a.put oj.dst u).put ok.dst u2).tmps) = true) (wj2:Region.wanted oj (yielded ops (a.put oi.dst v).tmps) = true)
 (wk:∀ u,Region.wanted ok (yielded ops (a.put oj.dst u).tmps) = true) (wk2:∀ u,Region.wanted ok (yielded ops ((a.put oi.dst v).put oj.dst u).tmps) = true)
 (ei:(execOp a.eval oi).run P w = .ok (.value v) w) (ej:(execOp a.eval oj).run P w = .ok (.enter f args) w) (ej2:(execOp (a.put oi.dst v).eval oj).run P w = .ok (.enter f args) w) (hc:Calls P f args w R)
 (hr1:Region.ready md ops (listed.setIfInBounds i true) = [j]) (hr2:Region.ready md ops (listed.setIfInBounds j true) = [i,k]) (hr12:Region.ready md ops ((listed.setIfInBounds i true).setIfInBounds j true) = [k]) (hr3:Region.ready md ops ((listed.setIfInBounds j true).setIfInBounds k true) = [i])
 (hp:∀ u,(a.put oj.dst u).put oi.dst v = (a.put oi.dst v).put oj.dst u) (hp3:∀ u u2,((a.put oj.dst u).put ok.dst u2).put oi.dst v = ((a.put oi.dst v).put oj.dst u).put ok.dst u2)
 (hl:(listed.setIfInBounds j true).setIfInBounds i true = (listed.setIfInBounds i true).setIfInBounds j true) (hl3:((listed.setIfInBounds j true).setIfInBounds k true).setIfInBounds i true = ((listed.setIfInBounds i true).setIfInBounds j true).setIfInBounds k true)
 (hS:S w) (h:∀ e w',R e w' → ∃ u,e = .returned u ∧ S w' ∧ (execOp (a.put oj.dst u).eval oi).run P w' = .ok (.value v) w' ∧ ∃ u2 w2,(execOp (a.put oj.dst u).eval ok).run P w' = .ok (.value u2) w2 ∧ (execOp ((a.put oi.dst v).put oj.dst u).eval ok).run P w' = .ok (.value u2) w2 ∧ S w2 ∧
   (execOp ((a.put oj.dst u).put ok.dst u2).eval oi).run P w2 = .ok (.value v) w2 ∧ wpAnyH P md ops Q S fuel (((listed.setIfInBounds i true).setIfInBounds j true).setIfInBounds k true) (((a.put oi.dst v).put oj.dst u).put ok.dst u2) w2):wpAnyH P md ops Q S (fuel + 3) listed a w:=by
 have tail:∀ e w' u,R e w' → e = .returned u → S w' ∧ wpAnyH P md ops Q S (fuel + 1) ((listed.setIfInBounds i true).setIfInBounds j true) ((a.put oi.dst v).put oj.dst u) w':=by
  intro e w' u hR he
  obtain ⟨u',h1,h2,_,u2,w2,_,h5,h6,_,h7⟩:=h e w' hR
  rw [he] at h1
  obtain rfl:u = u':=by injection h1
  exact ⟨h2,wpAnyH_step k u2 w2 hr12 hk (wk2 u) h5 h6 h7⟩
 refine wpAnyH_all hr (by simp) (fun q hq => ?_)
 rcases List.mem_cons.1 hq with rfl | hq
 · refine wpOp_vl q v w hi wi ei ⟨hS,wpAnyH_enter j hr1 hj wj2 ej2 hc fun e w' hR => ?_⟩
   obtain ⟨u,h1,_⟩:=h e w' hR;exact ⟨u,h1,tail e w' u hR h1⟩
 · obtain rfl:q = j:=by simpa using hq
   unfold wpOp;rw [hj];simp only [wj,if_true]
   left
   unfold Oper.wp;rw [ej,Oper.upon_enter];refine hc.mono ?_;intro e w' hR;obtain ⟨u,h1,h2,h3,u2,w2,h4,h5,h6,h7,h8⟩:=h e w' hR;have ht:=tail e w' u hR h1;subst h1;refine ⟨h2,?_⟩;refine wpAnyH_all hr2 (by simp) (fun r hr' => ?_)
   rcases List.mem_cons.1 hr' with rfl | hr'
   · refine wpOp_vl r v w' hi (wi2 u) h3 ⟨h2,?_⟩
     rw [hl,hp];exact ht.2
   · obtain rfl:r = k:=by simpa using hr'
     refine wpOp_vl r u2 w2 hk (wk u) h4 ⟨h6,wpAnyH_step i v w2 hr3 hi (wi3 u u2) h7 h6 ?_⟩;rw [hl3,hp3];exact h8
def ctC (k gen:Nat) (vr:Value) (u:Nat):List Value:=[.int .i64 (k:Int),.int .u64 (gen:Int),vr,.int .i64 (u:Int)]
def ctZ:List Value:=ctC 0 0 (.slice none 0 0) 0
theorem size_ct:(Tryz.prog.info? 138).map (·.size) = some 4:=by kernel_rfl
theorem info_ct (k gen:Nat) (vr:Value) (u:Nat):(Tryz.prog.info? 138).map (·.size) = some (ctC k gen vr u).length:=size_ct
theorem len_ct (k gen:Nat) (vr:Value) (u k' gen':Nat) (vr':Value) (u':Nat):(ctC k gen vr u).length = (ctC k' gen' vr' u').length:=rfl
theorem len_ctZ (k gen:Nat) (vr:Value) (u:Nat):(ctC k gen vr u).length = ctZ.length:=rfl
theorem built_ct (a b:Int) (ps:List (Nat × Value)) (h:ps = [(0,.int .i64 a),(1,.int .u64 b)]):Tryz.prog.built 138 ps = some #[.int .i64 a,.int .u64 b,.slice none 0 0,.int .i64 0]:=by subst h;kernel_rfl
theorem alloc_ctJ (f:Operand → Value) (o:Oper) (ho:o.op = .alloc 138) (w:World):(execOp f o).run Tryz.prog w = .ok (.value (.pointer (some ⟨w.heap.size,0,none⟩))) (w.alloc (.cells ctZ.toArray 138)):=by
 unfold execOp
 rw [ho]
 kernel_rfl
theorem wpSeq_allocCt {ops:Array Oper} {Q:Exit → Act → World → Prop} {rest:List Oper} {o:Oper} {a:Act} {w:World} (ho:o.op = .alloc 138) (hw:Region.wanted o (yielded ops a.tmps) = true)
 (h:∀ g w',NewR ctZ 138 w g w' → wpList Tryz.prog ops Q rest (a.put o.dst (.pointer (some ⟨g,0,none⟩))) w'):wpList Tryz.prog ops Q (o :: rest) a w:=
 wpSeq_val _ _ hw (alloc_ctJ _ _ ho _) (h _ _ (NewR.of _ _ w))
theorem ct_one (k gen:Nat) (a:Option Addr) (n c u:Nat):∀ v ∈ ctC k gen (.slice a n c) u,v.oneCell' = true:=by
 intro v hv
 simp only [ctC,List.mem_cons,List.not_mem_nil,or_false] at hv
 rcases hv with rfl | rfl | rfl | rfl <;> rfl
theorem var_ct {w:World} {g k gen:Nat} {vr:Value} {u:Nat} (hb:Blk w g (ctC k gen vr u) 138):(loadVar 138 ⟨g,0,none⟩).run Tryz.prog w = .ok (.agg (ctC k gen vr u).toArray) w:=
 run_loadVar_row w g 138 138 _ (0,0) _ hb Tryz.underlying138 rfl (by rw [List.size_toArray];exact size_ct)
theorem ownB_lower {w:World} {base B:Nat} {v:Value} {l:Bs} (h:OwnB w base v l) (hB:B ≤ base):OwnB w B v l:=by
 rcases h with ⟨h1,⟨rfl,h2⟩ | ⟨g,cap,cur,rfl,hg,r⟩⟩
 · exact ⟨h1,Or.inl ⟨rfl,h2⟩⟩
 · exact ⟨h1,Or.inr ⟨g,cap,cur,rfl,Nat.le_trans hB hg,r⟩⟩
structure LkA (w:World) (g2 g5 k gen:Nat) (vr:Value) (u:Nat) (W:World):Prop where
 f:Blk W g5 (ctC k gen vr u) 138
 r:Blk W g2 ctZ 138
 bel:Below w.heap.size w W
 ge2:w.heap.size ≤ g2
 ge5:w.heap.size ≤ g5
 ne:g2 ≠ g5
theorem LkA.next {w:World} {g2 g5 k gen u:Nat} {vr:Value} {W W':World} (h:LkA w g2 g5 k gen vr u W) (hb:Below W.heap.size W W'):LkA w g2 g5 k gen vr u W':=
 ⟨h.f.below hb h.f.lt,h.r.below hb h.r.lt,h.bel.trans (hb.mono h.bel.size),h.ge2,h.ge5,h.ne⟩
theorem LkA.store {w:World} {g2 g5 k gen u k' gen' u':Nat} {vr vr':Value} {W W':World} (h:LkA w g2 g5 k gen vr u W) (ho:Only g5 W W') (hb:Blk W' g5 (ctC k' gen' vr' u') 138):LkA w g2 g5 k' gen' vr' u' W':=
 ⟨hb,h.r.only ho h.ne,h.bel.trans (ho.below h.ge5 h.bel.size),h.ge2,h.ge5,h.ne⟩
theorem LkA.grown {w:World} {g2 g5 k gen u:Nat} {vr v:Value} {us:List Value} {base:Nat} {W W':World} (h:LkA w g2 g5 k gen vr u W) (hg:W.grownBy W' v.ownBlock) (hx:OwnX W base v us) (hb:Below w.heap.size W W'):LkA w g2 g5 k gen vr u W':=by
 have hne:∀ g cs,Blk W g cs 138 → v.ownBlock ≠ some g:=fun g cs hbk e => by
  rcases hx with ⟨_,⟨rfl,_⟩ | ⟨g2,cap2,cur2,rfl,_,hh2,_⟩⟩
  · cases e
  have e2:g2 = g:=by simpa [Value.ownBlock] using e
  unfold Blk at hbk
  rw [← e2,hh2] at hbk
  simp only [Option.some.injEq,Obj.cells.injEq] at hbk
  exact absurd hbk.2.1 (by decide)
 exact ⟨h.f.grownJ hg (hne _ _ h.f),h.r.grownJ hg (hne _ _ h.r),h.bel.trans hb,h.ge2,h.ge5,h.ne⟩
theorem TxJ.onlyT {base:Nat} {v:Value} {us:List Value} {xs:List Bs} {W W':World} {g:Nat} {cs:List Value} {t:TypeId} (h:TxJ base v us xs W) (ho:Only g W W') (hb:Blk W g cs t) (h1:t ≠ 23) (h2:t ≠ 5):TxJ base v us xs W':=by
 refine ⟨h.own.same fun k hk => ho.block k (fun e => ?_) (h.own.lt k hk).2,h.len,fun j u hj => (h.good j u hj).sameJ fun k hk => ho.block k (fun e => ?_) ((h.good j u hj).ltJ k hk).2,Nat.le_trans h.ge ho.size⟩
 · subst e
   rcases h.own with ⟨_,⟨rfl,_⟩ | ⟨g2,cap2,cur2,rfl,_,hh2,_⟩⟩
   · cases hk
   have e2:g2 = k:=by simpa [Value.ownBlock] using hk
   unfold Blk at hb;rw [← e2,hh2] at hb;simp only [Option.some.injEq,Obj.cells.injEq] at hb;exact h1 hb.2.1.symm
 · subst e
   rcases h.good j u hj with ⟨_,⟨rfl,_⟩ | ⟨g2,cap2,cur2,rfl,_,hh2,_⟩⟩
   · cases hk
   have e2:g2 = k:=by simpa [Value.ownBlock] using hk
   unfold Blk at hb;rw [← e2,hh2] at hb;simp only [Option.some.injEq,Obj.cells.injEq] at hb;exact h2 hb.2.1.symm
theorem TxJ.form {base:Nat} {v:Value} {us:List Value} {xs:List Bs} {W:World} (h:TxJ base v us xs W):∃ a c,v = .slice a xs.length c:=by
 obtain ⟨a,c,hv⟩:=h.own.form
 exact ⟨a,c,by rw [hv,h.len]⟩
theorem ownB_form {w:World} {base:Nat} {v:Value} {l:Bs} (h:OwnB w base v l):∃ a c,v = .slice a l.length c:=by
 rcases h with ⟨_,⟨rfl,h2⟩ | ⟨g',cap,cur,rfl,_⟩⟩
 · exact ⟨none,0,by rw [h2]⟩
 · exact ⟨_,_,rfl⟩
theorem run_appX (f:Operand → Value) (o:Oper) (w:World) (s x:Operand) (base:Nat) (v u:Value) (us:List Value) (g:Nat)
 (hown:OwnX w base v us) (hu:w.cell? ⟨g,0,none⟩ = some u) (h1:u.oneCell' = true) (hl:us.length < 1000000) (hbase:base ≤ w.heap.size)
 (ho:o.op = .call { callee:=.builtin .append,args:=#[s,x],argTypes:=#[41,41] }) (hs:f s = v) (hx:f x = .slice (some ⟨g,0,none⟩) 1 1) :
 ∃ v' w',(execOp f o).run Tryz.prog w = .ok (.value v') w' ∧ OwnX w' base v' (us ++ [u]) ∧ w.grownBy w' v.ownBlock ∧ (v'.ownBlock = v.ownBlock ∨ v'.ownBlock = some w.heap.size):=by
 obtain ⟨i0,hi,hz0,hz1,hz2⟩:=info_parts Tryz.infobsJ
 obtain ⟨v',w',hr,h2,h3,_,h5⟩:=run_append_own_at (P:=Tryz.prog) w base 41 o.type 23 i0 (.slice none 0 0) 1 24 Tryz.underlying41 hi hz0 hz1 hz2 rfl (by decide) v us.length us hown ⟨g,0,none⟩ 1 1 [u] rfl (by
  intro j u' hj
  match j,hj with
  | 0,hj => simp at hj;subst hj;simpa [Addr.add] using hu) (by intro u' hu';simp at hu';subst hu';exact h1) (by unfold maxLen;omega) (by omega) hbase
 refine ⟨v',w',?_,by unfold OwnX;rw [List.length_append];exact h2,h3,h5⟩
 unfold execOp
 simp only [ho,resolve,invoke,builtin,Sem.run_bind,Sem.run_pure,Result.andThen_ok,List.map_toArray,List.map_cons,List.map_nil,hs,hx,hr]
theorem wpAnyH_appX {md:Region.Mode} {ops:Array Oper} {Q:Exit → Act → World → Prop} {S:World → Prop} {fuel:Nat} {listed:Array Bool} {a:Act} {w:World} (i:Nat) {oi:Oper} (s x:Operand) (base:Nat) (v u:Value) (us:List Value) (g:Nat)
 (hown:OwnX w base v us) (hu:w.cell? ⟨g,0,none⟩ = some u) (h1:u.oneCell' = true) (hl:us.length < 1000000) (hbase:base ≤ w.heap.size)
 (hr:Region.ready md ops listed = [i]) (hi:ops[i]? = some oi) (hw:Region.wanted oi (yielded ops a.tmps) = true) (ho:oi.op = .call { callee:=.builtin .append,args:=#[s,x],argTypes:=#[41,41] }) (hs:a.eval s = v) (hx:a.eval x = .slice (some ⟨g,0,none⟩) 1 1)
 (h:∀ v' w',OwnX w' base v' (us ++ [u]) → w.grownBy w' v.ownBlock → (v'.ownBlock = v.ownBlock ∨ v'.ownBlock = some w.heap.size) → S w' ∧ wpAnyH Tryz.prog md ops Q S fuel (listed.setIfInBounds i true) (a.put oi.dst v') w'):wpAnyH Tryz.prog md ops Q S (fuel + 1) listed a w:=by
 obtain ⟨v',w',hr4,ho4,hg4,ha4⟩:=run_appX a.eval oi w s x base v u us g hown hu h1 hl hbase ho hs hx
 exact wpAnyH_step i v' w' hr hi hw hr4 (h v' w' ho4 hg4 ha4).1 (h v' w' ho4 hg4 ha4).2
theorem cutFrom2 (b off n c l:Nat) (hl:l ≤ n) (hn:0 < n) (hc:n ≤ c):∃ ad c2,(∀ (f:Operand → Value) (o:Oper) (x y:Operand),o.op = .slice 23 x (some y) none none → f x = .slice (some ⟨b,off,none⟩) n c → f y = .int .i64 (l:Int) → ∀ w,(execOp f o).run Tryz.prog w = .ok (.value (.slice ad (n - l) c2)) w) ∧ ∀ W L,Reads W (.slice (some ⟨b,off,none⟩) n c) L → Reads W (.slice ad (n - l) c2) (L.drop l):=by
 by_cases h:l < n
 · exact ⟨_,_,fun f o x y ho hx hy w => cutFrom b off n c l h hc f o x y ho hx hy w,fun W L hr => reads_drop hr l (by have:=(reads_nc hr).1;omega)⟩
 · obtain rfl:l = n:=by omega
   have hrd:∀ ad c2 W L,ad ≠ none → Reads W (.slice (some ⟨b,off,none⟩) l c) L → Reads W (.slice ad (l - l) c2) (L.drop l):=fun ad c2 W L ha hr => by
    have h0:L.drop l = []:=List.drop_eq_nil_of_le (by have:=(reads_nc hr).1;omega)
    rw [h0,Nat.sub_self];exact ⟨ad,c2,rfl,Nat.zero_le _,fun e => absurd e ha,fun h => by simp at h⟩
   by_cases hcc:c = l
   · refine ⟨some ⟨b,off,none⟩,c - l,fun f o x y ho hx hy w => ?_,fun W L hr => hrd _ _ W L (by simp) hr⟩
     have hs:(sizeOf 5).run Tryz.prog w = .ok 1 w:=by kernel_rfl
     unfold execOp;rw [ho];simp only [hx,hy,Option.map_some,Option.map_none,Sem.run_bind];rw [run_sliceAt_slice w 23 _ _ _ _ (by kernel_rfl),run_slice_l w 23 _ _ _ (by kernel_rfl) .i64 (l:Int) (by omega) (by omega)]
     rw [show Tryz.prog.elem 23 = 5 from by kernel_rfl,hs]
     simp only [Result.andThen_ok,sliced,Int.toNat_natCast,Nat.mul_one];rw [if_pos hcc];simp
   · refine ⟨some ⟨b,off + l,none⟩,c - l,fun f o x y ho hx hy w => ?_,fun W L hr => hrd _ _ W L (by simp) hr⟩
     have hs:(sizeOf 5).run Tryz.prog w = .ok 1 w:=by kernel_rfl
     unfold execOp;rw [ho];simp only [hx,hy,Option.map_some,Option.map_none,Sem.run_bind];rw [run_sliceAt_slice w 23 _ _ _ _ (by kernel_rfl),run_slice_l w 23 _ _ _ (by kernel_rfl) .i64 (l:Int) (by omega) (by omega)]
     rw [show Tryz.prog.elem 23 = 5 from by kernel_rfl,hs]
     simp only [Result.andThen_ok,sliced,Int.toNat_natCast,Nat.mul_one];rw [if_neg hcc];simp [Addr.add_mid]
def pkJ (b:Bs) (j:Nat):Nat × Nat:=if j = 0 then (0,0) else if j = 1 then (0,genH (halfB b 0)) else pickB b
theorem pk_step (b:Bs) {j:Nat} (hj:j < 2):pkJ b (j + 1) = if (pkJ b j).2 < genH (halfB b j) then (j,genH (halfB b j)) else pkJ b j:=by
 match j,hj with
 | 0,_ =>
  show (0,genH (halfB b 0)) = if 0 < genH (halfB b 0) then (0,genH (halfB b 0)) else (0,0)
  by_cases h:0 < genH (halfB b 0)
  · rw [if_pos h]
  · rw [if_neg h];congr 1;omega
 | 1,_ => rfl
theorem gen_take (X:Bs) {H:Nat} (h:64 ≤ H):genH (X.take H) = genH X:=by
 have e1:((X.take H).drop 1).take 8 = (X.drop 1).take 8:=by rw [List.drop_take,List.take_take];congr 1;omega
 have e2:(X.take H).take 64 = X.take 64:=by rw [List.take_take];congr 1;omega
 unfold genH
 rw [e1,e2]
theorem gen_lt (b:Bs) (k:Nat):genH (halfB b k) < 18446744073709551616:=by
 by_cases h:genH (halfB b k) = 0
 · rw [h];decide
 · exact (gen_is h).2
theorem pick_lt (b:Bs):(pickB b).2 < 18446744073709551616 ∧ (pickB b).1 ≤ 1:=by
 unfold pickB
 split
 · exact ⟨gen_lt b 1,Nat.le_refl _⟩
 · exact ⟨gen_lt b 0,Nat.zero_le _⟩
def slLen:Value → Nat
 | .slice _ n _ => n
 | _ => 0
structure LookA (w:World) (b:Bs) (k gen:Nat) (vr:Value) (us:List Value) (u:Nat) (cl:Bool) (w':World):Prop where
 pk:pickB b = (k,gen)
 z:gen = 0 → vr = .slice none 0 0 ∧ us = [] ∧ u = 0 ∧ cl = false
 nz:gen ≠ 0 → TxJ w.heap.size vr us (recsOf gen (halfB b k)).1 w' ∧ (recsOf gen (halfB b k)).2 = 64 * u ∧ cl = decide (∀ z ∈ (halfB b k).drop (recsOf gen (halfB b k)).2,z = 0)
 bel:Below w.heap.size w w'
def LookP (w:World) (b:Bs) (e:Ending) (w':World):Prop:=∃ k gen vr us u cl,e = .returned (.tuple #[.agg (ctC k gen vr u).toArray,.bool cl]) ∧ LookA w b k gen vr us u cl w'
theorem jLook_any (bb off n c:Nat) (b:Bs) (hok:okB b) (hl:b.length < 8000000) (w:World) (hK:KOk w) (hr:Reads w (.slice (some ⟨bb,off,none⟩) n c) b):Calls Tryz.prog 88 #[.slice (some ⟨bb,off,none⟩) n c] w fun e w' => LookP w b e w':=by
 obtain ⟨hn,hc⟩:=reads_nc hr
 obtain ⟨q,HQ⟩:=sqn (n / 64)
 obtain ⟨q2,HQ2⟩:=sqn (q / 2)
 obtain ⟨H,HH⟩:=sqn (q2 * 64)
 have hq:=HQ.out
 have hq2:=HQ2.out
 have hh:=HH.out
 obtain ⟨hk1,hk2⟩:=hok
 rw [← hn] at hk1 hk2 hl
 have HHN:Hid (halfN b = H):=by show _ = _;rw [halfN,← hn,hh,hq2,hq]
 have f1:wrap64 ((n:Int) / 64) = (q:Int):=qJ hq (by omega)
 have f2:wrap64 ((q:Int) / 2) = (q2:Int):=qJ hq2 (by omega)
 have f3:IntKind.i64.wrap ((q2:Int) * 64) = (H:Int):=mJ hh (by omega)
 have HB8:Hid (256 ≤ H ∧ 2 * H ≤ n ∧ n < 8000000 ∧ n ≤ c ∧ H % 64 = 0):=⟨by omega,by omega,hl,hc,by omega⟩
 have HNL:Hid (n = b.length):=hn
 have HR:Hid (Reads w (.slice (some ⟨bb,off,none⟩) n c) b):=hr
 have HK:Hid (KOk w):=hK
 clear hq hq2 hh hk1 hk2 hl hn hc hr hK
 go_enter Tryz.func88,Tryz.ntmps88
 obtain ⟨tk0,tk1⟩:=sqk2
 go_wp2_with (first
  | (clear tk0;with_reducible refine wpSeq_allocCt ?_ ?_ ?_
     · rfl
     · rfl
     intro g2 y1 nn;have H2:Hid (Blk y1 g2 ctZ 138):=nn.blk;have HG2:Hid (w.heap.size ≤ g2):=nn.ge;have HBW:Hid (Below w.heap.size w y1):=nn.below;clear nn)
  | (clear tk1;with_reducible refine wpSeq_allocCt ?_ ?_ ?_
     · rfl
     · rfl
     intro g5 y2 nn;have HLK:Hid (LkA w g2 g5 0 0 (.slice none 0 0) 0 y2):=⟨nn.blk,H2.out.below nn.below H2.out.lt,HBW.out.trans (nn.below.mono HBW.out.size),HG2.out,Nat.le_trans HBW.out.size nn.ge,fun e => by have h1:=H2.out.lt;have h2:=nn.ge;omega⟩
     clear nn))
 clear H2 HG2 HBW f1 f2 f3
 go_loopw [16] (fun i wr => ∃ j:Nat,j ≤ 2 ∧ i = .int .i64 (j:Int) ∧ Hid (LkA w g2 g5 (pkJ b j).1 (pkJ b j).2 (.slice none 0 0) 0 wr)) (fun i _ => 2 - (intOf i).toNat)
 case atStart => exact ⟨0,by omega,rfl,HLK⟩
 case round =>
  clear HLK
  obtain ⟨j,hj,rfl,HLK⟩:=hrel
  by_cases hlt:j < 2
  case pos =>
   have hlk:(j:Int) < 2:=by omega
   have f5:IntKind.i64.wrap ((j:Int) + 1) = (j:Int) + 1:=by rw [IntKind.wrap_i64];omega
   obtain ⟨o,HO⟩:=sqn (j * H);have hoH:o ≤ H:=by rw [HO.out];match j,hlt with | 0,_ => omega | 1,_ => omega
   have f4:IntKind.i64.wrap ((j:Int) * (H:Int)) = (o:Int):=mJ HO.out (by have:=HB8.out;omega)
   have HCT:Hid (o < n ∧ n ≤ c):=⟨by have:=HB8.out;omega,HB8.out.2.2.2.1⟩
   obtain ⟨gj,HGJ⟩:=sqn (genH (halfB b j));obtain ⟨kk,gg,HPK⟩:∃ k g,Hid (pkJ b j = (k,g)):=⟨_,_,rfl⟩;have HLK1:Hid (LkA w g2 g5 kk gg (.slice none 0 0) 0 wr):=by have h:=HLK.out;rw [HPK.out] at h;exact h
   have HPS:Hid (pkJ b (j + 1) = if gg < gj then (j,gj) else (kk,gg)):=by show _ = _;rw [pk_step b hlt,← HGJ.out,HPK.out]
   have HBG:Hid (∀ W,Below w.heap.size w W → Calls Tryz.prog 113 #[.slice (some ⟨bb,off + o,none⟩) (n - o) (c - o)] W fun e w' => e = .returned (.int .u64 (gj:Int)) ∧ Below W.heap.size W w'):=fun W hW => by
    have h1:=reads_drop (HR.out.below hW) o (by rw [← HNL.out];exact Nat.le_of_lt HCT.out.1)
    have h2:=jBegun_any bb (off + o) (n - o) (c - o) (b.drop o) (by rw [List.length_drop,← HNL.out];have:=HB8.out;omega) W (HK.out.below hW HK.out.lt) h1
    have h3:genH (b.drop o) = gj:=by rw [HGJ.out,halfB,gen_take _ (by rw [HHN.out];have:=HB8.out;omega),HHN.out,HO.out]
    rw [h3] at h2;exact h2
   clear HLK hoH
   by_cases hgt:gg < gj
   case pos =>
    have q1:(gg:Int) < (gj:Int):=by omega
    obtain ⟨tk0,tk1,tk2,tk3⟩:=sqk4
    go_wp2_with (first
     | (clear tk0;refine wpSeq_val (.slice (some ⟨bb,off + o,none⟩) (n - o) (c - o)) _ (by rfl) (cutFrom bb off n c o HCT.out.1 HCT.out.2 _ _ (.tmp 19) (.tmp 22) rfl rfl rfl _) ?_)
     | (clear tk1;go_at_call 113;refine (HBG.out _ HLK1.out.bel).mono ?_;rintro e0 y1 ⟨rfl,hz⟩
        replace HLK1:Hid (LkA w g2 g5 kk gg (.slice none 0 0) 0 y1):=HLK1.out.next hz;have c1:y1.cell? ⟨g5,1,none⟩ = some (.int .u64 (gg:Int)):=HLK1.out.f.cell 1;clear hz)
     | (clear tk2;with_reducible refine wpSeq_build 138 [(0,.tmp 29),(1,.tmp 30)] (ctC j gj (.slice none 0 0) 0) ?_ ?_ ?_ ?_
        · exact built_ct _ _ _ rfl
        · rfl
        · rfl)
     | (clear tk3;with_reducible refine wpSeq_storeRow 138 (.tmp 5) (.tmp 31) g5 (ctC kk gg (.slice none 0 0) 0) (ctC j gj (.slice none 0 0) 0) HLK1.out.f (len_ct _ _ _ _ _ _ _ _) (info_ct _ _ _ _) (ct_one _ _ _ _ _ _) ?_ ?_ ?_ ?_ ?_
        · rfl
        · rfl
        · rfl
        · rfl
        intro y2 hs;have HLK2:Hid (LkA w g2 g5 j gj (.slice none 0 0) 0 y2):=HLK1.out.store hs.only hs.blk;clear hs c1))
    have HLK3:Hid (LkA w g2 g5 (pkJ b (j + 1)).1 (pkJ b (j + 1)).2 (.slice none 0 0) 0 y2):=by rw [HPS.out,if_pos hgt];exact HLK2
    go_roundw
    case rel => exact ⟨j + 1,by omega,by simp,HLK3⟩
    case measure => simp [intOf];omega
   case neg =>
    have q1:¬ ((gg:Int) < (gj:Int)):=by omega
    obtain ⟨tk0,tk1⟩:=sqk2
    go_wp2_with (first
     | (clear tk0;refine wpSeq_val (.slice (some ⟨bb,off + o,none⟩) (n - o) (c - o)) _ (by rfl) (cutFrom bb off n c o HCT.out.1 HCT.out.2 _ _ (.tmp 19) (.tmp 22) rfl rfl rfl _) ?_)
     | (clear tk1;go_at_call 113;refine (HBG.out _ HLK1.out.bel).mono ?_;rintro e0 y1 ⟨rfl,hz⟩
        replace HLK1:Hid (LkA w g2 g5 kk gg (.slice none 0 0) 0 y1):=HLK1.out.next hz;have c1:y1.cell? ⟨g5,1,none⟩ = some (.int .u64 (gg:Int)):=HLK1.out.f.cell 1;clear hz))
    have HLK3:Hid (LkA w g2 g5 (pkJ b (j + 1)).1 (pkJ b (j + 1)).2 (.slice none 0 0) 0 y1):=by rw [HPS.out,if_neg hgt];exact HLK1
    go_roundw
    case rel => exact ⟨j + 1,by omega,by simp,HLK3⟩
    case measure => simp [intOf];omega
  case neg =>
   obtain rfl:j = 2:=by omega
   have hlk:¬ (((2:Nat):Int) < 2):=by omega
   obtain ⟨k,gen,HPK⟩:∃ k g,Hid (pickB b = (k,g)):=⟨_,_,rfl⟩;have hpl:=pick_lt b;rw [HPK.out] at hpl;have HKG:Hid (gen < 18446744073709551616 ∧ k ≤ 1):=hpl
   have HLK1:Hid (LkA w g2 g5 k gen (.slice none 0 0) 0 wr):=by
    have h:=HLK.out;have e:pkJ b 2 = (k,gen):=HPK.out;rw [e] at h;exact h
   have c1:wr.cell? ⟨g5,1,none⟩ = some (.int .u64 (gen:Int)):=HLK1.out.f.cell 1;clear HLK hpl
   by_cases hg0:gen = 0
   case pos =>
    subst hg0
    have HPK0:Hid (k = 0):=by
     have h:=HPK.out;unfold pickB at h
     by_cases hc:genH (halfB b 0) < genH (halfB b 1)
     · rw [if_pos hc] at h
       have:=congrArg Prod.snd h;simp only at this;omega
     · rw [if_neg hc] at h
       exact (congrArg Prod.fst h).symm
    obtain ⟨tk0,tk1⟩:=sqk2
    go_wp2_with (first
     | (clear tk0;with_reducible refine wpSeq_loadW 138 (.tmp 5) g5 0 (ctC k 0 (.slice none 0 0) 0) _ HLK1.out.f.range Tryz.underlying138 rfl (info_ct _ _ _ _) ?_ ?_ ?_ ?_
        · rfl
        · rfl
        · rfl)
     | (clear tk1;with_reducible refine wpSeq_storeRow 138 (.tmp 2) (.tmp 36) g2 ctZ (ctC k 0 (.slice none 0 0) 0) HLK1.out.r (len_ctZ _ _ _ _) (info_ct _ _ _ _) (ct_one _ _ _ _ _ _) ?_ ?_ ?_ ?_ ?_
        · rfl
        · rfl
        · rfl
        · rfl
        intro y2 hs;have HBR:Hid (Blk y2 g2 (ctC k 0 (.slice none 0 0) 0) 138):=hs.blk;have HBW:Hid (Below w.heap.size w y2):=HLK1.out.bel.trans (hs.only.below HLK1.out.ge2 HLK1.out.bel.size);clear hs c1))
    refine bodyPost_ret (results_row_tmp rfl _ _ g2 (.agg (ctC k 0 (.slice none 0 0) 0).toArray) rfl (var_ct HBR.out)) rfl ?_;exact ⟨k,0,_,[],0,false,rfl,HPK.out,fun _ => ⟨rfl,rfl,rfl,rfl⟩,fun h => absurd rfl h,HBW.out⟩
   case neg =>
    have q0:((gen:Int) == 0) = false:=by rw [beq_eq_false_iff_ne];omega
    obtain ⟨half,HHF⟩:=sqn (halfB b k);have hhl1:half.length = H:=by rw [HHF.out,len_half HKG.out.2,HHN.out]
    have HHL:Hid (half.length = H ∧ half.length % 64 = 0):=⟨hhl1,by rw [hhl1];exact HB8.out.2.2.2.2⟩
    clear hhl1;obtain ⟨o,HO⟩:=sqn (k * H);obtain ⟨o1,HO1⟩:=sqn (o + 64);obtain ⟨k1,HK1⟩:=sqn (k + 1);obtain ⟨o2,HO2⟩:=sqn (k1 * H);obtain ⟨m,HM⟩:=sqn (H - 64);have hb8:=HB8.out;have hko:o ≤ H:=by rw [HO.out];rcases Nat.le_one_iff_eq_zero_or_eq_one.1 HKG.out.2 with e | e <;> rw [e] <;> omega
    have ho1:=HO1.out;have hk1:=HK1.out;have hm:=HM.out;have ho2:o2 = o + H:=by rw [HO2.out,hk1,Nat.add_mul,Nat.one_mul,← HO.out]
    have f4:IntKind.i64.wrap ((k:Int) * (H:Int)) = (o:Int):=mJ HO.out (by omega)
    have f5:IntKind.i64.wrap ((o:Int) + 64) = (o1:Int):=by rw [IntKind.wrap_i64];omega
    have f6:IntKind.i64.wrap ((k:Int) + 1) = (k1:Int):=by rw [IntKind.wrap_i64];have:=HKG.out.2;omega
    have f7:IntKind.i64.wrap ((k1:Int) * (H:Int)) = (o2:Int):=mJ HO2.out (by omega)
    have HC1:Hid (0 < m ∧ o1 + m ≤ n ∧ (o2:Int) = ((o1 + m:Nat):Int)):=⟨by omega,by omega,by omega⟩
    have HRR:Hid (Reads w (.slice (some ⟨bb,off + o1,none⟩) m (c - o1)) (half.drop 64)):=by
     have h1:=HR.out.cutJ o1 m (c - o1) (by rw [← HNL.out];exact HC1.out.2.1) (by omega)
     have e:(b.drop o1).take m = half.drop 64:=by
      rw [HHF.out,halfB,HHN.out,List.drop_take,List.drop_drop,ho1,HO.out,hm]
     rw [e] at h1;exact h1
    have c0:wr.cell? ⟨g5,0,none⟩ = some (.int .i64 (k:Int)):=HLK1.out.f.cell 0;clear hko ho1 hk1 hm ho2 hb8;obtain ⟨tk0,tk1⟩:=sqk2
    go_wp2_with (first
     | (clear tk0;refine wpSeq_val (.slice (some ⟨bb,off + o1,none⟩) m (c - o1)) _ (by rfl) (cutMid bb off n c o1 m HC1.out.1 HC1.out.2.1 HB8.out.2.2.2.1 (o1:Int) (o2:Int) rfl HC1.out.2.2 _ _ (.tmp 37) (.tmp 42) (.tmp 47) rfl rfl rfl rfl _) ?_)
     | (clear tk1;with_reducible refine wpSeq_cellI (.tmp 49) (.const (.int .i64 1)) g5 3 (ctC k gen (.slice none 0 0) 0) 1 138 (by simp [ctC]) HLK1.out.f ?_ ?_ ?_ ?_ ?_
        · rfl
        · rfl
        · rfl
        · rfl
        intro y2 hb ho;have HLK2:Hid (LkA w g2 g5 k gen (.slice none 0 0) 1 y2):=HLK1.out.store ho hb;clear hb ho c0 c1 HLK1))
    clear f4 f5 f6 f7;have HRE0:Hid (recsOf gen half = ([] ++ (recsL gen half (H / 64) 64 ([]:List Bs).length).1,(recsL gen half (H / 64) 64 ([]:List Bs).length).2)):=by show _ = _;rw [recsOf,HHL.out.1];rfl
    have HTX0:Hid (TxJ w.heap.size (.slice none 0 0) [] [] y2):=TxJ.nil HLK2.out.bel.size
    go_loopw [8] (fun r wr => ∃ (ad:Option Addr) (rn rc:Nat) (xa:Option Addr) (kn xc:Nat) (us:List Value) (xs:List Bs) (p pu f:Nat),r = .slice ad rn rc ∧ Hid (Reads w (.slice ad rn rc) (half.drop p)) ∧ Hid (kn = xs.length ∧ p = 64 + sizeL xs ∧ p ≤ H ∧ p = 64 * pu ∧ f + kn = H / 64) ∧ Hid (LkA w g2 g5 k gen (.slice xa kn xc) pu wr) ∧ Hid (TxJ w.heap.size (.slice xa kn xc) us xs wr) ∧ Hid (recsOf gen half = (xs ++ (recsL gen half f p kn).1,(recsL gen half f p kn).2))) (fun r _ => slLen r)
    case atStart => exact ⟨_,_,_,none,0,0,[],[],64,1,H / 64,rfl,HRR,⟨rfl,rfl,by have:=HB8.out;omega,rfl,rfl⟩,HLK2,HTX0,HRE0⟩
    case round =>
     clear HLK2 HTX0 HRE0 HRR HC1;obtain ⟨ad,rn,rc,xa,kn,xc,us,xs,p,pu,f,rfl,HRD,HPP,HLK,HTX,HRE⟩:=hrel;have hpp:=HPP.out;have hb8:=HB8.out;have c1:wr.cell? ⟨g5,1,none⟩ = some (.int .u64 (gen:Int)):=HLK.out.f.cell 1;have c2:wr.cell? ⟨g5,2,none⟩ = some (.slice xa kn xc):=HLK.out.f.cell 2;have hkn:kn < 1000000:=by have h1:=hpp.2.2.2.2;omega
     have f1:IntKind.u64.wrap (kn:Int) = (kn:Int):=uJ (by omega)
     obtain ⟨fr,HFR⟩:=sqn (firstR gen kn (half.drop p));have HRN:Hid (rn = H - p):=by have h1:=(reads_nc HRD.out).1;rw [List.length_drop,HHL.out.1] at h1;exact h1
     have HFS:Hid (Calls Tryz.prog 114 #[.slice ad rn rc,.int .u64 (gen:Int),.int .u64 (kn:Int)] wr fun e w' => ∃ vx,e = .returned (.tuple #[vx,.bool fr.isSome]) ∧ (∀ x,fr = some x → ∀ W,Reads W (.slice ad rn rc) (half.drop p) → Reads W vx x) ∧ Below wr.heap.size wr w'):=by
      rw [HFR.out];exact jFirst_any gen kn HKG.out.1 (by omega) _ (half.drop p) (by rw [List.length_drop,HHL.out.1];omega) wr (HK.out.below HLK.out.bel HK.out.lt) (HRD.out.below HLK.out.bel)
     have HRS:Hid (f ≠ 0 → recsL gen half f p kn = recNext gen half (f - 1) p kn fr):=fun hf0 => by
      obtain ⟨f',rfl⟩:∃ f',f = f' + 1:=⟨f - 1,by omega⟩
      have h:=recs_first (gen:=gen) (half:=half) (f:=f') (p:=p) (seq:=kn) HHL.out.2 (by have:=HPP.out.2.2.2.1;omega) (by rw [HHL.out.1];exact HPP.out.2.2.1)
      rw [← HFR.out] at h;exact h
     have HF0:Hid (f = 0 → p = H):=fun hf => by
      have h1:=sizeL_ge xs;have h2:=HPP.out;have h3:=HB8.out;omega
     clear hpp hb8
     cases fr with
     | none =>
      have HRF:Hid (recsOf gen half = (xs,p)):=by
       show _ = _
       have h:recsL gen half f p kn = ([],p):=by
        by_cases hf:f = 0
        · rw [hf];rfl
        · exact HRS.out hf
       rw [HRE.out,h,List.append_nil]
      clear HRS HFR HF0;have tk0:Hid True:=trivial
      go_upto_region 16 with (first
       | (clear tk0;go_at_call 114;refine (HFS.out).mono ?_;rintro e0 y1 ⟨vx,rfl,_,hz⟩
          replace HLK:Hid (LkA w g2 g5 k gen (.slice xa kn xc) pu y1):=HLK.out.next hz;replace HTX:Hid (TxJ w.heap.size (.slice xa kn xc) us xs y1):=HTX.out.next hz;clear hz c1 c2))
      obtain ⟨cl,HCL⟩:=sqn (decide (∀ z ∈ half.drop p,z = 0))
      have HBLK:Hid (∀ W,Reads W (.slice ad rn rc) (half.drop p) → Calls Tryz.prog 115 #[.slice ad rn rc] W fun e w' => e = .returned (.bool cl) ∧ w' = W):=fun W h => by
       rw [HCL.out];exact jBlank_any _ _ W (by rw [List.length_drop,HHL.out.1];have:=HB8.out;omega) h
      refine wp_region_held_drew (S:=fun wx => Blk wx g5 (ctC k gen (.slice xa kn xc) pu) 138) (by kernel_rfl) HLK.out.f.drew ?_
      intro hS;refine tka 0 (.agg (ctC k gen (.slice xa kn xc) pu).toArray) rfl (fun wx hx => by exact load_run 138 (.tmp 5) rfl g5 0 rfl (ctC k gen (.slice xa kn xc) pu) _ hx.range Tryz.underlying138 rfl (info_ct _ _ _ _)) hS ?_
      simp only [Act.put,sq];refine tkc 1 (.slice ad rn rc) rfl hS ?_;simp only [Act.put,sq];refine wpAnyH_enter 2 (by kernel_rfl) rfl (by rfl) (f:=115) (args:=#[.slice ad rn rc]) (by simp [go_sem]) (HBLK.out _ (reads_drew (HRD.out.below HLK.out.bel))) ?_
      rintro e0 y2 ⟨rfl,hy2⟩;subst hy2;refine ⟨_,rfl,hS,?_⟩;simp only [Act.put,sq];refine wpAnyH_storeRow 3 138 (.tmp 2) (.tmp 63) g2 ctZ (ctC k gen (.slice xa kn xc) pu) HLK.out.r.drew (len_ctZ _ _ _ _) (info_ct _ _ _ _) (ct_one _ _ _ _ _ _) (by kernel_rfl) rfl (by rfl) rfl rfl rfl ?_
      intro y3 hs;have hS3:Blk y3 g5 (ctC k gen (.slice xa kn xc) pu) 138:=hS.only hs.only (Ne.symm HLK.out.ne);refine ⟨hS3,?_⟩;simp only [Act.put,sq];replace hS:=hS3;refine tkc 4 (.bool cl) rfl hS ?_;simp only [Act.put,sq];refine wpAnyH_done (by kernel_rfl) ?_ _
      have HTX3:Hid (TxJ w.heap.size (.slice xa kn xc) us xs y3):=(HTX.out.next ((Below.refl _ _).drew)).onlyT hs.only HLK.out.r.drew (by decide) (by decide)
      have HBR:Hid (Blk y3 g2 (ctC k gen (.slice xa kn xc) pu) 138):=hs.blk;have HBW:Hid (Below w.heap.size w y3):=(HLK.out.bel.drew).trans (hs.only.below HLK.out.ge2 HLK.out.bel.size);clear hs hS hS3;go_wp2;refine bodyPost_ret (results_row_tmp rfl _ _ g2 (.agg (ctC k gen (.slice xa kn xc) pu).toArray) rfl (var_ct HBR.out)) rfl ?_;refine ⟨k,gen,_,us,pu,cl,rfl,HPK.out,fun h => absurd h hg0,fun _ => ?_,HBW.out⟩
      rw [← HHF.out,HRF.out];exact ⟨HTX3.out,HPP.out.2.2.2.1,HCL.out⟩
     | some x =>
      have hfn:f ≠ 0:=fun h => by
       have h1:=first_len HFR.out.symm;have h2:=HF0.out h;rw [List.length_drop,HHL.out.1,h2] at h1;omega
      obtain ⟨f',hf'⟩:∃ f',f = f' + 1:=⟨f - 1,by omega⟩
      subst hf'
      have HRS2:Hid (recsOf gen half = ((xs ++ [x]) ++ (recsL gen half f' (p + 64 * secR x.length) (kn + 1)).1,(recsL gen half f' (p + 64 * secR x.length) (kn + 1)).2)):=by
       show _ = _;have h:=HRS.out hfn;simp only [Nat.add_sub_cancel] at h;rw [HRE.out,h,recNext];simp
      have HXF:Hid (0 < x.length ∧ 64 * secR x.length ≤ H - p ∧ x.length ≤ H):=by
       have h1:=first_len HFR.out.symm;rw [List.length_drop,HHL.out.1] at h1;exact ⟨h1.1,h1.2.1,by omega⟩
      clear HRS HRE hfn HF0
      obtain ⟨rb,ro,had⟩:∃ b o,ad = some ⟨b,o,none⟩:=by
       obtain ⟨_,_,hv,_,_,hps⟩:=HRD.out;simp only [Value.slice.injEq] at hv;obtain ⟨b,o,h1,_⟩:=hps (by rw [List.length_drop,HHL.out.1];have:=HXF.out;unfold secR at this;omega)
       exact ⟨b,o,by rw [hv.1];exact h1⟩
      subst had;obtain ⟨nx,HNX⟩:=sqn (x.length);obtain ⟨sx,HSX⟩:=sqn (secR x.length);have tk0:Hid True:=trivial
      go_upto_region 17 with (first
       | (clear tk0;go_at_call 114;refine (HFS.out).mono ?_;rintro e0 y1 ⟨vx,rfl,hx,hz⟩
          obtain ⟨ax,cx,hvx⟩:∃ a c,vx = .slice a nx c:=by obtain ⟨a,c,hv,_⟩:=hx x rfl _ HRD.out;rw [← HNX.out] at hv;exact ⟨a,c,hv⟩
          subst hvx;have HXR:Hid (Reads w (.slice ax nx cx) x):=hx x rfl _ HRD.out;replace HLK:Hid (LkA w g2 g5 k gen (.slice xa kn xc) pu y1):=HLK.out.next hz;replace HTX:Hid (TxJ w.heap.size (.slice xa kn xc) us xs y1):=HTX.out.next hz;clear hz c1 c2 hx))
      have HD1:Hid (Below y1.heap.size y1 y1.drew):=(Below.refl _ _).drew;replace HLK:Hid (LkA w g2 g5 k gen (.slice xa kn xc) pu y1.drew):=HLK.out.next HD1.out;replace HTX:Hid (TxJ w.heap.size (.slice xa kn xc) us xs y1.drew):=HTX.out.next HD1.out;have c2:y1.drew.cell? ⟨g5,2,none⟩ = some (.slice xa kn xc):=HLK.out.f.cell 2;refine wp_region_held_drew (S:=fun _ => True) (by kernel_rfl) trivial ?_
      intro hS;refine tkc 0 (.pointer (some ⟨g5,2,none⟩)) rfl hS ?_;simp only [Act.put,sq];refine tkc 2 (.slice ax nx cx) rfl hS ?_;simp only [Act.put,sq];refine wpAnyH_readCB 1 3 4 (.slice xa kn xc) (f:=64) (args:=#[.slice ax nx cx]) (by kernel_rfl) rfl rfl rfl (by rfl) (by rfl) (fun _ => by rfl) (fun _ _ => by rfl) (by rfl) (fun _ => by rfl) (fun _ => by rfl) (by simp [go_sem,c2]) (by simp [go_sem]) (by simp [go_sem]) (bclone_any _ x _ (HXR.out.below HLK.out.bel) (by have h1:=HXF.out.2.2;have h2:=HB8.out;omega)) (by kernel_rfl) (by kernel_rfl) (by kernel_rfl) (by kernel_rfl) (fun _ => by rfl) (fun _ _ => by rfl) (by rfl) (by rfl) trivial ?_
      rintro e0 y2 ⟨vc,rfl,ho2,hz2⟩;obtain ⟨ac,cc,hvc⟩:=ownB_form ho2;rw [← HNX.out] at hvc;subst hvc;have c2b:y2.cell? ⟨g5,2,none⟩ = some (.slice xa kn xc):=(HLK.out.next hz2).f.cell 2;have c2c:(y2.alloc (.cells #[Value.slice ac nx cc] 23)).cell? ⟨g5,2,none⟩ = some (.slice xa kn xc):=((HLK.out.next hz2).next (below_alloc _ _)).f.cell 2;refine ⟨_,rfl,trivial,by simp [go_sem,c2b],.slice (some ⟨y2.heap.size,0,none⟩) 1 1,y2.alloc (.cells #[Value.slice ac nx cc] 23),build_x1 _ _ (.tmp 69) ac nx cc rfl rfl _,build_x1 _ _ (.tmp 69) ac nx cc rfl rfl _,trivial,by simp [go_sem,c2c],?_⟩
      simp only [Act.put,sq];have HLK3:Hid (LkA w g2 g5 k gen (.slice xa kn xc) pu (y2.alloc (.cells #[Value.slice ac nx cc] 23))):=(HLK.out.next hz2).next (below_alloc _ _);have HTX2:Hid (TxJ w.heap.size (.slice xa kn xc) us xs y2):=HTX.out.next hz2;have HOW2:Hid (OwnB y2 w.heap.size (.slice ac nx cc) x):=ownB_lower ho2 HLK.out.bel.size;refine wpAnyH_appX 5 (.tmp 67) (.tmp 70) w.heap.size (.slice xa kn xc) (.slice ac nx cc) us y2.heap.size (HTX2.out.next (below_alloc _ _)).own ((Blk.new y2 [Value.slice ac nx cc] 23).cell 0) rfl (by have h1:=HTX2.out.len;have h2:=HPP.out.1;omega) (Nat.le_trans HTX2.out.ge (below_alloc _ _).size) (by kernel_rfl) rfl (by rfl) rfl rfl rfl ?_
      intro v4 y4 ho4 hg4 _;refine ⟨trivial,?_⟩;simp only [Act.put,sq];obtain ⟨HT4,HBL4⟩:=HTX2.out.grow HOW2.out ho4 hg4;obtain ⟨a4,c4,hv4⟩:=HT4.form;obtain ⟨kn1,HKN1⟩:=sqn (kn + 1);have hkl:(xs ++ [x]).length = kn1:=by rw [List.length_append,← HPP.out.1,HKN1.out];rfl
      rw [hkl] at hv4;subst hv4;have hbb4:Below w.heap.size (y2.alloc (.cells #[Value.slice ac nx cc] 23)) y4:=(Below.refl _ _).grown hg4 HLK3.out.bel.size (fun k hk => (HTX2.out.own.lt k hk).1)
      have HLK4:Hid (LkA w g2 g5 k gen (.slice xa kn xc) pu y4):=HLK3.out.grown hg4 (HTX2.out.next (below_alloc _ _)).own hbb4;have HB14:Hid (Below w.heap.size y1.drew y4):=(hz2.mono HLK.out.bel.size).trans (((below_alloc _ _).mono (Nat.le_trans HLK.out.bel.size hz2.size)).trans hbb4);refine tkc 6 (.pointer (some ⟨g5,2,none⟩)) rfl hS ?_;simp only [Act.put,sq];have c24:y4.cell? ⟨g5,2,none⟩ = some (.slice xa kn xc):=HLK4.out.f.cell 2;have d24:y4.frozen? ⟨g5,2,none⟩ = false:=HLK4.out.f.frozen 2;refine wpAnyH_skip 7 (y4.setCell ⟨g5,2,none⟩ (.slice a4 kn1 c4)) (by kernel_rfl) rfl (by rfl) (by simp [go_sem,c24,d24]) trivial ?_
      simp only [Act.put];refine wpAnyH_done (by kernel_rfl) ?_ _
      obtain ⟨y5,HY5⟩:∃ y,Hid (y = y4.setCell ⟨g5,2,none⟩ (.slice a4 kn1 c4)):=⟨_,rfl⟩;have ho5:Only g5 y4 y5:=by rw [HY5.out];exact Only.setCell (Only.refl _ _) _ _
      have HLK5:Hid (LkA w g2 g5 k gen (.slice a4 kn1 c4) pu y5):=HLK4.out.store ho5 (by rw [HY5.out];exact HLK4.out.f.set 2 _)
      have HTX5:Hid (TxJ w.heap.size (.slice a4 kn1 c4) (us ++ [.slice ac nx cc]) (xs ++ [x]) y5):=HT4.onlyT ho5 HLK4.out.f (by decide) (by decide)
      rw [← HY5.out];clear HY5 ho5 HLK4 HT4 c24 d24 HB14 HBL4 hbb4 hg4 ho4 HTX2 HOW2 HLK3 c2c c2b ho2 hz2 HLK HTX c2 HD1;obtain ⟨pu2,HPU⟩:=sqn (pu + sx);obtain ⟨s64,HS64⟩:=sqn (sx * 64);have hxf:=HXF.out;rw [← HSX.out] at hxf;have hb8:=HB8.out;have hpp:=HPP.out;have f8:IntKind.i64.wrap ((pu:Int) + (sx:Int)) = (pu2:Int):=aJ HPU.out (by have:=HPU.out;omega)
      have f9:IntKind.i64.wrap ((sx:Int) * 64) = (s64:Int):=mJ HS64.out (by have:=HS64.out;omega)
      have HRSX:Hid (∀ W,Below w.heap.size w W → Calls Tryz.prog 116 #[.slice ax nx cx] W fun e w' => e = .returned (.int .i64 (sx:Int)) ∧ w' = W):=fun W hW => by
       rw [HSX.out];exact jRecSec_any _ x (by have:=HXF.out.2.2;have:=HB8.out;omega) W (HXR.out.below hW)
      have HS64L:Hid (s64 ≤ rn ∧ 0 < rn ∧ rn ≤ rc ∧ 0 < s64):=by
       have h1:=HRN.out;have h2:=HS64.out;have h3:0 < sx:=by rw [HSX.out];unfold secR;omega
       exact ⟨by omega,by omega,(reads_nc HRD.out).2,by omega⟩
      clear hxf hb8 hpp;have HLK6:Hid (LkA w g2 g5 k gen (.slice a4 kn1 c4) pu y5.drew):=HLK5.out.next ((Below.refl _ _).drew);have HTX6:Hid (TxJ w.heap.size (.slice a4 kn1 c4) (us ++ [.slice ac nx cc]) (xs ++ [x]) y5.drew):=HTX5.out.next ((Below.refl _ _).drew);have c3:y5.drew.cell? ⟨g5,3,none⟩ = some (.int .i64 (pu:Int)):=HLK6.out.f.cell 3;have d3:y5.drew.frozen? ⟨g5,3,none⟩ = false:=HLK6.out.f.frozen 3;clear HLK5 HTX5
      go_wp2_with fail
      refine wp_region_held_drew (S:=fun _ => True) (by kernel_rfl) trivial ?_
      intro hS;refine tkc 0 (.pointer (some ⟨g5,3,none⟩)) rfl hS ?_;simp only [Act.put,sq];refine tkc 2 (.slice ax nx cx) rfl hS ?_;simp only [Act.put,sq];refine wpAnyH_readC 1 3 (.int .i64 (pu:Int)) (f:=116) (args:=#[.slice ax nx cx]) (by kernel_rfl) rfl rfl (by rfl) (by rfl) (fun _ => by rfl) (by rfl) (by simp [go_sem,c3]) (by simp [go_sem]) (by simp [go_sem]) (HRSX.out _ HLK6.out.bel) (by kernel_rfl) (by kernel_rfl) (fun _ => by rfl) (by rfl) trivial ?_
      rintro e0 y6 ⟨rfl,hy6⟩;subst hy6;refine ⟨_,rfl,trivial,by simp [go_sem,c3],?_⟩
      simp only [Act.put,sq];refine tka 4 (.int .i64 (pu2:Int)) rfl (fun wx hx => by simp [go_sem,f8]) hS ?_
      simp only [Act.put,sq];refine tkc 5 (.pointer (some ⟨g5,3,none⟩)) rfl hS ?_;simp only [Act.put,sq];refine wpAnyH_skip 6 (y5.drew.setCell ⟨g5,3,none⟩ (.int .i64 (pu2:Int))) (by kernel_rfl) rfl (by rfl) (by simp [go_sem,c3,d3]) trivial ?_
      simp only [Act.put];refine wpAnyH_done (by kernel_rfl) ?_ _
      obtain ⟨y7,HY7⟩:∃ y,Hid (y = y5.drew.setCell ⟨g5,3,none⟩ (.int .i64 (pu2:Int))):=⟨_,rfl⟩;have ho7:Only g5 y5.drew y7:=by rw [HY7.out];exact Only.setCell (Only.refl _ _) _ _
      have HLK7:Hid (LkA w g2 g5 k gen (.slice a4 kn1 c4) pu2 y7):=HLK6.out.store ho7 (by rw [HY7.out];exact HLK6.out.f.set 3 _)
      have HTX7:Hid (TxJ w.heap.size (.slice a4 kn1 c4) (us ++ [.slice ac nx cc]) (xs ++ [x]) y7):=HTX6.out.onlyT ho7 HLK6.out.f (by decide) (by decide)
      rw [← HY7.out];clear HY7 ho7 HLK6 HTX6 c3 d3 f8;obtain ⟨ad2,rc2,hcut,hrd2⟩:=cutFrom2 rb ro rn rc s64 HS64L.out.1 HS64L.out.2.1 HS64L.out.2.2.1;have HCUT:Hid (∀ (f:Operand → Value) (o:Oper) (x y:Operand),o.op = .slice 23 x (some y) none none → f x = .slice (some ⟨rb,ro,none⟩) rn rc → f y = .int .i64 (s64:Int) → ∀ w,(execOp f o).run Tryz.prog w = .ok (.value (.slice ad2 (rn - s64) rc2)) w):=hcut
      have HRD2:Hid (Reads w (.slice ad2 (rn - s64) rc2) (half.drop (p + 64 * secR x.length))):=by
       have h:=hrd2 w _ HRD.out;have e:p + s64 = p + 64 * secR x.length:=by rw [HS64.out,HSX.out];omega
       rw [List.drop_drop,e] at h;exact h
      have HPP2:Hid (kn1 = (xs ++ [x]).length ∧ p + 64 * secR x.length = 64 + sizeL (xs ++ [x]) ∧ p + 64 * secR x.length ≤ H ∧ p + 64 * secR x.length = 64 * pu2 ∧ f' + kn1 = H / 64):=by
       have h1:=HPP.out;have h2:=HXF.out;refine ⟨hkl.symm,by rw [sizeL_snoc,h1.2.1];omega,by omega,by rw [HPU.out,HSX.out];omega,by rw [HKN1.out];omega⟩
      rw [← HKN1.out] at HRS2;clear hcut hrd2 hkl;obtain ⟨tk0,tk1⟩:=sqk2
      go_wp2_with (first
       | (clear tk0;go_at_call 116;refine (HRSX.out _ HLK7.out.bel).mono ?_;rintro e0 y8 ⟨rfl,hy8⟩;subst hy8)
       | (clear tk1;refine wpSeq_val (.slice ad2 (rn - s64) rc2) _ (by rfl) (HCUT.out _ _ (.tmp 79) (.tmp 82) rfl rfl rfl _) ?_))
      go_roundw
      case rel => exact ⟨ad2,rn - s64,rc2,a4,kn1,c4,_,_,_,pu2,f',rfl,HRD2,HPP2,HLK7,HTX7,HRS2⟩
      case measure => simp only [slLen];have:=HS64L.out;omega
theorem LookA.readsL {w:World} {b:Bs} {k gen:Nat} {vr:Value} {us:List Value} {u:Nat} {cl:Bool} {w':World} (h:LookA w b k gen vr us u cl w'):ReadsL w' vr (readJ b).2 ∧ (readJ b).1 = gen:=by
 by_cases hg:gen = 0
 · have e:readJ b = (0,[]):=by rw [readJ,h.pk,if_pos hg]
   rw [e,(h.z hg).1,hg];exact ⟨readsL_nil _,rfl⟩
 · have e:readJ b = (gen,(recsOf gen (halfB b k)).1):=by rw [readJ,h.pk,if_neg hg]
   rw [e];exact ⟨(h.nz hg).1.readsL,rfl⟩
theorem jRead_any (v:Value) (b:Bs) (hl:b.length < 8000000) (w:World) (hK:KOk w) (hr:Reads w v b):Calls Tryz.prog 86 #[v] w fun e w' => ∃ lv,e = .returned (.tuple #[.int .u64 (rdG14 b:Int),lv,.int .i64 (rdX14 b)]) ∧ ReadsL w' lv (rdL14 b) ∧ Below w.heap.size w w':=by
 obtain ⟨ad,cp,hv,hcp,_,hx⟩:=id hr
 obtain ⟨L,HLL⟩:=sqn (b.length)
 rw [← HLL.out] at hv hl
 subst hv
 by_cases hok:okB b
 case neg =>
  rw [show rdG14 b = 0 from if_neg hok,show rdX14 b = 1 from if_neg hok,show rdL14 b = [] from if_neg hok]
  unfold okB at hok
  rw [← HLL.out] at hok
  clear hx hcp hr hK
  by_cases h1:L % 64 = 0
  · have f1:(L:Int) % 64 = 0:=by omega
    obtain ⟨q,HQ⟩:=sqn (L / 64);have f2:wrap64 ((L:Int) / 64) = (q:Int):=qJ HQ.out (by omega)
    have q1:wrap64 ((L:Int) / 64) < 8:=by rw [f2];have:=HQ.out;omega
    have q2:(L:Int) / 64 < 8:=by omega
    clear f2 hl;clear hok h1
    go_enter Tryz.func86,Tryz.ntmps86
    go_wp2;refine bodyPost_ret (results_3J rfl _ _ _) rfl ?_;exact ⟨_,rfl,readsL_nil _,Below.refl _ _⟩
  · have f1:((L:Int) % 64 != 0) = true:=by rw [bne_iff_ne];omega
    clear hok h1
    go_enter Tryz.func86,Tryz.ntmps86
    go_wp2;refine bodyPost_ret (results_3J rfl _ _ _) rfl ?_;exact ⟨_,rfl,readsL_nil _,Below.refl _ _⟩
 case pos =>
  rw [show rdG14 b = (readJ b).1 from if_pos hok,show rdX14 b = 0 from if_pos hok,show rdL14 b = (readJ b).2 from if_pos hok]
  obtain ⟨bb,off,rfl,_⟩:=hx (by have:=hok.2;omega)
  have HLO:Hid (∀ W,Below w.heap.size w W → Calls Tryz.prog 88 #[.slice (some ⟨bb,off,none⟩) L cp] W fun e w' => LookP W b e w'):=fun W hW => jLook_any bb off L cp b hok (by rw [← HLL.out];exact hl) W (hK.below hW hK.lt) (hr.below hW)
  unfold okB at hok
  rw [← HLL.out] at hok
  have f1:(L:Int) % 64 = 0:=by omega
  obtain ⟨q,HQ⟩:=sqn (L / 64)
  have f2:wrap64 ((L:Int) / 64) = (q:Int):=qJ HQ.out (by omega)
  have q1:¬ ((q:Int) < 8):=by have:=HQ.out;omega
  have q2:¬ (wrap64 ((L:Int) / 64) < 8):=by rw [f2];exact q1
  clear f2
  obtain ⟨l,HL⟩:=sqn ((readJ b).2)
  obtain ⟨gn,HG⟩:=sqn ((readJ b).1)
  rw [← HL.out,← HG.out]
  clear hok hx hcp hr hl hK
  go_enter Tryz.func86,Tryz.ntmps86
  obtain ⟨tk0,tk1,tk2⟩:=sqk3
  go_upto_region 4 with (first
   | (clear tk0;go_at_call 88;refine (HLO.out _ (Below.refl _ _)).mono ?_;rintro e0 y1 ⟨k,gen,vr,us,u,cl,rfl,hlk⟩
      obtain ⟨hrl,hgn⟩:=hlk.readsL;rw [← HL.out] at hrl;rw [← HG.out] at hgn;subst hgn;obtain ⟨a1,n1,c1,hvr⟩:∃ a n c,vr = .slice a n c:=by obtain ⟨a,c,hv,_⟩:=hrl;exact ⟨_,_,_,hv⟩
      subst hvr;have HRL:Hid (ReadsL y1 (.slice a1 n1 c1) l):=hrl;have HBW:Hid (Below w.heap.size w y1):=hlk.bel;clear hlk hrl)
   | (clear tk1;with_reducible refine wpSeq_allocCt ?_ ?_ ?_
      · rfl
      · rfl
      intro g5 y2 nn;have HN5:Hid (NewR ctZ 138 y1 g5 y2):=nn;clear nn)
   | (clear tk2;with_reducible refine wpSeq_storeRow 138 (.tmp 5) (.tmp 20) g5 ctZ (ctC k gn (.slice a1 n1 c1) u) HN5.out.blk (len_ctZ _ _ _ _) (info_ct _ _ _ _) (ct_one _ _ _ _ _ _) ?_ ?_ ?_ ?_ ?_
      · rfl
      · rfl
      · rfl
      · rfl
      intro y3 hs;have hb13:Below y1.heap.size y1 y3:=HN5.out.below.trans (hs.only.below HN5.out.ge HN5.out.below.size);have HB5:Hid (Blk y3 g5 (ctC k gn (.slice a1 n1 c1) u) 138):=hs.blk;replace HRL:Hid (ReadsL y3 (.slice a1 n1 c1) l):=HRL.out.below hb13;replace HBW:=sqt HBW hb13;clear hs hb13 HN5))
  refine wp_region_held_drew (S:=fun wx => Blk wx g5 (ctC k gn (.slice a1 n1 c1) u) 138) (by kernel_rfl) HB5.out.drew ?_
  intro hS
  refine tkc 0 (.pointer (some ⟨g5,1,none⟩)) rfl hS ?_
  simp only [Act.put,sq]
  refine tkc 2 (.pointer (some ⟨g5,2,none⟩)) rfl hS ?_
  simp only [Act.put,sq]
  refine tka 1 (.int .u64 (gn:Int)) rfl (fun wx hx => by (have c1:wx.cell? ⟨g5,1,none⟩ = some (.int .u64 (gn:Int)):=hx.cell 1;simp [go_sem,c1])) hS ?_
  simp only [Act.put,sq]
  refine tka 3 (.slice a1 n1 c1) rfl (fun wx hx => by (have c1:wx.cell? ⟨g5,2,none⟩ = some (.slice a1 n1 c1):=hx.cell 2;simp [go_sem,c1])) hS ?_
  simp only [Act.put,sq]
  refine tkc 4 (.int .u64 (gn:Int)) rfl hS ?_
  simp only [Act.put,sq]
  refine tkc 5 (.slice a1 n1 c1) rfl hS ?_
  simp only [Act.put,sq]
  refine tkc 6 (.int .i64 0) rfl hS ?_
  simp only [Act.put,sq]
  refine wpAnyH_done (by kernel_rfl) ?_ _
  go_wp2
  refine bodyPost_ret (results_3J rfl _ _ _) rfl ?_
  exact ⟨_,rfl,HRL.out.below ((Below.refl _ _).drew),HBW.out.drew⟩
theorem upon_round {P:Program} {o:Oper} {a:Act} {K:Act → World → Prop} {Q:Exit → Act → World → Prop} {l n:Nat}:∀ {r:Result Next},o.upon P a K Q r → o.uponIn (Fence.wide.inRound l) n P a K Q r
 | .ok (.value _) _,h => h
 | .ok .skip _,h => h
 | .ok (.defer _) _,h => h
 | .ok (.enter _ _) _,h => ⟨fun hx => (nomatch hx),CallsIn.inRound l (callsIn_wide.2 h)⟩
 | .ok (.row _ _) _,h => ⟨fun hx => (nomatch hx),fun c cs _ => by
  obtain ⟨v,wq,r,s⟩:=h c cs
  exact ⟨v,wq,r,stepsIn_wide.2 s⟩⟩
 | .halt (.panic _) _,h => h
def noDefer (ops:Array Oper):Bool:=ops.toList.all fun o => match o.op with | .defer _ => false | _ => true
theorem noDefer_at {ops:Array Oper} (h:noDefer ops = true) {i:Nat} {o:Oper} (hi:ops[i]? = some o) (c:_):o.op ≠ .defer c:=by
 intro he
 have h1:=List.all_eq_true.1 h o (by rw [Array.mem_toList_iff];exact Array.mem_of_getElem? hi)
 rw [he] at h1
 cases h1
theorem wpOp_round {P:Program} {ops:Array Oper} {Q:Exit → Act → World → Prop} {l n:Nat} (hnd:noDefer ops = true) (hQ:¬ LetsOut Q) {i:Nat} {K K':Act → World → Prop} (hK:∀ a w,K a w → K' a w) {a:Act} {w:World} (h:wpOp P ops Q i K a w):wpOpIn (Fence.wide.inRound l) n P ops Q i K' a w:=by
 refine wpOpIn_mono hK ?_
 unfold wpOp at h
 unfold wpOpIn
 cases ho:ops[i]? with
 | none => rw [ho] at h;exact h
 | some o =>
  rw [ho] at h
  simp only at h ⊢
  by_cases hw:Region.wanted o (yielded ops a.tmps) = true
  · rw [if_pos hw] at h ⊢
    rcases h with h | h
    · refine ⟨fun _ _ => trivial,?_⟩
      rw [Oper.semAt_eq _ _ _ (noDefer_at hnd ho)];exact upon_round h
    · exact absurd h.2 hQ
  · rw [if_neg hw] at h ⊢
    exact ⟨fun _ _ => trivial,h⟩
theorem wpAny_round {P:Program} {md:Region.Mode} {ops:Array Oper} {Q:Exit → Act → World → Prop} {l n:Nat} (hnd:noDefer ops = true) (hQ:¬ LetsOut Q):∀ (fuel:Nat) (listed:Array Bool) (a:Act) (w:World),wpAny P md ops Q fuel listed a w → wpAnyIn (Fence.wide.inRound l) n P md ops Q fuel listed a w
 | 0,_,_,_,h => h
 | fuel + 1,_,_,_,h => ⟨h.1,fun i hi => wpOp_round hnd hQ (fun a w h => wpAny_round hnd hQ fuel _ a w h) (h.2 i hi)⟩
theorem wpIn_round_held {P:Program} {ops:Array Oper} {Q:Exit → Act → World → Prop} {S:World → Prop} {l n id:Nat} {a:Act} {w:World} (hm:P.follows .mixedOrders = true) (hnd:noDefer ops = true) (hQ:¬ LetsOut Q) (hS:S w.drew)
 (h:S w.drew → wpAnyH P .any ops Q S ops.size (Array.replicate ops.size false) a w.drew):(Code.region id ops true).wpIn (Fence.wide.inRound l) n P Q a w:=
 wpIn_region_any hm (wpAny_round hnd hQ _ _ _ _ (wpAny_of_held _ _ _ _ (h hS)))
theorem wpList_round {P:Program} {ops:Array Oper} {Q:Exit → Act → World → Prop} {m n:Nat} (hQ:¬ LetsOut Q):∀ (l:List Oper) (_:noDefer l.toArray = true) (a:Act) (w:World),wpList P ops Q l a w → wpListIn (Fence.wide.inRound m) n P ops Q l a w
 | [],_,_,_,h => h
 | o :: rest,hnd,a,w,h => by
  have ho:∀ c,o.op ≠ .defer c:=fun c => noDefer_at hnd (i:=0) rfl c
  have hr:noDefer rest.toArray = true:=by
   unfold noDefer at hnd ⊢;simp only [List.all_cons,Bool.and_eq_true] at hnd;exact hnd.2
  unfold wpList at h
  unfold wpListIn
  by_cases hw:Region.wanted o (yielded ops a.tmps) = true
  · rw [if_pos hw] at h ⊢
    rcases h with h | h
    · refine Oper.wpIn_mono (fun a w h => wpList_round hQ rest hr a w h) ⟨fun _ _ => trivial,?_⟩
      rw [Oper.semAt_eq _ _ _ ho];exact upon_round h
    · exact absurd h.2 hQ
  · rw [if_neg hw] at h ⊢
    exact ⟨fun _ _ => trivial,wpList_round hQ rest hr _ w h⟩
theorem wpIn_round_list {P:Program} {l:List Oper} {Q:Exit → Act → World → Prop} {m n id:Nat} {a:Act} {w:World} (hnd:noDefer l.toArray = true) (hQ:¬ LetsOut Q) (h:wpList P l.toArray Q l a w):(Code.region id l.toArray false).wpIn (Fence.wide.inRound m) n P Q a w:=
 wpIn_region_lit (wpList_round hQ l hnd a w h)
end Go.Proofs.YtheincjkoefalaaGreatDoor
namespace Go.Proofs.YtheincjkoefalaaGreatDoor
open Go.RowKit Go.Shelf
attribute [local go_sem] Oper.semAt_some
theorem wpSeqIn_val {F:Fence} {n:Nat} {P:Program} {ops:Array Oper} {Q:Exit → Act → World → Prop} {rest:List Oper} {o:Oper} {a:Act} {w:World} (v:Value) (w':World) (hw:Region.wanted o (yielded ops a.tmps) = true) (hd:∀ c,o.op ≠ .defer c) (hab:o.about P w a.eval = none)
 (he:(execOp a.eval o).run P w = .ok (.value v) w') (h:wpListIn F n P ops Q rest (a.put o.dst v) w'):wpListIn F n P ops Q (o :: rest) a w:=by
 unfold wpListIn
 simp only [hw,if_true]
 unfold Oper.wpIn
 refine ⟨fun f hf => (by rw [hab] at hf;cases hf),?_⟩
 rw [Oper.semAt_eq _ _ _ hd,he]
 exact h
structure NewC (v:Value) (t:TypeId) (w:World) (g:Nat) (w':World):Prop where
 ge:w.heap.size ≤ g
 blk:Blk w' g [v] t
 below:Below w.heap.size w w'
theorem NewC.of (v:Value) (t:TypeId) (w:World):NewC v t w w.heap.size (w.alloc (.cells #[v] t)):=⟨Nat.le_refl _,Blk.new w [v] t,below_alloc w _⟩
theorem blk_own {β:Type} (g:Nat) (cs:β → List Value) (t:TypeId):Own (fun (s:β) W => Blk W g (cs s) t):=fun s X Y row hs hg hr => by
 have hs':X.heap[g]? = some (.cells (cs s).toArray t (0,0)):=hs
 show Y.heap[g]? = some (.cells (cs s).toArray t (0,0))
 rw [hg.block g (Array.getElem?_eq_some_iff.1 hs').1 (fun e => ?_)]
 · exact hs'
 · obtain ⟨o,ho,hc⟩:=hr g e.symm
   rw [hs'] at ho;cases ho;cases hc
theorem Blk.put {W:World} {g:Nat} {cs:List Value} {t:TypeId} (h:Blk W g cs t) {D:Nat} {o o':Obj} (hD:W.heap[D]? = some o) (ho:o.isCells = false):Blk (W.putObj D o') g cs t:=
 blk_own (β:=Unit) g (fun _ => cs) t () W _ (some D) h (grownBy_putObj' W D o') (fun r e => by cases e;exact ⟨o,hD,ho⟩)
structure KpJ (n₀:Nat) (R:Nat → Prop) (X Y:World):Prop where
 os:Y.os = X.os
 tape:Y.tape = X.tape
 output:Y.output = X.output
 size:X.heap.size ≤ Y.heap.size
 block:∀ k,k < n₀ → ¬ R k → Y.heap[k]? = X.heap[k]?
theorem KpJ.refl (n₀:Nat) (R:Nat → Prop) (X:World):KpJ n₀ R X X:=⟨rfl,rfl,rfl,Nat.le_refl _,fun _ _ _ => rfl⟩
theorem KpJ.trans {n₀:Nat} {R:Nat → Prop} {X Y Z:World} (h:KpJ n₀ R X Y) (k:KpJ n₀ R Y Z):KpJ n₀ R X Z:=⟨k.os.trans h.os,k.tape.trans h.tape,k.output.trans h.output,Nat.le_trans h.size k.size,fun i hi hr => (k.block i hi hr).trans (h.block i hi hr)⟩
theorem KpJ.blk {n₀:Nat} {R:Nat → Prop} {X Y:World} (h:KpJ n₀ R X Y) {g:Nat} {cs:List Value} {t:TypeId} (hb:Blk X g cs t) (hg:g < n₀) (hr:¬ R g):Blk Y g cs t:=by
 unfold Blk at hb ⊢
 rw [h.block g hg hr]
 exact hb
theorem KpJ.below {n₀:Nat} {R:Nat → Prop} {X Y:World} (h:Below X.heap.size X Y) (hn:n₀ ≤ X.heap.size):KpJ n₀ R X Y:=⟨h.os,h.tape,h.output,h.size,fun k hk _ => h.block k (Nat.lt_of_lt_of_le hk hn)⟩
theorem KpJ.put {n₀:Nat} {R:Nat → Prop} {w:World} (hn:n₀ ≤ w.heap.size) (W:World) (l:Nat) (o o':Obj) (hl:w.heap.size ≤ l) (h:W.heap[l]? = some o) (_:o.isCells = false) (_:o.isWalk = false):KpJ n₀ R W (W.putObj l o'):=
 ⟨(grownBy_putObj' W l o').os,(grownBy_putObj' W l o').tape,(grownBy_putObj' W l o').output,(grownBy_putObj' W l o').size,fun k hk _ => (grownBy_putObj' W l o').block k (by have:=(Array.getElem?_eq_some_iff.1 h).1;omega) (fun e => by cases e;omega)⟩
theorem KpJ.mut {R:Nat → Prop} {X Y:World} (h:KpJ X.heap.size R X Y):Mut R X Y:=⟨h.os,h.tape,h.output,h.size,h.block⟩
theorem box_any (f:Operand → Value) (o:Oper) (ty:TypeId) (x:Operand) (v:Value) (h1:v.cells = #[v]) (ho:o.op = .box ty x) (hx:f x = v) (w:World):(execOp f o).run Tryz.prog w = .ok (.value (.pointer (some ⟨w.heap.size,0,none⟩))) (w.alloc (.cells #[v] ty)):=by
 unfold execOp
 rw [ho]
 simp only [hx]
 show (do let a ← newRow ty v.cells;pure (Next.value (.pointer (some a)))).run Tryz.prog w = _
 rw [h1]
 rfl
theorem chunk_any (ad:Option Addr) (n c:Nat) (w:World):Calls Tryz.prog 128 #[.slice ad n c,.int .i64 64] w fun e w' => ∃ gs gn,e = .returned (.func (.func 149) #[] #[.pointer (some ⟨gs,0,none⟩),.pointer (some ⟨gn,0,none⟩)]) ∧ Blk w' gs [.slice ad n c] 23 ∧ Blk w' gn [.int .i64 64] 3 ∧ w.heap.size ≤ gs ∧ w.heap.size ≤ gn ∧ Below w.heap.size w w':=by
 go_enter Tryz.func128,Tryz.ntmps128
 go_wp2
 go_ret
 have h1:=below_alloc w (.cells #[.slice ad n c] 23)
 have h2:=below_alloc (w.alloc (.cells #[.slice ad n c] 23)) (.cells #[.int .i64 64] 3)
 have h3:=Blk.new (w.alloc (.cells #[.slice ad n c] 23)) [.int .i64 64] 3
 have h4:=h1.size
 rw [show (w.alloc (.cells #[.slice ad n c] 23)).heap.size = w.heap.size + 1 by simp] at h3 h4
 exact ⟨_,_,rfl,(Blk.new w [.slice ad n c] 23).below h2 (Blk.new w [.slice ad n c] 23).lt,h3,Nat.le_refl _,h4,h1.trans (h2.mono h1.size)⟩
theorem run_min (f:Operand → Value) (o:Oper) (x y:Operand) (n m l:Nat) (hl:l = min n m) (ho:o.op = .call { callee:=.builtin .min,args:=#[x,y],argTypes:=#[3,3] }) (hx:f x = .int .i64 (n:Int)) (hy:f y = .int .i64 (m:Int)) (w:World):(execOp f o).run Tryz.prog w = .ok (.value (.int .i64 (l:Int))) w:=by
 unfold execOp
 rw [ho]
 first
  | (simp [go_sem,hx,hy];omega)
  | (simp [go_sem,hx,hy];split <;> omega)
  | (by_cases hmn:m < n <;> simp [go_sem,hx,hy,hmn] <;> omega)
theorem cutMax (b off n c l m:Nat) (hm:0 < m) (hn:l + m ≤ n) (hc:n ≤ c) (H:Int) (hH:H = ((l + m:Nat):Int)) (f:Operand → Value) (o:Oper) (x lo hi mx:Operand) (ho:o.op = .slice 23 x (some lo) (some hi) (some mx)) (hx:f x = .slice (some ⟨b,off,none⟩) n c) (hlo:f lo = .int .i64 (l:Int)) (hhi:f hi = .int .i64 H) (hmx:f mx = .int .i64 H) (w:World) :
 (execOp f o).run Tryz.prog w = .ok (.value (.slice (some ⟨b,off + l,none⟩) m m)) w:=by
 subst hH
 have hs:(sizeOf 5).run Tryz.prog w = .ok 1 w:=by kernel_rfl
 unfold execOp
 rw [ho]
 simp only [hx,hlo,hhi,hmx,Option.map_some,Sem.run_bind]
 rw [run_sliceAt_slice w 23 _ _ _ _ (by kernel_rfl),run_slice_lhm w 23 _ _ _ (by kernel_rfl) .i64 .i64 .i64 _ _ _ (by omega) (by omega) (by omega) (by omega)]
 rw [show Tryz.prog.elem 23 = 5 from by kernel_rfl,hs]
 simp only [Result.andThen_ok,sliced,Int.toNat_natCast,Nat.mul_one]
 rw [show l + m - l = m by omega,if_neg (by omega)]
 simp [Addr.add_mid]
theorem wpSeqIn_cutMax {F:Fence} {n:Nat} {ops:Array Oper} {Q:Exit → Act → World → Prop} {rest:List Oper} {o:Oper} {a:Act} {w:World} (x lo hi mx:Operand) (b off N c l m:Nat) (H:Int) (hm:0 < m) (hn:l + m ≤ N) (hc:N ≤ c) (hH:H = ((l + m:Nat):Int)) (ho:o.op = .slice 23 x (some lo) (some hi) (some mx)) (hx:a.eval x = .slice (some ⟨b,off,none⟩) N c) (hlo:a.eval lo = .int .i64 (l:Int)) (hhi:a.eval hi = .int .i64 H) (hmx:a.eval mx = .int .i64 H) (hw:Region.wanted o (yielded ops a.tmps) = true)
 (h:wpListIn F n Tryz.prog ops Q rest (a.put o.dst (.slice (some ⟨b,off + l,none⟩) m m)) w):wpListIn F n Tryz.prog ops Q (o :: rest) a w:=
 wpSeqIn_val _ _ hw (by rw [ho];intro c hc;cases hc) (by simp [Oper.about,ho]) (cutMax b off N c l m hm hn hc H hH _ o x lo hi mx ho hx hlo hhi hmx w) h
def chV:Value → Nat → Value
 | .slice (some a) _ _,k => .slice (some ⟨a.block,a.off + 64 * k,none⟩) 64 64
 | _,_ => .slice none 0 0
abbrev encsC (v:Value) (m:Nat) (k:Fin m):Array Value:=#[chV v k.val]
def frs (m k:Nat):List (Fin m):=(List.finRange m).take k
theorem frs_snoc (m k:Nat) (hk:k < m):frs m k ++ [⟨k,hk⟩] = frs m (k + 1):=by
 rw [frs,frs,List.take_add_one]
 congr 1
 simp [hk]
theorem frs_val (m k:Nat) (hk:k ≤ m):(frs m k).map Fin.val = List.range k:=by
 rw [frs,List.map_take]
 have e:(List.finRange m).map Fin.val = List.range m:=by
  apply List.ext_getElem
  · simp
  · intro i h1 h2
    simp
 rw [e,List.take_range,Nat.min_eq_left hk]
theorem frs_len (m k:Nat) (hk:k ≤ m):(frs m k).length = k:=by
 have:=congrArg List.length (frs_val m k hk)
 rw [List.length_map,List.length_range] at this
 exact this
theorem chunk_stops (n:Nat) {n₀:Nat} {R:Nat → Prop} {gs gn:Nat} {ad:Option Addr} {N c m:Nat} (hN:N = 64 * m) (hm:m ≤ 100000) (w:World) (hn:n₀ ≤ w.heap.size) (hst:∀ W,KpJ n₀ R w W → ∃ r,r.length = N ∧ Reads W (.slice ad N c) r) (hB:Blk w gs [.slice ad N c] 23) (hC:Blk w gn [.int .i64 64] 3) (hgs:gs < n₀ ∧ ¬ R gs) (hgn:gn < n₀ ∧ ¬ R gn) :
 SeqStopsK Fence.wide n Tryz.prog 149 #[.pointer (some ⟨gs,0,none⟩),.pointer (some ⟨gn,0,none⟩)] (encsC (.slice ad N c) m) (KpJ n₀ R) (fun xs => xs = frs m m) (fun xs => ∃ k,k ≤ m ∧ xs = frs m k) m w:=fun lab J Jx W hW hJ hJx hY h0 => by
 have HST:Hid (∀ W,KpJ n₀ R w W → ∃ r,r.length = N ∧ Reads W (.slice ad N c) r):=hst
 have HKW:Hid (KpJ n₀ R w W):=KpJ.below hW hn
 have HBS:Hid (∀ W,KpJ n₀ R w W → Blk W gs [.slice ad N c] 23 ∧ Blk W gn [.int .i64 64] 3):=fun W h => ⟨h.blk hB hgs.1 hgs.2,h.blk hC hgn.1 hgn.2⟩
 have HN:Hid (N = 64 * m ∧ m ≤ 100000):=⟨hN,hm⟩
 have HY:Aside (∀ pre x W1,J pre W1 → pre.length < m → YieldAt Fence.wide (n - 1) Tryz.prog lab (encsC (.slice ad N c) m x) W1 fun e W' => (e = .returned (.bool true) ∧ J (pre ++ [x]) W' ∧ KpJ n₀ R W1 W') ∨ (e = .returned (.bool false) ∧ Jx (pre ++ [x]) W')):=hY
 have HJ0:Hid (J (frs m 0) W):=h0
 have HJA:Hid (∀ s X,J s X → J s X.drew):=fun s X hs => hJ s X X.drew none hs ⟨rfl,rfl,rfl,Nat.le_refl _,fun _ _ _ => rfl⟩ (fun r e => by cases e)
 clear hB hC hW hY h0 hJ hJx hst hN hm
 refine callsIn_wide.2 ?_
 simp only [List.append_toArray,List.cons_append,List.nil_append]
 go_enter Tryz.func149,Tryz.ntmps149
 go_wp2
 go_loopw [4] (fun i wr => ∃ k:Nat,k ≤ m ∧ i = .int .i64 ((64 * k:Nat):Int) ∧ Hid (J (frs m k) wr) ∧ Hid (KpJ n₀ R w wr)) (fun i _ => 64 * m - (intOf i).toNat)
 case atStart => exact ⟨0,Nat.zero_le _,rfl,HJ0,HKW⟩
 case round =>
  clear HJ0 HKW
  obtain ⟨k,hk,rfl,HJK,HKP⟩:=hrel
  have c0:wr.cell? ⟨gs,0,none⟩ = some (.slice ad N c):=(HBS.out wr HKP.out).1.cell 0
  by_cases hlt:k < m
  case neg =>
   obtain rfl:k = m:=by omega
   have hlk:¬ (((64 * k:Nat):Int) < (N:Int)):=by have:=HN.out;omega
   go_wp2
   go_end0
   first
    | exact ⟨⟨_,rfl⟩,.inl ⟨_,rfl,HJK.out⟩⟩
    | exact ⟨⟨_,rfl⟩,.inl HJK.out⟩
  case pos =>
   obtain ⟨p,HP⟩:=sqn (64 * k);obtain ⟨p2,HP2⟩:=sqn (p + 64);obtain ⟨q,HQ⟩:=sqn (N - p);rw [← HP.out];have hpn:p + 64 ≤ N ∧ p2 < 10000000:=by have h1:=HN.out;have h2:=HP.out;have h3:=HP2.out;omega
   obtain ⟨r,hrl,hrd⟩:=HST.out wr HKP.out
   obtain ⟨b,off,had⟩:∃ b off,ad = some ⟨b,off,none⟩:=by
    obtain ⟨_,_,hv,_,_,hps⟩:=hrd;simp only [Value.slice.injEq] at hv;obtain ⟨b,off,h1,_⟩:=hps (by omega)
    exact ⟨b,off,by rw [hv.1];exact h1⟩
   subst had;have HCT:Hid (p < N ∧ N ≤ c ∧ p + 64 ≤ N ∧ (p2:Int) = ((p + 64:Nat):Int) ∧ 64 = min 64 (N - p)):=⟨by omega,(reads_nc hrd).2,hpn.1,by rw [HP2.out],by omega⟩
   have hlk:(p:Int) < (N:Int):=by omega
   have f1:IntKind.i64.wrap ((p:Int) + 64) = (p2:Int):=aJ HP2.out (by omega)
   clear hrd hrl hpn
   go_upto_region 3 with fail
   clear c0;refine wp_region_held_drew (S:=fun wx => Blk wx gs [.slice (some ⟨b,off,none⟩) N c] 23 ∧ Blk wx gn [.int .i64 64] 3) (by kernel_rfl) ⟨(HBS.out wr HKP.out).1.drew,(HBS.out wr HKP.out).2.drew⟩ ?_
   intro hS;refine tka 0 (.int .i64 64) rfl (fun wx hx => by (have c0:wx.cell? ⟨gn,0,none⟩ = some (.int .i64 64):=hx.2.cell 0;simp [go_sem,c0])) hS ?_
   simp only [Act.put,sq];refine tka 1 (.slice (some ⟨b,off,none⟩) N c) rfl (fun wx hx => by (have c0:wx.cell? ⟨gs,0,none⟩ = some (.slice (some ⟨b,off,none⟩) N c):=hx.1.cell 0;simp [go_sem,c0])) hS ?_
   simp only [Act.put,sq];refine tkc 2 (.int .i64 (p:Int)) rfl hS ?_;simp only [Act.put,sq];refine tka 3 (.slice (some ⟨b,off + p,none⟩) (N - p) (c - p)) rfl (fun wx hx => by exact cutFrom b off N c p HCT.out.1 HCT.out.2.1 _ _ (.tmp 14) (.tmp 15) rfl rfl rfl _) hS ?_
   simp only [Act.put,sq];refine tkc 4 (.int .i64 ((N - p:Nat):Int)) rfl hS ?_;simp only [Act.put,sq];refine tka 5 (.int .i64 64) rfl (fun wx hx => by exact run_min _ _ (.tmp 13) (.tmp 17) 64 (N - p) 64 HCT.out.2.2.2.2 rfl rfl rfl _) hS ?_
   simp only [Act.put,sq];refine tkc 6 (.int .i64 64) rfl hS ?_;simp only [Act.put,sq];refine wpAnyH_done (by kernel_rfl) ?_ _
   clear hS;have HKD:Hid (KpJ n₀ R w wr.drew):=⟨HKP.out.os,HKP.out.tape,HKP.out.output,HKP.out.size,HKP.out.block⟩;have c0:wr.drew.cell? ⟨gs,0,none⟩ = some (.slice (some ⟨b,off,none⟩) N c):=(HBS.out _ HKD.out).1.cell 0;obtain ⟨fn,tmps,assign,body,hy,hR⟩:=HY.out (frs m k) ⟨k,hlt⟩ wr.drew (HJA.out _ _ HJK.out) (by rw [frs_len m k hk];exact hlt)
   rw [frs_snoc] at hR
   dsimp only [encsC,chV] at hy
   rw [← HP.out] at hy;clear HJK
   go_upto_region 4 with fail
   refine (wpIn_wide (n:=n)).1 ?_
   gi_wp2_with (first
    | (with_reducible refine wpSeqIn_cutMax (.tmp 20) (.tmp 21) (.tmp 24) (.tmp 27) b off N c p 64 (p2:Int) (by decide) HCT.out.2.2.1 HCT.out.2.1 HCT.out.2.2.2.1 ?_ ?_ ?_ ?_ ?_ ?_ ?_
       · rfl
       · rfl
       · rfl
       · rfl
       · rfl
       · rfl))
   refine ⟨fun h => (nomatch h),?_⟩
   refine hR.mono ?_;clear hR hy c0;rintro e W3 (⟨rfl,hJ3,hk3⟩ | ⟨rfl,hJx3⟩)
   · have HJ3:Hid (J (frs m (k + 1)) W3):=hJ3
     have HK3:Hid (KpJ n₀ R w W3):=HKD.out.trans hk3;have c1:W3.cell? ⟨gn,0,none⟩ = some (.int .i64 64):=(HBS.out _ HK3.out).2.cell 0;clear hJ3 hk3
     gi_wp2
     go_wp2;go_roundw
     case rel => exact ⟨k + 1,by omega,by rw [HP2.out,HP.out];rfl,HJ3,HK3⟩
     case measure => simp only [intOf];have:=HP2.out;have:=HP.out;have:=HN.out;omega
   · gi_wp2
     go_wp2;refine bodyPost_ret (results_none rfl _ _ _) rfl ?_;exact ⟨⟨_,rfl⟩,.inr ⟨_,⟨k + 1,by omega,rfl⟩,hJx3⟩⟩
end Go.Proofs.YtheincjkoefalaaGreatDoor
namespace Go.Proofs.YtheincjkoefalaaGreatDoor
open Go.RowKit
theorem gen_zero (n:Nat):genH (List.replicate n 0) = 0:=by
 unfold genH
 rw [if_pos]
 left
 rw [List.drop_replicate,List.take_replicate]
 have:∀ m,rdNum (List.replicate m 0) = 0:=rd_zero
 exact this _
theorem half_zero (n k:Nat):halfB (List.replicate n 0) k = List.replicate (min (halfN (List.replicate n (0:BitVec 8))) (n - k * halfN (List.replicate n (0:BitVec 8)))) 0:=by
 rw [halfB,List.drop_replicate,List.take_replicate]
theorem pick_zero (n:Nat):pickB (List.replicate n 0) = (0,0):=by
 unfold pickB
 rw [half_zero,half_zero,gen_zero,gen_zero]
 rfl
theorem open_zero {m:Nat} (h1:8 ≤ m) (h2:m ≤ 16384):openX (zeroD m) = 0 ∧ (openS (zeroD m)).2 = ⟨0,1,[]⟩ ∧ Log (openD (zeroD m)) ⟨0,1,[]⟩ ∧ sizeD (openD (zeroD m)) = m:=by
 have hl:(List.replicate (64 * m) (0:BitVec 8)).length = 64 * m:=List.length_replicate
 have hp:=pick_zero (64 * m)
 have hJ:(openS (zeroD m)).2 = ⟨0,1,[]⟩:=by
  rw [zeroD_load]
  unfold openS
  rw [dump_idle,hp,if_pos rfl]
 obtain ⟨a,b,c,_⟩:=Log.open (s:=List.replicate (64 * m) 0) (by rw [hl];omega) (by rw [hl];omega) (by rw [hp];decide)
 rw [← zeroD_load,hJ] at b
 rw [← zeroD_load] at a c
 refine ⟨a,hJ,b,?_⟩
 rw [c,hl]
 omega
theorem Log.read {D:DkT} {J:JnT} (h:Log D J):readJ (dumpD D) = (J.gen,J.l):=by
 rw [h.idle,dump_idle]
 exact h.good.read
theorem Log.fits {D:DkT} {J:JnT} (h:Log D J):1 + secL J.l ≤ hsD D:=by
 have h1:=h.good.size
 have h2:=halfN_eq D.safe
 have h3:=sizeL_eq J.l
 show _ ≤ D.safe.length / 64 / 2
 omega
theorem app_ref (D:DkT) (J:JnT) (x:Bs):(appE J D x = 0 ↔ chkX x ≠ 1 ∧ sizeL (J.l ++ [x]) + 64 ≤ 64 * (sizeD D / 2)):=by
 have h3:=sizeL_eq J.l
 rw [sizeL_snoc]
 unfold appE hsD
 by_cases hc:chkX x = 1
 · rw [if_pos hc]
   exact ⟨(fun e => by cases e),fun e => absurd hc e.1⟩
 · rw [if_neg hc]
   by_cases hs:sizeD D / 2 < 1 + secL J.l + secR x.length
   · rw [if_pos hs]
     exact ⟨(fun e => by cases e),fun e => by omega⟩
   · rw [if_neg hs]
     exact ⟨fun _ => ⟨hc,by omega⟩,fun _ => rfl⟩
def Un (P Q:Nat → Prop):Nat → Prop:=fun k => P k ∨ Q k
structure okJ (D:DkT) (J:JnT):Prop where
 wt:D.wait = []
 lo:8 ≤ sizeD D
 hi:sizeD D ≤ 100
 k1:J.k ≤ 1
 g1:1 ≤ J.gen
 g2:J.gen < 9223372036854775809
 fit:1 + secL J.l ≤ hsD D
 ne:∀ x ∈ J.l,x ≠ []
structure Pk (Lg:World → Nat → (Nat → Prop) → Nat → Nat → JnT → Prop) (w:World) (gd lg:Nat) (P Q:Nat → Prop) (D:DkT) (J:JnT):Prop where
 dk:DkIs w gd P D
 lg:Lg w lg Q gd (sizeD D) J
 ap:∀ k,Q k → ¬ P k
theorem DkIs.lt14 {w:World} {g:Nat} {P:Nat → Prop} {D:DkT} (h:DkIs w g P D):∀ k,P k → k < w.heap.size:=fun k hk => by
 obtain ⟨gs,vw,fu,lf,hm,rfl⟩:=h
 exact hm.lt k hk
def nSec (n:Int):Nat:=8 + (n % 18446744073709551616).toNat % 40
theorem nSec_le (n:Int):8 ≤ nSec n ∧ nSec n ≤ 47:=by unfold nSec;omega
theorem Log.okJ {D:DkT} {J:JnT} (h:Log D J) (h1:8 ≤ sizeD D) (h2:sizeD D ≤ 100) (h3:J.gen < 9223372036854775809):okJ D J:=
 ⟨by rw [h.idle];rfl,h1,h2,h.good.hk,h.good.g1,h3,h.fits,fun x hx => (h.good.ne x hx).1⟩
def jn0:JnT:=⟨0,1,[]⟩
theorem wpSeq_constN {ops:Array Oper} {Q:Exit → Act → World → Prop} {rest:List Oper} {o:Oper} {a:Act} (x:Operand) (W:World) (c:BitVec 8) (v:Value) (hv:v = .int .u8 (c.toNat:Int)) (ho:o.op = .convert 23 23 x) (hx:a.eval x = .slice (some ⟨W.heap.size,0,none⟩) 1 1) (hw:Region.wanted o (yielded ops a.tmps) = true)
 (h:∀ g w',W.heap.size ≤ g → (∀ (P:Nat → Prop),¬ P g → Sta P w' (fun X => Reads X (.slice (some ⟨g,0,none⟩) 1 1) [c])) → Below W.heap.size W w' → wpList Tryz.prog ops Q rest (a.put o.dst (.slice (some ⟨g,0,none⟩) 1 1)) w'):wpList Tryz.prog ops Q (o :: rest) a (W.alloc (.cells #[v] 5)):=by
 subst hv
 have hr:=Go.Lib.run_convert_bytes_const (P:=Tryz.prog) W 23 5 #[.int .u8 (c.toNat:Int)] 1 1 Tryz.underlying23 Tryz.underlying5
 refine wpSeq_val (.slice (some ⟨W.heap.size,0,none⟩) 1 1) (W.alloc (.cells #[.int .u8 (c.toNat:Int)] 5 (1,2))) hw ?_ (h W.heap.size (W.alloc (.cells #[.int .u8 (c.toNat:Int)] 5 (1,2))) (Nat.le_refl _) (fun P hP X hX => ?_) (below_alloc _ _))
 · unfold execOp
   rw [ho];simp only [hx,Sem.run_bind];rw [hr]
   rfl
 · refine ⟨_,1,rfl,Nat.le_refl _,(fun h => by cases h),fun _ => ⟨_,0,rfl,fun j hj => ?_⟩⟩
   have hj0:j = 0:=by simp at hj;exact hj
   subst hj0;have hb:=hX.block W.heap.size (by simp) hP
   unfold World.cell?;rw [hb,heap_alloc_new W _]
   rfl
end Go.Proofs.YtheincjkoefalaaGreatDoor
namespace Go.Proofs.YtheincjkoefalaaGreatDoor
open Go.RowKit Go.Shelf
attribute [local go_sem] Oper.semAt_some
def wrF (gd:Nat):Value:=.func (.func 89) #[.pointer (some ⟨gd,0,none⟩)] #[]
def syF (gd:Nat):Value:=.func (.func 90) #[.pointer (some ⟨gd,0,none⟩)] #[]
def lgC (gd hs:Nat) (fl:Int) (k gen:Nat) (vr:Value) (u:Nat):List Value:=[wrF gd,syF gd,.int .i64 (hs:Int),.int .i64 fl,.int .i64 (k:Int),.int .u64 (gen:Int),vr,.int .i64 (u:Int)]
theorem secs_at:∀ (m s:Nat) (r:Bs) (j:Nat),j < m → (secsOf s m r)[j]? = some (s + j,(r.drop (64 * j)).take 64)
 | 0,_,_,_,h => absurd h (by omega)
 | m + 1,s,r,0,_ => by simp [secsOf]
 | m + 1,s,r,j + 1,h => by
  rw [secsOf,List.getElem?_cons_succ,secs_at m (s + 1) (r.drop 64) j (by omega),List.drop_drop]
  congr 2
  · omega
  · congr 2;omega
theorem secs_take (m s:Nat) (r:Bs) {j:Nat} (h:j < m):(secsOf s m r).take (j + 1) = (secsOf s m r).take j ++ [(s + j,(r.drop (64 * j)).take 64)]:=by
 rw [List.take_add_one,secs_at m s r j h]
 rfl
theorem put_wait (D:DkT) (i:Int) (b:Bs):(putD13 D i b).wait.length ≤ D.wait.length + 1:=by
 unfold putD13
 split
 · omega
 split
 · omega
 split
 · omega
 · simp
def wsN (at_:Nat) (r:Bs) (l:List Nat):List (Nat × Bs):=l.mapIdx fun j z => (at_ + j,(r.drop (64 * z)).take 64)
theorem wsN_snoc (at_:Nat) (r:Bs) (l:List Nat) (z:Nat):wsN at_ r (l ++ [z]) = wsN at_ r l ++ [(at_ + l.length,(r.drop (64 * z)).take 64)]:=by simp [wsN]
theorem wsN_range (at_ m:Nat) (r:Bs):∀ k,k ≤ m → wsN at_ r (List.range k) = (secsOf at_ m r).take k
 | 0,_ => by simp [wsN]
 | k + 1,h => by rw [List.range_succ,wsN_snoc,wsN_range at_ m r k (by omega),secs_take m at_ r (by omega),List.length_range]
def RunTo (D:DkT) (L:List (Nat × Bs)) (D':DkT):Prop:=∀ rest,runJ D (L.map some ++ rest) = runJ D' rest
theorem RunTo.zero (D:DkT):RunTo D [] D:=fun _ => rfl
theorem RunTo.next {D D':DkT} {L:List (Nat × Bs)} (h:RunTo D L D') {p:Nat × Bs} (hx:putX13 D' (p.1:Int) p.2 = 0):RunTo D (L ++ [p]) (putD13 D' (p.1:Int) p.2):=fun rest => by
 rw [List.map_append,List.append_assoc,h]
 show runJ D' (some p :: rest) = _
 rw [runJ,if_pos hx]
theorem RunTo.stop {D D':DkT} {L:List (Nat × Bs)} (h:RunTo D L D') {p:Nat × Bs} (hx:putX13 D' (p.1:Int) p.2 ≠ 0) (t:List (Option (Nat × Bs))):runJ D ((L ++ [p]).map some ++ t) = (putD13 D' (p.1:Int) p.2,putX13 D' (p.1:Int) p.2):=by
 rw [List.map_append,List.append_assoc,h]
 show runJ D' (some p :: t) = _
 rw [runJ,if_neg hx]
theorem DkIs.cells {w:World} {g:Nat} {P:Nat → Prop} {D:DkT} (h:DkIs w g P D):∀ k,P k → ∃ cs t,w.heap[k]? = some (.cells cs t (0,0)):=by
 obtain ⟨gs,vw,fu,lf,hm,rfl⟩:=h
 intro k hk
 rcases hk with rfl | rfl | hk
 · exact ⟨_,_,hm.me⟩
 · exact ⟨_,_,hm.sf⟩
 · rcases hm.wt with ⟨_,⟨e,_⟩ | ⟨g2,cap2,cur2,e,_,hh2,_⟩⟩
   · rw [e] at hk;cases hk
   · rw [e] at hk
     have e2:g2 = k:=by simpa [Value.ownBlock] using hk
     rw [← e2];exact ⟨_,_,hh2⟩
theorem DkIs.same14 {w w':World} {g:Nat} {P:Nat → Prop} {D:DkT} (h:DkIs w g P D) (hs:∀ k,P k → w'.heap[k]? = w.heap[k]?):DkIs w' g P D:=by
 obtain ⟨gs,vw,fu,lf,hm,rfl⟩:=h
 exact ⟨gs,vw,fu,lf,hm.same hs,rfl⟩
theorem DkIs.own14 {X Y:World} {g:Nat} {P:Nat → Prop} {D:DkT} {row:Option Nat} (h:DkIs X g P D) (hg:X.grownBy Y row) (hr:∀ r,row = some r → ∃ o:Obj,X.heap[r]? = some o ∧ o.isCells = false):DkIs Y g P D:=by
 refine h.same14 fun k hk => ?_
 obtain ⟨cs,t,hc⟩:=h.cells k hk
 refine hg.block k (Array.getElem?_eq_some_iff.1 hc).1 (fun e => ?_)
 obtain ⟨o,ho,hn⟩:=hr k e.symm
 rw [hc] at ho
 cases ho
 cases hn
theorem keeps_mut {Q:Nat → Prop} {X Y:World} (h:Mut Q X Y) (hc:∀ k,Q k → ∃ cs t,X.heap[k]? = some (.cells cs t (0,0))):KeepsOthers X Y:=
 ⟨h.size,fun k o hk ho => by
  rw [h.block k (Array.getElem?_eq_some_iff.1 hk).1 (fun hq => ?_)]
  · exact hk
  · obtain ⟨cs,t,h2⟩:=hc k hq
    rw [hk] at h2
    cases h2
    cases ho⟩
def onlyNormal (Q:Exit → Act → World → Prop):Exit → Act → World → Prop
 | .normal,a,w => Q .normal a w
 | _,_,_ => False
theorem wp_normal {c:Code} {Q:Exit → Act → World → Prop} {a:Act} {w:World} (h:c.wp Tryz.prog (onlyNormal Q) a w):c.wp Tryz.prog Q a w:=
 wp_mono h (fun e a w h => by cases e <;> first | exact h | exact h.elim)
def puR (P:Nat → Prop) (lg g4 g6:Nat):Nat → Prop:=fun k => P k ∨ k = lg ∨ k = g4 ∨ k = g6
structure PuI (v1:World) (gd lg g3 g4 g6:Nat) (P:Nat → Prop) (lc:Int → List Value) (D:DkT) (at_ m:Nat) (r:Bs) (fl:Int) (an:Nat) (rs:Int) (P':Nat → Prop) (D':DkT) (W:World):Prop where
 dk:DkIs W gd P' D'
 gr:Grew v1 P P'
 lb:Blk W lg (lc fl) 144
 b3:Blk W g3 [.pointer (some ⟨lg,0,none⟩)] 96
 b4:Blk W g4 [.int .i64 (an:Int)] 3
 b6:Blk W g6 [.int .i64 rs] 26
 mv:Mut (puR P lg g4 g6) v1 W
theorem PuI.own {v1:World} {gd lg g3 g4 g6:Nat} {P:Nat → Prop} {lc:Int → List Value} {D:DkT} {at_ m:Nat} {r:Bs} {fl:Int} {an:Nat} {rs:Int} {P':Nat → Prop} {D':DkT} {X Y:World} {row:Option Nat} (h:PuI v1 gd lg g3 g4 g6 P lc D at_ m r fl an rs P' D' X) (hg:X.grownBy Y row) (hr:∀ x,row = some x → v1.heap.size ≤ x ∧ ∃ o:Obj,X.heap[x]? = some o ∧ o.isCells = false):PuI v1 gd lg g3 g4 g6 P lc D at_ m r fl an rs P' D' Y:=
 ⟨h.dk.own14 hg (fun x e => (hr x e).2),h.gr,blk_own (β:=Unit) lg (fun _ => lc fl) _ () X Y row h.lb hg (fun x e => (hr x e).2),blk_own (β:=Unit) g3 (fun _ => [.pointer (some ⟨lg,0,none⟩)]) _ () X Y row h.b3 hg (fun x e => (hr x e).2),blk_own (β:=Unit) g4 (fun _ => [.int .i64 (an:Int)]) _ () X Y row h.b4 hg (fun x e => (hr x e).2),blk_own (β:=Unit) g6 (fun _ => [.int .i64 rs]) _ () X Y row h.b6 hg (fun x e => (hr x e).2),
  ⟨hg.os.trans h.mv.os,hg.tape.trans h.mv.tape,hg.output.trans h.mv.output,Nat.le_trans h.mv.size hg.size,fun k hk hn => (hg.block k (Nat.lt_of_lt_of_le hk h.mv.size) (fun e => by have:=(hr k e.symm).1;omega)).trans (h.mv.block k hk hn)⟩⟩
def PuJ (v1:World) (gd lg g3 g4 g6:Nat) (P:Nat → Prop) (lc:Int → List Value) (D:DkT) (at_ m:Nat) (r:Bs) (pre:List (Fin m)) (W:World):Prop:=
 ∃ P' D',PuI v1 gd lg g3 g4 g6 P lc D at_ m r 0 (at_ + pre.length) 0 P' D' W ∧ RunTo D (wsN at_ r (pre.map Fin.val)) D' ∧ D'.wait.length ≤ D.wait.length + pre.length
def PuX (v1:World) (gd lg g3 g4 g6:Nat) (P:Nat → Prop) (lc:Int → List Value) (D:DkT) (at_ m:Nat) (r:Bs) (c:Code) (pre:List (Fin m)) (W:World):Prop:=
 c = .ret ∧ ∃ P' D' an x,PuI v1 gd lg g3 g4 g6 P lc D at_ m r x an x P' D' W ∧ ∀ t,runJ D ((wsN at_ r (pre.map Fin.val)).map some ++ t) = (D',x)
theorem wpSeq_box1 {ops:Array Oper} {Q:Exit → Act → World → Prop} {rest:List Oper} {o:Oper} {a:Act} {w:World} (ty:TypeId) (x:Operand) (v:Value) (h1:v.cells = #[v]) (ho:o.op = .box ty x) (hx:a.eval x = v) (hw:Region.wanted o (yielded ops a.tmps) = true)
 (h:∀ g w',NewC v ty w g w' → wpList Tryz.prog ops Q rest (a.put o.dst (.pointer (some ⟨g,0,none⟩))) w'):wpList Tryz.prog ops Q (o :: rest) a w:=
 wpSeq_val _ _ hw (box_any _ _ ty x v h1 ho hx w) (h _ _ (NewC.of v ty w))
theorem wpSeq_allocEr {ops:Array Oper} {Q:Exit → Act → World → Prop} {rest:List Oper} {o:Oper} {a:Act} {w:World} (ho:o.op = .alloc 26) (hw:Region.wanted o (yielded ops a.tmps) = true)
 (h:∀ g w',NewC (.int .i64 0) 26 w g w' → wpList Tryz.prog ops Q rest (a.put o.dst (.pointer (some ⟨g,0,none⟩))) w'):wpList Tryz.prog ops Q (o :: rest) a w:=
 wpSeq_val _ _ hw (by unfold execOp;rw [ho];kernel_rfl) (h _ _ (NewC.of (.int .i64 0) 26 w))
theorem chunk_reads {W:World} {ad:Option Addr} {N c m:Nat} {r:Bs} (h:Reads W (.slice ad N c) r) (hr:r.length = 64 * m) {k:Nat} (hk:k < m):Reads W (chV (.slice ad N c) k) ((r.drop (64 * k)).take 64):=by
 obtain ⟨_,_,hv,_,_,hps⟩:=id h
 simp only [Value.slice.injEq] at hv
 obtain ⟨b,off,h1,_⟩:=hps (by omega)
 rw [← hv.1] at h1
 subst h1
 exact h.cutJ (64 * k) 64 64 (by omega) (Nat.le_refl _)
theorem jPut_any {w:World} {gd lg:Nat} {P:Nat → Prop} {D:DkT} (hs k gen u at_ m:Nat) (vr v:Value) (r:Bs) (hdk:DkIs w gd P D) (hlb:Blk w lg (lgC gd hs 0 k gen vr u) 144) (hnp:¬ P lg) (hrl:r.length = 64 * m) (hm:m ≤ 100) (ha:at_ ≤ 100) (hwt:D.wait.length + m ≤ 200) (hst:Sta (Un P (fun x => x = lg)) w (fun W => Reads W v r)) :
 Calls Tryz.prog 102 #[.pointer (some ⟨lg,0,none⟩),.int .i64 (at_:Int),v] w fun e w' => e = .returned (.int .i64 (runJ D ((secsOf at_ m r).map some ++ [none])).2) ∧ ∃ P',DkIs w' gd P' (runJ D ((secsOf at_ m r).map some ++ [none])).1 ∧ Blk w' lg (lgC gd hs (runJ D ((secsOf at_ m r).map some ++ [none])).2 k gen vr u) 144 ∧ Mut (Un P (fun x => x = lg)) w w' ∧ Grew w P P':=by
 obtain ⟨DX,xX,HX⟩:∃ D2 x,Hid (runJ D ((secsOf at_ m r).map some ++ [none]) = (D2,x)):=⟨(runJ D ((secsOf at_ m r).map some ++ [none])).1,(runJ D ((secsOf at_ m r).map some ++ [none])).2,rfl⟩
 rw [HX.out]
 show Calls Tryz.prog 102 _ w fun e w' => e = .returned (.int .i64 xX) ∧ ∃ P',DkIs w' gd P' DX ∧ Blk w' lg (lgC gd hs xX k gen vr u) 144 ∧ Mut (Un P (fun x => x = lg)) w w' ∧ Grew w P P'
 obtain ⟨N,HN⟩:=sqn (r.length)
 obtain ⟨ad,c,hv⟩:∃ a c,v = .slice a N c:=by obtain ⟨a,c,hv,_⟩:=hst.now;rw [← HN.out] at hv;exact ⟨a,c,hv⟩
 subst hv
 obtain ⟨lc,HLC⟩:∃ lc:Int → List Value,Hid (∀ x,lc x = lgC gd hs x k gen vr u):=⟨fun x => lgC gd hs x k gen vr u,fun _ => rfl⟩
 have HLB:Hid (Blk w lg (lc 0) 144):=by rw [HLC.out];exact hlb
 have HDK:Hid (DkIs w gd P D):=hdk
 have HNP:Hid (¬ P lg):=hnp
 have HBD:Hid (r.length = 64 * m ∧ m ≤ 100 ∧ at_ ≤ 100 ∧ D.wait.length + m ≤ 200):=⟨hrl,hm,ha,hwt⟩
 have HST:Hid (Sta (Un P (fun x => x = lg)) w (fun W => Reads W (.slice ad N c) r)):=hst
 have cF:∀ W,Blk W lg (lc 0) 144 → W.cell? ⟨lg,3,none⟩ = some (.int .i64 0):=fun W h => by rw [HLC.out] at h;exact h.cell 3
 have HCF:Hid (∀ W x,Blk W lg (lc x) 144 → W.cell? ⟨lg,0,none⟩ = some (wrF gd) ∧ W.cell? ⟨lg,1,none⟩ = some (syF gd) ∧ W.cell? ⟨lg,3,none⟩ = some (.int .i64 x) ∧ W.frozen? ⟨lg,3,none⟩ = false):=fun W x h => by rw [HLC.out] at h;exact ⟨h.cell 0,h.cell 1,h.cell 3,h.frozen 3⟩
 have HSF:Hid (∀ W x y,Blk W lg (lc x) 144 → Blk (W.setCell ⟨lg,3,none⟩ (.int .i64 y)) lg (lc y) 144):=fun W x y h => by rw [HLC.out] at h ⊢;exact h.set 3 _
 clear cF
 clear hdk hlb hnp hrl hm ha hwt hst
 refine (callsIn_wide (n:=4)).1 ?_
 refine callsIn_of_wp_marks Tryz.func102 rfl trivial ?_ rfl
 simp only [Tryz.ntmps102,List.size_toArray,List.length_cons,List.length_nil,Nat.reduceAdd,Nat.reduceSub,Array.replicate_succ,Array.replicate_zero,List.push_toArray,List.append_toArray,List.nil_append,List.cons_append]
 refine wpIn_wide.2 ?_
 obtain ⟨tk0,tk1,tk2,tk3⟩:=sqk4
 go_wp2_with (first
  | (clear tk0;with_reducible refine wpSeq_box1 96 (.tmp 0) (.pointer (some ⟨lg,0,none⟩)) rfl ?_ ?_ ?_ ?_
     · rfl
     · rfl
     · rfl
     intro g3 y1 nn;have HN1:Hid (NewC (.pointer (some ⟨lg,0,none⟩)) 96 w g3 y1):=nn;clear nn)
  | (clear tk1;with_reducible refine wpSeq_box1 3 (.tmp 1) (.int .i64 (at_:Int)) rfl ?_ ?_ ?_ ?_
     · rfl
     · rfl
     · rfl
     intro g4 y2 nn;have HN2:Hid (NewC (.int .i64 (at_:Int)) 3 y1 g4 y2):=nn;clear nn)
  | (clear tk2;with_reducible refine wpSeq_allocEr ?_ ?_ ?_
     · rfl
     · rfl
     intro g6 y3 nn;have hb3:Below w.heap.size w y3:=HN1.out.below.trans ((HN2.out.below.mono HN1.out.below.size).trans (nn.below.mono (Nat.le_trans HN1.out.below.size HN2.out.below.size)));have h3:Blk y2 g3 [.pointer (some ⟨lg,0,none⟩)] 96:=HN1.out.blk.below HN2.out.below HN1.out.blk.lt;have HB3:Hid (Blk y3 g3 [.pointer (some ⟨lg,0,none⟩)] 96):=h3.below nn.below h3.lt;have HB4:Hid (Blk y3 g4 [.int .i64 (at_:Int)] 3):=HN2.out.blk.below nn.below HN2.out.blk.lt;have HB6:Hid (Blk y3 g6 [.int .i64 0] 26):=nn.blk;have HGE:Hid (w.heap.size ≤ g3 ∧ w.heap.size ≤ g4 ∧ w.heap.size ≤ g6):=⟨HN1.out.ge,Nat.le_trans HN1.out.below.size HN2.out.ge,Nat.le_trans (Nat.le_trans HN1.out.below.size HN2.out.below.size) nn.ge⟩;have HBW:Hid (Below w.heap.size w y3):=hb3;have HL3:Hid (Blk y3 lg (lc 0) 144):=HLB.out.below hb3 HLB.out.lt;have c3:y3.cell? ⟨g3,0,none⟩ = some (.pointer (some ⟨lg,0,none⟩)):=HB3.out.cell 0;have cF:y3.cell? ⟨lg,3,none⟩ = some (.int .i64 0):=(HCF.out y3 0 HL3.out).2.2.1;clear nn hb3 h3 HN1 HN2)
  | (clear tk3;go_at_call 128;refine (chunk_any ad N c _).mono ?_;rintro e0 v1 ⟨gs,gn,rfl,hs1,hs2,hg1,hg2,hz⟩
     have hl4:g4 < y3.heap.size:=HB4.out.lt;replace HB3:Hid (Blk v1 g3 [.pointer (some ⟨lg,0,none⟩)] 96):=HB3.out.below hz HB3.out.lt;replace HB4:Hid (Blk v1 g4 [.int .i64 (at_:Int)] 3):=HB4.out.below hz HB4.out.lt;replace HB6:Hid (Blk v1 g6 [.int .i64 0] 26):=HB6.out.below hz HB6.out.lt;replace HL3:Hid (Blk v1 lg (lc 0) 144):=HL3.out.below hz HL3.out.lt;have HS1:Hid (Blk v1 gs [.slice ad N c] 23 ∧ Blk v1 gn [.int .i64 64] 3 ∧ g4 ≠ gs ∧ g4 ≠ gn ∧ g6 ≠ gs ∧ g6 ≠ gn ∧ w.heap.size ≤ gs ∧ w.heap.size ≤ gn):=⟨hs1,hs2,HB4.out.neT hs1 (by decide),by omega,HB6.out.neT hs1 (by decide),HB6.out.neT hs2 (by decide),Nat.le_trans HBW.out.size hg1,Nat.le_trans HBW.out.size hg2⟩
     replace HBW:=sqt HBW hz;clear hz hs1 hs2 hg1 hg2 c3 cF hl4))
 have HLT:Hid (∀ k,P k → k < w.heap.size):=HDK.out.lt14
 have HLG:Hid (lg < w.heap.size):=HLB.out.lt
 have HNQ:Hid (∀ P0,Grew v1 P P0 → ¬ P0 lg ∧ ¬ P0 g3 ∧ ¬ P0 g4 ∧ ¬ P0 g6):=fun P0 hg => by
  have hs:=HBW.out.size
  have hge:=HGE.out
  have l3:=HB3.out.lt
  have l4:=HB4.out.lt
  have l6:=HB6.out.lt
  have hl:=HLG.out
  refine ⟨fun h => ?_,fun h => ?_,fun h => ?_,fun h => ?_⟩
  · rcases hg _ h with h | h
    · exact HNP.out h
    · omega
  · rcases hg _ h with h | h
    · have:=HLT.out _ h;omega
    · omega
  · rcases hg _ h with h | h
    · have:=HLT.out _ h;omega
    · omega
  · rcases hg _ h with h | h
    · have:=HLT.out _ h;omega
    · omega
 have HRM:Hid (∀ W,Mut (puR P lg g4 g6) v1 W → Mut (Un P (fun x => x = lg)) w W):=fun W h => ⟨h.os.trans HBW.out.os,h.tape.trans HBW.out.tape,h.output.trans HBW.out.output,Nat.le_trans HBW.out.size h.size,fun k hk hn => (h.block k (Nat.lt_of_lt_of_le hk HBW.out.size) (fun hr => by
  have hge:=HGE.out
  rcases hr with hr | hr | hr | hr
  · exact hn (Or.inl hr)
  · exact hn (Or.inr hr)
  · omega
  · omega)).trans (HBW.out.block k hk)⟩
 have HTX:Hid (∀ W,Mut (puR P lg g4 g6) v1 W → Reads W (.slice ad N c) r):=fun W h => HST.out W (HRM.out W h)
 have HV0:Hid (PuI v1 gd lg g3 g4 g6 P lc D at_ m r 0 at_ 0 P D v1):=⟨HDK.out.same14 (fun k hk => HBW.out.block k (HLT.out k hk)),Grew.refl _ _,HL3.out,HB3.out,HB4.out,HB6.out,Mut.refl _ _⟩
 have HNS:Hid (¬ puR P lg g4 g6 gs ∧ ¬ puR P lg g4 g6 gn):=by
  have h1:=HS1.out
  have h2:=HLG.out
  refine ⟨fun h => ?_,fun h => ?_⟩
  · rcases h with h | h | h | h
    · have:=HLT.out _ h;omega
    · omega
    · exact h1.2.2.1 h.symm
    · exact h1.2.2.2.2.1 h.symm
  · rcases h with h | h | h | h
    · have:=HLT.out _ h;omega
    · omega
    · exact h1.2.2.2.1 h.symm
    · exact h1.2.2.2.2.2.1 h.symm
 refine (wpIn_wide (n:=4)).1 ?_
 refine wpIn_rangeFunc_ownF (F:=Fence.wide) (α:=Fin m) rfl (by omega) (gf:=149) (lb:=#[.pointer (some ⟨gs,0,none⟩),.pointer (some ⟨gn,0,none⟩)]) rfl trivial (enters_of Tryz.func149 (by kernel_rfl) rfl)
  (chunk_stops 3 (n₀:=v1.heap.size) (R:=puR P lg g4 g6) (ad:=ad) (N:=N) (c:=c) (m:=m) (HN.out.trans HBD.out.1) (Nat.le_trans HBD.out.2.1 (by decide)) v1 (Nat.le_refl _) (fun W h => ⟨r,HN.out.symm,HTX.out W h.mut⟩) HS1.out.1 HS1.out.2.1 ⟨HS1.out.1.lt,HNS.out.1⟩ ⟨HS1.out.2.1.lt,HNS.out.2⟩)
  KpJ.trans (fun W l o o' h1 h2 h3 h4 => KpJ.put (w:=v1) (Nat.le_refl _) W l o o' h1 h2 h3 h4) (Below.refl _ _) (fun _ => rfl)
  (PuJ v1 gd lg g3 g4 g6 P lc D at_ m r) (PuX v1 gd lg g3 g4 g6 P lc D at_ m r)
  (fun s X Y row hs hg hr => by
    obtain ⟨P',D',h1,h2⟩:=hs;exact ⟨P',D',h1.own hg hr,h2⟩)
  (fun c s X Y row hs hg hr => by
    obtain ⟨e,P',D',an,x,h1,h2⟩:=hs;exact ⟨e,P',D',an,x,h1.own hg hr,h2⟩)
  ⟨P,D,HV0.out,RunTo.zero D,Nat.le_refl _⟩
  (fun z => { tmps:=#[.pointer (some ⟨lg,0,none⟩),.int .i64 (at_:Int),.slice ad N c,.pointer (some ⟨g3,0,none⟩),.pointer (some ⟨g4,0,none⟩),undef,.pointer (some ⟨g6,0,none⟩),chV (.slice ad N c) z.val,.pointer (some ⟨lg,0,none⟩),.pointer (some ⟨lg,0,none⟩),.pointer (some ⟨lg,3,none⟩),.int .i64 0,.bool false,undef,undef,undef,undef,.slice ad N c,.func (.func 149) #[] #[.pointer (some ⟨gs,0,none⟩),.pointer (some ⟨gn,0,none⟩)],chV (.slice ad N c) z.val,undef,undef,undef,undef,undef,undef,undef,undef,undef,undef,undef,undef,undef,undef,undef,undef,undef,undef,undef,undef,undef,undef,undef,undef,undef,undef,undef,undef,undef,undef,undef,undef,undef],defers:=[] }) ?assign ?body ?done ?stop
 case assign =>
  intro l z W K hK
  gi_wp2
  exact hK
 case body =>
  rintro lab pre z W ⟨P',D',hi,hrun,hwt⟩ hlen
  obtain ⟨an,HAN⟩:=sqn (at_ + pre.length)
  obtain ⟨b,HB⟩:=sqn ((r.drop (64 * z.val)).take 64)
  obtain ⟨x,HXX⟩:=sqn (putX13 D' (an:Int) b)
  rw [← HAN.out] at hi
  have HI:Hid (PuI v1 gd lg g3 g4 g6 P lc D at_ m r 0 an 0 P' D' W):=hi
  have HRN:Hid (RunTo D (wsN at_ r (pre.map Fin.val)) D'):=hrun
  have HWT:Hid (D'.wait.length ≤ D.wait.length + pre.length ∧ pre.length < m):=⟨hwt,hlen⟩
  have HPU:Hid (∀ k,k < v1.heap.size → P' k → puR P lg g4 g6 k):=fun k hk h => (hi.gr k h).elim Or.inl (fun h2 => absurd h2 (by omega))
  have HCH:Hid (Sta P' W.drew (fun Y => Reads Y (chV (.slice ad N c) z.val) b)):=fun Y hY => by
   rw [HB.out];exact chunk_reads (HTX.out Y ((hi.mv.drew).trans HPU.out hY)) HBD.out.1 z.isLt
  have HWC:Hid (Calls Tryz.prog 89 #[.pointer (some ⟨gd,0,none⟩),.int .i64 (an:Int),chV (.slice ad N c) z.val] W.drew fun e w' => ∃ P2,e = .returned (.int .i64 x) ∧ DkIs w' gd P2 (putD13 D' (an:Int) b) ∧ Mut P' W.drew w' ∧ Grew W.drew P' P2):=by
   rw [HXX.out];exact dkWrite_any (an:Int) _ b (hi.dk.same14 (w':=W.drew) (fun _ _ => rfl)) (by have h1:=HBD.out.2.2.2;omega) HCH.out
  clear hi hrun hwt hlen
  gi_wp2_with fail
  refine wpIn_round_held (S:=fun wx => Blk wx g3 [.pointer (some ⟨lg,0,none⟩)] 96 ∧ Blk wx g4 [.int .i64 (an:Int)] 3 ∧ wx.cell? ⟨lg,0,none⟩ = some (wrF gd)) (by kernel_rfl) (by kernel_rfl) (by rintro ⟨_,_,h⟩;exact h) ⟨HI.out.b3.drew,HI.out.b4.drew,(HCF.out W 0 HI.out.lb).1⟩ ?_
  intro hS
  refine tka 0 (.pointer (some ⟨lg,0,none⟩)) rfl (fun wx hx => by (have c0:wx.cell? ⟨g3,0,none⟩ = some (.pointer (some ⟨lg,0,none⟩)):=hx.1.cell 0;simp [go_sem,c0])) hS ?_
  simp only [Act.put,sq]
  refine tka 1 (.pointer (some ⟨lg,0,none⟩)) rfl (fun wx hx => by (have c0:wx.cell? ⟨g3,0,none⟩ = some (.pointer (some ⟨lg,0,none⟩)):=hx.1.cell 0;simp [go_sem,c0])) hS ?_
  simp only [Act.put,sq]
  refine tkc 2 (.pointer (some ⟨lg,0,none⟩)) rfl hS ?_
  simp only [Act.put,sq]
  refine tkc 3 (.pointer (some ⟨lg,0,none⟩)) rfl hS ?_
  simp only [Act.put,sq]
  refine tka 4 (wrF gd) rfl (fun wx hx => by simp [go_sem,hx.2.2]) hS ?_
  simp only [Act.put,sq]
  refine tka 5 (.int .i64 (an:Int)) rfl (fun wx hx => by (have c0:wx.cell? ⟨g4,0,none⟩ = some (.int .i64 (an:Int)):=hx.2.1.cell 0;simp [go_sem,c0])) hS ?_
  simp only [Act.put,sq]
  refine tkc 6 (chV (.slice ad N c) z.val) rfl hS ?_
  simp only [Act.put,sq]
  refine wpAnyH_enter 7 (by kernel_rfl) rfl (by rfl) (f:=89) (args:=#[.pointer (some ⟨gd,0,none⟩),.int .i64 (an:Int),chV (.slice ad N c) z.val]) (by simp [go_sem,wrF]) HWC.out ?_
  rintro e0 W2 ⟨P2,rfl,hd2,hm2,hg2⟩
  have hgr2:Grew v1 P P2:=HI.out.gr.trans HI.out.mv.size hg2
  obtain ⟨n1,n3,n4,n6⟩:=HNQ.out P' HI.out.gr
  have HL2:Hid (Blk W2 lg (lc 0) 144):=hm2.blk HI.out.lb.drew n1
  have HB32:Hid (Blk W2 g3 [.pointer (some ⟨lg,0,none⟩)] 96):=hm2.blk HI.out.b3.drew n3
  have HB42:Hid (Blk W2 g4 [.int .i64 (an:Int)] 3):=hm2.blk HI.out.b4.drew n4
  have HB62:Hid (Blk W2 g6 [.int .i64 0] 26):=hm2.blk HI.out.b6.drew n6
  obtain ⟨f1,f2,f3,f4⟩:=HCF.out W2 0 HL2.out
  replace hS:Blk W2 g3 [.pointer (some ⟨lg,0,none⟩)] 96 ∧ Blk W2 g4 [.int .i64 (an:Int)] 3 ∧ W2.cell? ⟨lg,0,none⟩ = some (wrF gd):=⟨HB32.out,HB42.out,f1⟩
  refine ⟨_,rfl,hS,?_⟩
  simp only [Act.put,sq]
  refine tkc 8 (.pointer (some ⟨lg,0,none⟩)) rfl hS ?_
  simp only [Act.put,sq]
  refine tkc 9 (.pointer (some ⟨lg,3,none⟩)) rfl hS ?_
  simp only [Act.put,sq]
  obtain ⟨W3,HW3⟩:∃ y,Hid (y = W2.setCell ⟨lg,3,none⟩ (.int .i64 x)):=⟨_,rfl⟩
  have ho3:Only lg W2 W3:=by rw [HW3.out];exact Only.setCell (Only.refl _ _) _ _
  have hl3:Blk W3 lg (lc x) 144:=by rw [HW3.out];exact HSF.out W2 0 x HL2.out
  have hne3:g3 ≠ lg:=by have h1:=HGE.out;have h2:=HLG.out;omega
  have hne4:g4 ≠ lg:=by have h1:=HGE.out;have h2:=HLG.out;omega
  have hne6:g6 ≠ lg:=by have h1:=HGE.out;have h2:=HLG.out;omega
  replace hS:Blk W3 g3 [.pointer (some ⟨lg,0,none⟩)] 96 ∧ Blk W3 g4 [.int .i64 (an:Int)] 3 ∧ W3.cell? ⟨lg,0,none⟩ = some (wrF gd):=⟨HB32.out.only ho3 hne3,HB42.out.only ho3 hne4,(HCF.out W3 x hl3).1⟩
  refine wpAnyH_skip 10 W3 (by kernel_rfl) rfl (by rfl) (by rw [HW3.out];simp [go_sem,f3,f4]) hS ?_
  simp only [Act.put]
  refine wpAnyH_done (by kernel_rfl) ?_ _
  obtain ⟨m1,m3,m4,m6⟩:=HNQ.out P2 hgr2
  have HD3:Hid (DkIs W3 gd P2 (putD13 D' (an:Int) b)):=hd2.same14 (fun k hk => ho3.block k (fun e => m1 (e ▸ hk)) (hd2.lt14 k hk))
  have HM3:Hid (Mut (puR P' lg g4 g6) W W3):=((mut_drew (puR P' lg g4 g6) W).trans (fun _ _ h => h) ((Mut.refl (puR P' lg g4 g6) W.drew).trans (fun _ _ h => Or.inl h) hm2)).trans (fun _ _ h => h) (ho3.mut (Or.inr (Or.inl rfl)))
  have HL3x:Hid (Blk W3 lg (lc x) 144):=hl3
  have HB33:Hid (Blk W3 g3 [.pointer (some ⟨lg,0,none⟩)] 96):=hS.1
  have HB43:Hid (Blk W3 g4 [.int .i64 (an:Int)] 3):=hS.2.1
  have HB63:Hid (Blk W3 g6 [.int .i64 0] 26):=HB62.out.only ho3 hne6
  have HG3:Hid (Grew v1 P P2):=hgr2
  have HKC:Hid (∀ k,puR P' lg g4 g6 k → ∃ cs t,W.heap[k]? = some (.cells cs t (0,0))):=fun k hk => by
   rcases hk with hk | rfl | rfl | rfl
   · exact HI.out.dk.cells k hk
   · exact ⟨_,_,HI.out.lb⟩
   · exact ⟨_,_,HI.out.b4⟩
   · exact ⟨_,_,HI.out.b6⟩
  have HPQ:Hid (∀ k,k < v1.heap.size → puR P' lg g4 g6 k → puR P lg g4 g6 k):=fun k hk h => by
   rcases h with h | h
   · exact HPU.out k hk h
   · exact Or.inr h
  have c3:W3.cell? ⟨g3,0,none⟩ = some (.pointer (some ⟨lg,0,none⟩)):=hS.1.cell 0
  have c4:W3.cell? ⟨g4,0,none⟩ = some (.int .i64 (an:Int)):=hS.2.1.cell 0
  have d4:W3.frozen? ⟨g4,0,none⟩ = false:=hS.2.1.frozen 0
  have c6:W3.cell? ⟨g6,0,none⟩ = some (.int .i64 0):=HB63.out.cell 0
  have d6:W3.frozen? ⟨g6,0,none⟩ = false:=HB63.out.frozen 0
  have cF:W3.cell? ⟨lg,3,none⟩ = some (.int .i64 x):=(HCF.out W3 x hl3).2.2.1
  have fan:IntKind.i64.wrap ((an:Int) + 1) = ((an + 1:Nat):Int):=by rw [IntKind.wrap_i64];have h1:=HAN.out;have h2:=HBD.out;have h3:=HWT.out;omega
  have HLEN:Hid (an + 1 = at_ + (pre ++ [z]).length):=by show _ = _;rw [HAN.out,List.length_append];rfl
  clear hS hl3 hne3 hne4 hne6 ho3 m1 m3 m4 m6 n1 n3 n4 n6 hd2 hm2 hg2 hgr2 f1 f2 f3 f4 HW3 HWC HCH
  have n34:g3 ≠ g4:=HB33.out.neT HB43.out (by decide)
  have n64:g6 ≠ g4:=HB63.out.neT HB43.out (by decide)
  have nl4:lg ≠ g4:=HL3x.out.neT HB43.out (by decide)
  have n36:g3 ≠ g6:=HB33.out.neT HB63.out (by decide)
  have nl6:lg ≠ g6:=HL3x.out.neT HB63.out (by decide)
  have HWS:Hid (wsN at_ r ((pre ++ [z]).map Fin.val) = wsN at_ r (pre.map Fin.val) ++ [(an,b)]):=by
   show _ = _;rw [List.map_append,List.map_cons,List.map_nil,wsN_snoc,List.length_map,HAN.out,HB.out]
  have HNE:Hid (g3 ≠ g4 ∧ g6 ≠ g4 ∧ lg ≠ g4 ∧ g3 ≠ g6 ∧ lg ≠ g6):=⟨n34,n64,nl4,n36,nl6⟩
  clear n34 n64 nl4 n36 nl6
  by_cases hx0:x = 0
  case pos =>
   subst hx0
   gi_wp2
   obtain ⟨W4,HW4⟩:∃ y,Hid (y = W3.setCell ⟨g4,0,none⟩ (.int .i64 ((an:Int) + 1))):=⟨_,rfl⟩;have ho4:Only g4 W3 W4:=by rw [HW4.out];exact Only.setCell (Only.refl _ _) _ _
   have hb4:Blk W4 g4 [.int .i64 ((at_ + (pre ++ [z]).length:Nat):Int)] 3:=by rw [HW4.out,← HLEN.out];exact HB43.out.set 0 _
   rw [← HW4.out];have HM4:Mut (puR P' lg g4 g6) W W4:=HM3.out.trans (fun _ _ h => h) (ho4.mut (Or.inr (Or.inr (Or.inl rfl))))
   obtain ⟨m1,m3,m4,m6⟩:=HNQ.out P2 HG3.out;refine ⟨keeps_mut HM4 HKC.out,⟨HM4.os,HM4.tape,HM4.output,HM4.size,fun k hk hn => HM4.block k (Nat.lt_of_lt_of_le hk HI.out.mv.size) (fun h => hn (HPQ.out k hk h))⟩,P2,putD13 D' (an:Int) b,⟨HD3.out.same14 (fun k hk => ho4.block k (fun e => m4 (e ▸ hk)) (HD3.out.lt14 k hk)),HG3.out,HL3x.out.only ho4 HNE.out.2.2.1,HB33.out.only ho4 HNE.out.1,hb4,HB63.out.only ho4 HNE.out.2.1,HI.out.mv.trans HPQ.out HM4⟩,?_,?_⟩
   · rw [HWS.out]
     exact HRN.out.next (p:=(an,b)) HXX.out.symm
   · have h1:=put_wait D' (an:Int) b
     have h2:=HWT.out.1;rw [List.length_append];show _ ≤ D.wait.length + (pre.length + 1);omega
  case neg =>
   have q1:(x != 0) = true:=by rw [bne_iff_ne];exact hx0
   gi_wp2
   obtain ⟨W4,HW4⟩:∃ y,Hid (y = W3.setCell ⟨g6,0,none⟩ (.int .i64 x)):=⟨_,rfl⟩;have ho4:Only g6 W3 W4:=by rw [HW4.out];exact Only.setCell (Only.refl _ _) _ _
   have hb6:Blk W4 g6 [.int .i64 x] 26:=by rw [HW4.out];exact HB63.out.set 0 _
   rw [← HW4.out];have HM4:Mut (puR P' lg g4 g6) W W4:=HM3.out.trans (fun _ _ h => h) (ho4.mut (Or.inr (Or.inr (Or.inr rfl))))
   obtain ⟨m1,m3,m4,m6⟩:=HNQ.out P2 HG3.out;refine ⟨keeps_mut HM4 HKC.out,rfl,P2,putD13 D' (an:Int) b,an,x,⟨HD3.out.same14 (fun k hk => ho4.block k (fun e => m6 (e ▸ hk)) (HD3.out.lt14 k hk)),HG3.out,HL3x.out.only ho4 HNE.out.2.2.2.2,HB33.out.only ho4 HNE.out.2.2.2.1,HB43.out.only ho4 (Ne.symm HNE.out.2.1),hb6,HI.out.mv.trans HPQ.out HM4⟩,fun t => ?_⟩
   rw [HWS.out,HXX.out];exact HRN.out.stop (p:=(an,b)) (by rw [← HXX.out];exact hx0) t
 case done =>
  rintro Dd xs W hD hxs ⟨P',D',hi,hrun,hwt⟩ hK
  subst hxs
  rw [frs_val m m (Nat.le_refl _),wsN_range at_ m r m (Nat.le_refl _),List.take_of_length_le (by rw [secs_len];exact Nat.le_refl _)] at hrun
  rw [frs_len m m (Nat.le_refl _)] at hwt hi
  have HXE:Hid (DX = syncD13 D' ∧ xX = syncX13 D'):=by
   have h:=HX.out;rw [hrun,runJ] at h
   by_cases h0:syncX13 D' = 0
   · rw [if_pos h0,runJ] at h
     exact ⟨(congrArg Prod.fst h).symm,by rw [h0];exact (congrArg Prod.snd h).symm⟩
   · rw [if_neg h0] at h
     exact ⟨(congrArg Prod.fst h).symm,(congrArg Prod.snd h).symm⟩
  have HI:Hid (PuI v1 gd lg g3 g4 g6 P lc D at_ m r 0 (at_ + m) 0 P' D' W):=hi
  have HSC:Hid (Calls Tryz.prog 90 #[.pointer (some ⟨gd,0,none⟩)] W.drew fun e w' => ∃ P2,e = .returned (.int .i64 xX) ∧ DkIs w' gd P2 DX ∧ Mut P' W.drew w' ∧ Grew W.drew P' P2):=by
   rw [HXE.out.1,HXE.out.2];exact dkSync_any (hi.dk.same14 (w':=W.drew) (fun _ _ => rfl)) (by have h1:=HBD.out.2.2.2;omega)
  have HPQ:Hid (∀ k,k < v1.heap.size → puR P' lg g4 g6 k → puR P lg g4 g6 k):=fun k hk h => by
   rcases h with h | h
   · exact (hi.gr k h).elim Or.inl (fun h2 => absurd h2 (by omega))
   · exact Or.inr h
  have HKD:Hid (W.heap[Dd]? = some (.deferred (some []))):=hK
  have HKG:Hid (v1.heap.size ≤ Dd):=hD
  clear hi hrun hwt hK hD
  gi_wp2_with fail
  go_wp2_with fail
  refine wp_normal ?_
  refine wp_region_held_drew (S:=fun wx => Blk wx g3 [.pointer (some ⟨lg,0,none⟩)] 96 ∧ wx.cell? ⟨lg,1,none⟩ = some (syF gd)) (by kernel_rfl) ⟨HI.out.b3.drew,(HCF.out W 0 HI.out.lb).2.1⟩ ?_
  intro hS
  refine tka 0 (.pointer (some ⟨lg,0,none⟩)) rfl (fun wx hx => by (have c0:wx.cell? ⟨g3,0,none⟩ = some (.pointer (some ⟨lg,0,none⟩)):=hx.1.cell 0;simp [go_sem,c0])) hS ?_
  simp only [Act.put,sq]
  refine tka 1 (.pointer (some ⟨lg,0,none⟩)) rfl (fun wx hx => by (have c0:wx.cell? ⟨g3,0,none⟩ = some (.pointer (some ⟨lg,0,none⟩)):=hx.1.cell 0;simp [go_sem,c0])) hS ?_
  simp only [Act.put,sq]
  refine tkc 2 (.pointer (some ⟨lg,0,none⟩)) rfl hS ?_
  simp only [Act.put,sq]
  refine tkc 3 (.pointer (some ⟨lg,1,none⟩)) rfl hS ?_
  simp only [Act.put,sq]
  refine tka 4 (syF gd) rfl (fun wx hx => by simp [go_sem,hx.2]) hS ?_
  simp only [Act.put,sq]
  refine wpAnyH_enter 5 (by kernel_rfl) rfl (by rfl) (f:=90) (args:=#[.pointer (some ⟨gd,0,none⟩)]) (by simp [go_sem,syF]) HSC.out ?_
  rintro e0 W2 ⟨P2,rfl,hd2,hm2,hg2⟩
  have hgr2:Grew v1 P P2:=HI.out.gr.trans HI.out.mv.size hg2
  obtain ⟨n1,n3,n4,n6⟩:=HNQ.out P' HI.out.gr
  have HL2:Hid (Blk W2 lg (lc 0) 144):=hm2.blk HI.out.lb.drew n1
  have HB32:Hid (Blk W2 g3 [.pointer (some ⟨lg,0,none⟩)] 96):=hm2.blk HI.out.b3.drew n3
  have HB62:Hid (Blk W2 g6 [.int .i64 0] 26):=hm2.blk HI.out.b6.drew n6
  have HK2:Hid (W2.heap[Dd]? = some (.deferred (some []))):=(keeps_mut hm2 (fun k hk => HI.out.dk.cells k hk)).same Dd _ HKD.out rfl
  obtain ⟨f1,f2,f3,f4⟩:=HCF.out W2 0 HL2.out
  replace hS:Blk W2 g3 [.pointer (some ⟨lg,0,none⟩)] 96 ∧ W2.cell? ⟨lg,1,none⟩ = some (syF gd):=⟨HB32.out,f2⟩
  refine ⟨_,rfl,hS,?_⟩
  simp only [Act.put,sq]
  refine tkc 6 (.pointer (some ⟨lg,0,none⟩)) rfl hS ?_
  simp only [Act.put,sq]
  refine tkc 7 (.pointer (some ⟨lg,3,none⟩)) rfl hS ?_
  simp only [Act.put,sq]
  obtain ⟨W3,HW3⟩:∃ y,Hid (y = W2.setCell ⟨lg,3,none⟩ (.int .i64 xX)):=⟨_,rfl⟩
  have ho3:Only lg W2 W3:=by rw [HW3.out];exact Only.setCell (Only.refl _ _) _ _
  have hl3:Blk W3 lg (lc xX) 144:=by rw [HW3.out];exact HSF.out W2 0 xX HL2.out
  have hne3:g3 ≠ lg:=by have h1:=HGE.out;have h2:=HLG.out;omega
  have hne6:g6 ≠ lg:=by have h1:=HGE.out;have h2:=HLG.out;omega
  replace hS:Blk W3 g3 [.pointer (some ⟨lg,0,none⟩)] 96 ∧ W3.cell? ⟨lg,1,none⟩ = some (syF gd):=⟨HB32.out.only ho3 hne3,(HCF.out W3 xX hl3).2.1⟩
  refine wpAnyH_skip 8 W3 (by kernel_rfl) rfl (by rfl) (by rw [HW3.out];simp [go_sem,f3,f4]) hS ?_
  simp only [Act.put]
  refine wpAnyH_done (by kernel_rfl) ?_ _
  obtain ⟨m1,m3,m4,m6⟩:=HNQ.out P2 hgr2
  have HD3:Hid (DkIs W3 gd P2 DX):=hd2.same14 (fun k hk => ho3.block k (fun e => m1 (e ▸ hk)) (hd2.lt14 k hk))
  have HM3:Hid (Mut (puR P' lg g4 g6) W W3):=((mut_drew (puR P' lg g4 g6) W).trans (fun _ _ h => h) ((Mut.refl (puR P' lg g4 g6) W.drew).trans (fun _ _ h => Or.inl h) hm2)).trans (fun _ _ h => h) (ho3.mut (Or.inr (Or.inl rfl)))
  have HL3x:Hid (Blk W3 lg (lc xX) 144):=hl3
  have HB63:Hid (Blk W3 g6 [.int .i64 0] 26):=HB62.out.only ho3 hne6
  have HG3:Hid (Grew v1 P P2):=hgr2
  have HK3:Hid (W3.heap[Dd]? = some (.deferred (some []))):=by
   show _ = _;rw [ho3.block Dd (by have h1:=HKG.out;have h2:=HLG.out;have h3:=HBW.out.size;omega) (Array.getElem?_eq_some_iff.1 HK2.out).1]
   exact HK2.out
  have c3:W3.cell? ⟨g3,0,none⟩ = some (.pointer (some ⟨lg,0,none⟩)):=hS.1.cell 0
  have c6:W3.cell? ⟨g6,0,none⟩ = some (.int .i64 0):=HB63.out.cell 0
  have d6:W3.frozen? ⟨g6,0,none⟩ = false:=HB63.out.frozen 0
  have cF:W3.cell? ⟨lg,3,none⟩ = some (.int .i64 xX):=(HCF.out W3 xX hl3).2.2.1
  clear hS hl3 hne3 hne6 ho3 m1 m3 m4 n1 n3 n4 n6 hd2 hm2 hg2 hgr2 f1 f2 f3 f4 HW3 HSC
  simp only [onlyNormal]
  go_wp2
  obtain ⟨W4,HW4⟩:∃ y,Hid (y = W3.setCell ⟨g6,0,none⟩ (.int .i64 xX)):=⟨_,rfl⟩
  have ho4:Only g6 W3 W4:=by rw [HW4.out];exact Only.setCell (Only.refl _ _) _ _
  have hb6:Blk W4 g6 [.int .i64 xX] 26:=by rw [HW4.out];exact HB63.out.set 0 _
  have nl6:lg ≠ g6:=HL3x.out.neT HB63.out (by decide)
  have hk4:W4.heap[Dd]? = some (.deferred (some [])):=by
   rw [ho4.block Dd (fun e => by have h:=HB63.out;unfold Blk at h;rw [← e,HK3.out] at h;cases h) (Array.getElem?_eq_some_iff.1 HK3.out).1]
   exact HK3.out
  rw [← HW4.out]
  have HM4:Mut (puR P lg g4 g6) v1 W4:=HI.out.mv.trans HPQ.out (HM3.out.trans (fun _ _ h => h) (ho4.mut (Or.inr (Or.inr (Or.inr rfl)))))
  refine ⟨by simp,.inl ⟨_,_,rfl,run_takeDeferred hk4,?_⟩⟩
  have hc5:=(hb6.put hk4 rfl (o':=.deferred none)).cell 0
  have hgp:=grownBy_putObj' W4 Dd (.deferred none)
  have hd5:DkIs (W4.putObj Dd (.deferred none)) gd P2 DX:=(HD3.out.same14 (w':=W4) (fun k hk => ho4.block k (fun e => m6 (e ▸ hk)) (HD3.out.lt14 k hk))).own14 hgp (fun x e => by cases e;exact ⟨_,hk4,rfl⟩)
  have hl5:Blk (W4.putObj Dd (.deferred none)) lg (lc xX) 144:=(HL3x.out.only ho4 nl6).put hk4 rfl
  have hm5:Mut (puR P lg g4 g6) v1 (W4.putObj Dd (.deferred none)):=⟨hgp.os.trans HM4.os,hgp.tape.trans HM4.tape,hgp.output.trans HM4.output,Nat.le_trans HM4.size hgp.size,fun k hk hn => (hgp.block k (Nat.lt_of_lt_of_le hk HM4.size) (fun e => by cases e;have:=HKG.out;omega)).trans (HM4.block k hk hn)⟩
  refine ⟨.int .i64 xX,?_,rfl,P2,hd5,by rw [← HLC.out];exact hl5,HRM.out _ hm5,fun k hk => (HG3.out k hk).imp id (fun h => Nat.le_trans HBW.out.size h)⟩
  simp at hc5
  simp [results,Tryz.f102,go_sem,hc5]
 case stop =>
  rintro Dd cc pre W hD ⟨kk,hk,rfl⟩ ⟨rfl,P',D',an,x,hi,hrun⟩ hK
  rw [frs_val m kk hk,wsN_range at_ m r kk hk] at hrun
  have hxe:D' = DX ∧ x = xX:=by
   have h1:=hrun (((secsOf at_ m r).drop kk).map some ++ [none]);rw [← List.append_assoc,← List.map_append,List.take_append_drop,HX.out] at h1;exact ⟨(congrArg Prod.fst h1).symm,(congrArg Prod.snd h1).symm⟩
  obtain ⟨rfl,rfl⟩:=hxe
  have HI:Hid (PuI v1 gd lg g3 g4 g6 P lc D at_ m r x an x P' D' W):=hi
  have HKD:Hid (W.heap[Dd]? = some (.deferred (some []))):=hK
  have HKG:Hid (v1.heap.size ≤ Dd):=hD
  clear hi hrun hK hD
  gi_wp2
  refine ⟨by simp,.inl ⟨_,_,rfl,run_takeDeferred HKD.out,?_⟩⟩
  have hc5:=(HI.out.b6.put HKD.out rfl (o':=.deferred none)).cell 0
  have hI5:PuI v1 gd lg g3 g4 g6 P lc D at_ m r x an x P' D' (W.putObj Dd (.deferred none)):=HI.out.own (grownBy_putObj' W Dd (.deferred none)) (fun x e => by cases e;exact ⟨HKG.out,_,HKD.out,rfl⟩)
  refine ⟨.int .i64 x,?_,rfl,P',hI5.dk,by rw [← HLC.out];exact hI5.lb,HRM.out _ hI5.mv,fun k hk => (hI5.gr k hk).imp id (fun h => Nat.le_trans HBW.out.size h)⟩
  simp at hc5
  simp [results,Tryz.f102,go_sem,hc5]
end Go.Proofs.YtheincjkoefalaaGreatDoor
namespace Go.Proofs.YtheincjkoefalaaGreatDoor
open Go.RowKit
def nilL (n:Nat):List Value:=List.replicate n (.slice none 0 0)
theorem len_nilL (n:Nat):(nilL n).length = n:=List.length_replicate
theorem madeT (n:Nat):madeCells (Value.cells (.slice none 0 0)) (n * 1) = (nilL n).toArray:=by
 apply Array.ext
 · rw [size_madeCells,List.size_toArray,len_nilL,Nat.mul_one]
 · intro j h1 h2
   have e2:(nilL n).toArray[j] = .slice none 0 0:=by rw [List.getElem_toArray];exact List.getElem_replicate _
   rw [e2];simp only [madeCells,Array.getElem_map,Array.getElem_range];have hz:j % (Value.cells (.slice none 0 0)).size = 0:=Nat.mod_one j;rw [hz]
   rfl
theorem make_tx (f:Operand → Value) (o:Oper) (x y:Operand) (n:Nat) (hn:n ≤ 1000000) (ho:o.op = .makeSlice 41 x y) (hx:f x = .int .i64 (n:Int)) (hy:f y = .int .i64 (n:Int)) (w:World) :
 (execOp f o).run Tryz.prog w = .ok (.value (.slice (some ⟨w.heap.size,0,none⟩) n n)) (w.alloc (.cells (nilL n).toArray 23)):=by
 obtain ⟨i0,hi,hz,hs,hby⟩:=info_parts Tryz.infobsJ
 have hr:=run_make (P:=Tryz.prog) w 41 23 i0 _ Tryz.underlying41 hi hz .i64 .i64 (n:Int) (n:Int) (by omega) (Int.le_refl _) (by rw [hby];omega) (by omega)
 rw [Int.toNat_natCast,hs,madeT] at hr
 unfold execOp
 rw [ho]
 simp only [hx,hy,Sem.run_bind,hr,Result.andThen_ok,Sem.run_pure]
structure RowJ (w:World) (g n:Nat) (us:List Value) (xs:List Bs):Prop where
 blk:Blk w g (us ++ nilL (n - us.length)) 23
 len:us.length = xs.length
 good:∀ j u,us[j]? = some u → OwnB w (g + 1) u (xs.getD j [])
 le:us.length ≤ n
theorem RowJ.next {w w':World} {g n:Nat} {us:List Value} {xs:List Bs} (h:RowJ w g n us xs) (hb:Below w.heap.size w w'):RowJ w' g n us xs:=
 ⟨h.blk.below hb h.blk.lt,h.len,fun j u hj => (h.good j u hj).sameJ fun k hk => hb.block k ((h.good j u hj).ltJ k hk).2,h.le⟩
theorem RowJ.put {w:World} {g n k:Nat} {us:List Value} {xs:List Bs} {u:Value} {t:Bs} (h:RowJ w g n us xs) (hk:us.length = k) (hn:k < n) (hu:OwnB w (g + 1) u t):RowJ (w.setCell ⟨g,k,none⟩ u) g n (us ++ [u]) (xs ++ [t]):=by
 have o6:Only g w (w.setCell ⟨g,k,none⟩ u):=Only.setCell (Only.refl g w) k _
 have up:∀ x t,OwnB w (g + 1) x t → OwnB (w.setCell ⟨g,k,none⟩ u) (g + 1) x t:=fun x t hx => hx.sameJ fun j hj => o6.block j (by have:=(hx.ltJ j hj).1;omega) (hx.ltJ j hj).2
 refine ⟨?_,by rw [List.length_append,List.length_append,h.len];rfl,fun j x hj => ?_,by rw [List.length_append,List.length_singleton];omega⟩
 · have h1:=h.blk.set k u
   have e:(us ++ nilL (n - us.length)).set k u = us ++ [u] ++ nilL (n - (us ++ [u]).length):=by
    rw [← hk,List.set_append_right _ _ (Nat.le_refl _),Nat.sub_self,List.length_append,List.length_singleton];obtain ⟨m,hm⟩:∃ m,n - us.length = m + 1:=⟨n - us.length - 1,by omega⟩
    rw [hm,show n - (us.length + 1) = m by omega,nilL,List.replicate_succ,List.set_cons_zero,List.append_assoc]
    rfl
   rw [e] at h1;exact h1
 · by_cases hjl:j < us.length
   · rw [List.getElem?_append_left hjl] at hj
     have h1:=h.good j x hj
     have h2:(xs ++ [t]).getD j [] = xs.getD j []:=by
      rw [List.getD_eq_getElem?_getD,List.getD_eq_getElem?_getD,List.getElem?_append_left (by rw [← h.len];exact hjl)]
     rw [h2];exact up _ _ h1
   · rw [List.getElem?_append_right (by omega)] at hj
     have hj0:j = us.length:=by
      have:=(List.getElem?_eq_some_iff.1 hj).1;simp at this;omega
     subst hj0;simp at hj;subst hj
     have h2:(xs ++ [t]).getD us.length [] = t:=by
      rw [List.getD_eq_getElem?_getD,h.len,List.getElem?_append_right (Nat.le_refl _),Nat.sub_self]
      rfl
     rw [h2];exact up _ _ hu
theorem RowJ.tx {w:World} {g n base:Nat} {us:List Value} {xs:List Bs} (h:RowJ w g n us xs) (hn:us.length = n) (hb:base ≤ g) (hm:n ≤ 1000000) (hw:base ≤ w.heap.size):TxJ base (.slice (some ⟨g,0,none⟩) n n) us xs w:=by
 refine ⟨?_,h.len,fun j u hj => ownB_lower (h.good j u hj) (by omega),hw⟩
 have hb2:=h.blk
 rw [hn,Nat.sub_self,nilL,List.replicate_zero,List.append_nil] at hb2
 subst hn
 exact ⟨by rw [Nat.mul_one],Or.inr ⟨g,us.length,us.toArray,rfl,hb,hb2,Nat.le_refl _,by unfold maxLen;omega,by simp,by simp⟩⟩
theorem wpSeq_makeJ {ops:Array Oper} {Q:Exit → Act → World → Prop} {rest:List Oper} {o:Oper} {a:Act} {w:World} (x y:Operand) (n:Nat) (hn:n ≤ 1000000) (ho:o.op = .makeSlice 41 x y) (hx:a.eval x = .int .i64 (n:Int)) (hy:a.eval y = .int .i64 (n:Int)) (hw:Region.wanted o (yielded ops a.tmps) = true)
 (h:∀ g w',w.heap.size ≤ g → RowJ w' g n [] [] → Below w.heap.size w w' → wpList Tryz.prog ops Q rest (a.put o.dst (.slice (some ⟨g,0,none⟩) n n)) w'):wpList Tryz.prog ops Q (o :: rest) a w:=
 wpSeq_val _ _ hw (make_tx _ o x y n hn ho hx hy w) (h _ _ (Nat.le_refl _) ⟨Blk.new _ _ _,rfl,fun j u hj => by simp at hj,Nat.zero_le _⟩ (below_alloc _ _))
theorem jCopies_any (v:Value) (l:List Bs) (hl:l.length ≤ 100000) (hx:∀ x ∈ l,x.length ≤ 100000000) (w:World) (hr:ReadsL w v l):Calls Tryz.prog 131 #[v] w fun e w' => ∃ v' us,e = .returned v' ∧ TxJ w.heap.size v' us l w' ∧ Below w.heap.size w w':=by
 have HR:Hid (ReadsL w v l):=hr
 obtain ⟨ad,cp,hv,_⟩:=hr
 obtain ⟨n,HN⟩:=sqn (l.length)
 rw [← HN.out] at hv hl
 subst hv
 have HL:Hid (n ≤ 100000):=hl
 have HM:Hid (n ≤ 1000000):=Nat.le_trans hl (by decide)
 have HX:Hid (∀ x ∈ l,x.length ≤ 100000000):=hx
 clear hl hx
 go_enter Tryz.func131,Tryz.ntmps131
 have tk0:Hid True:=trivial
 go_wp2_with (first
  | (clear tk0;with_reducible refine wpSeq_makeJ (.tmp 7) (.tmp 7) n HM.out ?_ ?_ ?_ ?_ ?_
     · rfl
     · rfl
     · rfl
     · rfl
     intro gc y1 hge hrow hz;have HGE:Hid (w.heap.size ≤ gc):=hge;have HRW:Hid (RowJ y1 gc n [] [] ∧ Below w.heap.size w y1):=⟨hrow,hz⟩;clear hge hrow hz))
 go_loopw [11] (fun i wr => ∃ (k:Nat) (us:List Value),k ≤ n ∧ i = .int .i64 (k:Int) ∧ Hid (RowJ wr gc n us (l.take k) ∧ us.length = k) ∧ Hid (Below w.heap.size w wr)) (fun i _ => n - (intOf i).toNat)
 case atStart => exact ⟨0,[],Nat.zero_le _,rfl,⟨by rw [List.take_zero];exact HRW.out.1,rfl⟩,HRW.out.2⟩
 case round =>
  clear HRW
  obtain ⟨k,us,hk,rfl,HRW,HBB⟩:=hrel
  by_cases hlt:k < n
  case neg =>
   have hlk:¬ ((k:Int) < (n:Int)):=by omega
   obtain rfl:k = n:=by omega
   have HE:Hid (l.take k = l):=List.take_of_length_le (by rw [← HN.out];exact Nat.le_refl _)
   go_wp2;go_ret;have h1:=HRW.out.1;rw [HE.out] at h1;have h2:=h1.tx HRW.out.2 HGE.out HM.out HBB.out.size
   first
    | exact ⟨_,us,rfl,h2,HBB.out⟩
    | exact ⟨_,rfl,⟨us,h2⟩,HBB.out⟩
    | exact ⟨⟨us,h2⟩,HBB.out⟩
  case pos =>
   have hlk:(k:Int) < (n:Int):=by omega
   have k0:(0:Int) ≤ (k:Int):=by omega
   have f1:IntKind.i64.wrap ((k:Int) + 1) = (k:Int) + 1:=by rw [IntKind.wrap_i64];have:=HL.out;omega
   have hkl:k < l.length:=by rw [← HN.out];exact hlt
   obtain ⟨b,off,vj,rfl,hc,hrj⟩:=(HR.out.below HBB.out).atJ hkl;obtain ⟨x,HXX⟩:=sqn (l.getD k []);rw [← HXX.out] at hrj;obtain ⟨m,HMM⟩:=sqn (x.length);obtain ⟨aj,cj,hvj,_⟩:=id hrj;rw [← HMM.out] at hvj;subst hvj;have HRJ:Hid (Reads wr (.slice aj m cj) x):=hrj
   have HTK:Hid (l.take (k + 1) = l.take k ++ [x]):=by
    show _ = _;rw [List.take_add_one,List.getElem?_eq_getElem hkl,HXX.out,List.getD_eq_getElem?_getD,List.getElem?_eq_getElem hkl]
    rfl
   have HXL:Hid (x.length ≤ 140737488355328):=by
    show _ ≤ _;have h1:=HX.out x (by rw [HXX.out,List.getD_eq_getElem?_getD,List.getElem?_eq_getElem hkl];exact List.getElem_mem hkl)
    omega
   have HLT:Hid (k < (us ++ nilL (n - us.length)).length ∧ k < n):=⟨by rw [List.length_append,len_nilL,HRW.out.2];omega,hlt⟩
   clear hkl hrj;obtain ⟨tk0,tk1⟩:=sqk2
   go_wp2_with (first
    | (clear tk0;go_at_call 64;refine (bclone_any _ x _ HRJ.out HXL.out).mono ?_;rintro e0 y1 ⟨vc,rfl,ho,hz⟩
       obtain ⟨ac,cc,hvc⟩:=ownB_form ho;rw [← HMM.out] at hvc;subst hvc;have HOW:Hid (OwnB y1 (gc + 1) (.slice ac m cc) x):=ownB_lower ho HRW.out.1.blk.lt;replace HRW:Hid (RowJ y1 gc n us (l.take k) ∧ us.length = k):=⟨HRW.out.1.next hz,HRW.out.2⟩;replace HBB:=sqt HBB hz;obtain ⟨co,cT⟩:∃ o,y1.cell? ⟨gc,k,none⟩ = some o:=⟨_,by rw [HRW.out.1.blk.cell,List.getElem?_eq_getElem HLT.out.1]⟩
       have fT:y1.frozen? ⟨gc,k,none⟩ = false:=HRW.out.1.blk.frozen k;clear ho hz))
   have HRW2:Hid (RowJ (y1.setCell ⟨gc,k,none⟩ (.slice ac m cc)) gc n (us ++ [.slice ac m cc]) (l.take (k + 1)) ∧ (us ++ [Value.slice ac m cc]).length = k + 1):=by
    rw [HTK.out];exact ⟨HRW.out.1.put HRW.out.2 HLT.out.2 HOW.out,by rw [List.length_append,HRW.out.2];rfl⟩
   have HBB2:Hid (Below w.heap.size w (y1.setCell ⟨gc,k,none⟩ (.slice ac m cc))):=HBB.out.setCell (p:=⟨gc,k,none⟩) HGE.out _;go_roundw
   case rel => exact ⟨k + 1,_,by omega,by simp,HRW2,HBB2⟩
   case measure => simp [intOf];omega
theorem jRoom_any {gd hs k gen u lg:Nat} {fl:Int} {vr:Value} {w:World} (hlb:Blk w lg (lgC gd hs fl k gen vr u) 144) (hu:u ≤ hs) (hh:hs < 1000000):Calls Tryz.prog 78 #[.pointer (some ⟨lg,0,none⟩)] w fun e w' => e = .returned (.int .i64 ((min 1048576 (64 * (hs - u) - 57):Nat):Int)) ∧ Below w.heap.size w w':=by
 have HLB:Hid (Blk w lg (lgC gd hs fl k gen vr u) 144):=hlb
 obtain ⟨m,HM⟩:=sqn (hs - u)
 have f1:IntKind.i64.wrap ((hs:Int) - (u:Int)) = (m:Int):=by rw [IntKind.wrap_i64];have:=HM.out;omega
 rw [← HM.out]
 obtain ⟨r,HR⟩:=sqn (min 1048576 (64 * m - 57))
 have HC:Hid (∀ W,Calls Tryz.prog 99 #[.int .i64 (m:Int)] W fun e w' => e = .returned (.int .i64 (r:Int)) ∧ w' = W):=fun W => by rw [HR.out];exact jRoom1_any m (by have:=HM.out;omega) W
 rw [← HR.out]
 clear hlb hu hh
 go_enter Tryz.func78,Tryz.ntmps78
 go_upto_region 1 with fail
 refine wp_region_held_drew (S:=fun wx => Blk wx lg (lgC gd hs fl k gen vr u) 144) (by kernel_rfl) HLB.out.drew ?_
 intro hS
 refine tkc 0 (.pointer (some ⟨lg,0,none⟩)) rfl hS ?_
 simp only [Act.put,sq]
 refine tkc 1 (.pointer (some ⟨lg,0,none⟩)) rfl hS ?_
 simp only [Act.put,sq]
 refine tkc 2 (.pointer (some ⟨lg,2,none⟩)) rfl hS ?_
 simp only [Act.put,sq]
 refine tka 3 (.int .i64 (hs:Int)) rfl (fun wx hx => by (have c0:wx.cell? ⟨lg,2,none⟩ = some (.int .i64 (hs:Int)):=hx.cell 2;simp [go_sem,c0])) hS ?_
 simp only [Act.put,sq]
 refine tkc 4 (.pointer (some ⟨lg,0,none⟩)) rfl hS ?_
 simp only [Act.put,sq]
 refine tkc 5 (.pointer (some ⟨lg,0,none⟩)) rfl hS ?_
 simp only [Act.put,sq]
 refine tkc 6 (.pointer (some ⟨lg,4,none⟩)) rfl hS ?_
 simp only [Act.put,sq]
 refine tkc 7 (.pointer (some ⟨lg,7,none⟩)) rfl hS ?_
 simp only [Act.put,sq]
 refine tka 8 (.int .i64 (u:Int)) rfl (fun wx hx => by (have c0:wx.cell? ⟨lg,7,none⟩ = some (.int .i64 (u:Int)):=hx.cell 7;simp [go_sem,c0])) hS ?_
 simp only [Act.put,sq]
 refine tka 9 (.int .i64 (m:Int)) rfl (fun wx hx => by simp [go_sem,f1]) hS ?_
 simp only [Act.put,sq]
 refine wpAnyH_enter 10 (by kernel_rfl) rfl (by rfl) (f:=99) (args:=#[.int .i64 (m:Int)]) (by simp [go_sem]) (HC.out _) ?_
 rintro e0 y1 ⟨rfl,hy1⟩
 subst hy1
 refine ⟨_,rfl,hS,?_⟩
 simp only [Act.put,sq]
 refine tkc 11 (.int .i64 (r:Int)) rfl hS ?_
 simp only [Act.put,sq]
 refine wpAnyH_done (by kernel_rfl) ?_ _
 go_wp2
 go_ret
 exact ⟨rfl,(Below.refl _ _).drew⟩
theorem secL_take {l:List Bs} {k:Nat} (hk:k < l.length):secL (l.take (k + 1)) = secL (l.take k) + secR (l.getD k []).length:=by
 rw [List.take_add_one,List.getElem?_eq_getElem hk,List.getD_eq_getElem?_getD,List.getElem?_eq_getElem hk]
 exact secL_snoc _ _
theorem secL_mono (l:List Bs) (k:Nat):secL (l.take k) ≤ secL l:=by
 have h1:=sizeL_mono l k
 rw [sizeL_eq,sizeL_eq] at h1
 omega
theorem jFit_any (v:Value) (l:List Bs) (hs:Nat) (h1:1 ≤ hs) (h2:hs < 1000000) (hl:l.length < 1000000000) (hx:∀ x ∈ l,x.length ≤ 100000000) (w:World) (hr:ReadsL w v l):Calls Tryz.prog 130 #[v,.int .i64 (hs:Int)] w fun e w' => e = .returned (.bool (decide (1 + secL l ≤ hs))) ∧ w' = w:=by
 have HR:Hid (ReadsL w v l):=hr
 obtain ⟨ad,cp,hv,_⟩:=hr
 obtain ⟨n,HN⟩:=sqn (l.length)
 obtain ⟨r,HRR⟩:=sqn (decide (1 + secL l ≤ hs))
 rw [← HRR.out]
 rw [← HN.out] at hv hl
 subst hv
 have HX:Hid (∀ x ∈ l,x.length ≤ 100000000):=hx
 have HNB:Hid (n < 1000000000 ∧ 1 ≤ hs ∧ hs < 1000000):=⟨hl,h1,h2⟩
 obtain ⟨h0,HH0⟩:=sqn (hs - 1)
 have f0:IntKind.i64.wrap ((hs:Int) - 1) = (h0:Int):=by rw [IntKind.wrap_i64];have:=HH0.out;omega
 have HH1:Hid (hs = h0 + 1):=by show _ = _;have:=HH0.out;omega
 clear hl hx h1 h2
 go_enter Tryz.func130,Tryz.ntmps130
 go_wp2
 go_loopw [1,11] (fun a i wr => ∃ (k q:Nat),k ≤ n ∧ i = .int .i64 (k:Int) ∧ a = .int .i64 (q:Int) ∧ Hid (1 + secL (l.take k) + q = hs) ∧ wr = w) (fun _ i _ => n - (intOf i).toNat)
 case atStart => exact ⟨0,h0,by omega,rfl,rfl,by show _ = _;rw [List.take_zero,HH1.out];show 1 + 0 + h0 = _;omega,rfl⟩
 case round =>
  obtain ⟨k,q,hk,rfl,rfl,HQ,rfl⟩:=hrel
  clear f0
  by_cases hlt:k < n
  case neg =>
   have hlk:¬ ((k:Int) < (n:Int)):=by omega
   have HE:Hid (l.take k = l):=List.take_of_length_le (by rw [← HN.out];omega)
   have hq0:(0:Int) ≤ (q:Int):=by omega
   have hrt:r = true:=by
    rw [HRR.out,decide_eq_true_iff];have h3:=HQ.out;rw [HE.out] at h3;omega
   subst hrt;go_wp2;go_ret;exact ⟨rfl,rfl⟩
  case pos =>
   have hlk:(k:Int) < (n:Int):=by omega
   have k0:(0:Int) ≤ (k:Int):=by omega
   have f1:IntKind.i64.wrap ((k:Int) + 1) = (k:Int) + 1:=by rw [IntKind.wrap_i64];have:=HNB.out;omega
   have hkl:k < l.length:=by rw [← HN.out];exact hlt
   obtain ⟨b,off,vj,rfl,hc,hrj⟩:=HR.out.atJ hkl;obtain ⟨x,HXX⟩:=sqn (l.getD k []);rw [← HXX.out] at hrj;obtain ⟨sx,HSX⟩:=sqn (secR x.length);have HXM:Hid (x.length ≤ 100000000):=HX.out x (by rw [HXX.out,List.getD_eq_getElem?_getD,List.getElem?_eq_getElem hkl];exact List.getElem_mem hkl)
   have HST:Hid (secL (l.take (k + 1)) = secL (l.take k) + sx ∧ secL (l.take (k + 1)) ≤ secL l):=⟨by rw [secL_take hkl,← HXX.out,← HSX.out],secL_mono l (k + 1)⟩
   obtain ⟨aj,nj,cj,hvj⟩:=hrj.form;subst hvj;have HRS:Hid (Calls Tryz.prog 116 #[.slice aj nj cj] wr fun e w' => e = .returned (.int .i64 (sx:Int)) ∧ w' = wr):=by rw [HSX.out];exact jRecSec_any _ x (by have:=HXM.out;omega) wr hrj
   clear hkl hrj
   by_cases hlt2:q < sx
   · have q1:(q:Int) < (sx:Int):=by omega
     have hrt:r = false:=by
      rw [HRR.out,decide_eq_false_iff_not];have h3:=HQ.out;have h4:=HST.out;omega
     subst hrt;have tk0:Hid True:=trivial
     go_wp2_with (first
      | (clear tk0;go_at_call 116;refine HRS.out.mono ?_;rintro e0 y1 ⟨rfl,hy1⟩;subst hy1))
     go_ret;exact ⟨rfl,rfl⟩
   · have q1:¬ ((q:Int) < (sx:Int)):=by omega
     obtain ⟨q2,HQ2⟩:=sqn (q - sx);have f2:IntKind.i64.wrap ((q:Int) - (sx:Int)) = (q2:Int):=by rw [IntKind.wrap_i64];have h3:=HQ2.out;have h4:=HQ.out;have h5:=HNB.out;omega
     have HQN:Hid (1 + secL (l.take (k + 1)) + q2 = hs):=by show _ = _;have h3:=HQ.out;have h4:=HST.out.1;have h5:=HQ2.out;omega
     obtain ⟨tk0,tk1⟩:=sqk2
     go_wp2_with (first
      | (clear tk0;go_at_call 116;refine HRS.out.mono ?_;rintro e0 y1 ⟨rfl,hy1⟩;subst hy1)
      | (clear tk1;go_at_call 116;refine HRS.out.mono ?_;rintro e0 y2 ⟨rfl,hy2⟩;subst hy2))
     go_roundw
     case rel => exact ⟨k + 1,q2,by omega,by simp,by first | rfl | trivial,HQN,by first | rfl | trivial⟩
     case measure => simp [intOf];omega
theorem Blk.seg {w:World} {g off:Nat} {A B B2 C:List Value} {t:TypeId} (h:Blk w g (A ++ (B ++ C)) t) (hl:B2.length = B.length) (ho:A.length = off):Blk (w.setCells g off B2) g (A ++ (B2 ++ C)) t:=by
 subst ho
 have h2:=setCells_eq g B2 A.length w _ t h (by simp only [List.length_append];omega)
 have e:(A ++ (B ++ C)).take A.length ++ B2 ++ (A ++ (B ++ C)).drop (A.length + B2.length) = A ++ (B2 ++ C):=by
  rw [List.take_left,← List.drop_drop,List.drop_left,hl,List.drop_left,List.append_assoc]
 rwa [e] at h2
theorem run_two:∀ (a b:List (Option (Nat × Bs))) (D:DkT),runJ D (a ++ b) = if (runJ D a).2 = 0 then runJ (runJ D a).1 b else runJ D a
 | [],b,D => by simp [runJ]
 | some p :: a,b,D => by
  rw [List.cons_append,runJ,runJ]
  by_cases h:putX13 D (p.1:Int) p.2 = 0
  · rw [if_pos h,if_pos h,run_two a b]
  · rw [if_neg h,if_neg h,if_neg h]
 | none :: a,b,D => by
  rw [List.cons_append,runJ,runJ]
  by_cases h:syncX13 D = 0
  · rw [if_pos h,if_pos h,run_two a b]
  · rw [if_neg h,if_neg h,if_neg h]
theorem sync_wait {D:DkT} (h:syncX13 D = 0):(syncD13 D).wait = []:=by
 unfold syncX13 at h
 unfold syncD13
 by_cases h1:D.down
 · rw [if_pos h1] at h;cases h
 rw [if_neg h1] at h ⊢
 by_cases h2:D.left = 0
 · rw [if_pos h2] at h;cases h
 rw [if_neg h2]
theorem seg_wait:∀ (l:List (Nat × Bs)) (D:DkT),(runJ D (l.map some ++ [none])).2 = 0 → (runJ D (l.map some ++ [none])).1.wait = []
 | [],D,h => by
  rw [List.map_nil,List.nil_append,runJ] at h ⊢
  by_cases h1:syncX13 D = 0
  · rw [if_pos h1,runJ];exact sync_wait h1
  · rw [if_neg h1] at h;exact absurd h h1
 | p :: l,D,h => by
  rw [List.map_cons,List.cons_append,runJ] at h ⊢
  by_cases h1:putX13 D (p.1:Int) p.2 = 0
  · rw [if_pos h1] at h ⊢;exact seg_wait l _ h
  · rw [if_neg h1] at h;exact absurd h h1
theorem run_size:∀ (l:List (Option (Nat × Bs))) (D:DkT),okD D → sizeD (runJ D l).1 = sizeD D ∧ okD (runJ D l).1
 | [],_,h => ⟨rfl,h⟩
 | some p :: l,D,h => by
  have e:sizeD (putD13 D (p.1:Int) p.2) = sizeD D:=by rw [sizeD,size_put];rfl
  rw [runJ]
  by_cases h1:putX13 D (p.1:Int) p.2 = 0
  · rw [if_pos h1]
    have h2:=run_size l _ (h.put (p.1:Int) p.2);exact ⟨h2.1.trans e,h2.2⟩
  · rw [if_neg h1];exact ⟨e,h.put _ _⟩
 | none :: l,D,h => by
  rw [runJ]
  by_cases h1:syncX13 D = 0
  · rw [if_pos h1]
    have h2:=run_size l _ h.sync;exact ⟨h2.1.trans (size_sync h),h2.2⟩
  · rw [if_neg h1];exact ⟨size_sync h,h.sync⟩
def stA (hs k:Nat) (j:Nat):Nat:=if j = 1 then k * hs + 1 else k * hs
def stM (hs:Nat) (l:List Bs) (j:Nat):Nat:=if j = 0 then hs else if j = 1 then secL l else 1
def stR (hs gen:Nat) (l:List Bs) (j:Nat):Bs:=if j = 0 then List.replicate (64 * hs) 0 else if j = 1 then recsB gen 0 l else headB gen
def stS (hs k gen:Nat) (l:List Bs) (j:Nat):List (Option (Nat × Bs)):=(secsOf (stA hs k j) (stM hs l j) (stR hs gen l j)).map some ++ [none]
def stL (hs k gen:Nat) (l:List Bs):Nat → List (Option (Nat × Bs))
 | 0 => stS hs k gen l 0 ++ (stS hs k gen l 1 ++ stS hs k gen l 2)
 | 1 => stS hs k gen l 1 ++ stS hs k gen l 2
 | 2 => stS hs k gen l 2
 | _ => []
theorem stL_anew (hs k gen:Nat) (l:List Bs):anewS hs k gen l = stL hs k gen l 0:=by
 simp [anewS,stL,stS,stA,stM,stR]
theorem stL_step (hs k gen:Nat) (l:List Bs) {j:Nat} (hj:j < 3):stL hs k gen l j = stS hs k gen l j ++ stL hs k gen l (j + 1):=by
 match j,hj with
 | 0,_ => rfl
 | 1,_ => rfl
 | 2,_ => simp [stL]
theorem len_stR (hs gen:Nat) (l:List Bs) {j:Nat} (hj:j < 3):(stR hs gen l j).length = 64 * stM hs l j:=by
 match j,hj with
 | 0,_ => simp [stR,stM]
 | 1,_ => show (recsB gen 0 l).length = 64 * secL l;rw [len_recsB,sizeL_eq]
 | 2,_ => show (headB gen).length = 64 * 1;rw [len_headB]
theorem stM_le {hs:Nat} {l:List Bs} (h:1 + secL l ≤ hs) (j:Nat):stM hs l j ≤ hs:=by
 unfold stM
 split
 · omega
 · split <;> omega
theorem recsB_take (gen:Nat) {l:List Bs} {k:Nat} (hk:k < l.length):recsB gen 0 (l.take (k + 1)) = recsB gen 0 (l.take k) ++ recB gen k (l.getD k []):=by
 rw [List.take_add_one,List.getElem?_eq_getElem hk,List.getD_eq_getElem?_getD,List.getElem?_eq_getElem hk]
 show recsB gen 0 (l.take k ++ [l[k]]) = _
 rw [recsB_snoc,List.length_take,Nat.min_eq_left (by omega),Nat.zero_add]
 rfl
def stC (a0 a1 a2:Nat) (t0 t1 t2:Value):List Value:=[.int .i64 (a0:Int),t0,.int .i64 (a1:Int),t1,.int .i64 (a2:Int),t2]
theorem size_st:(Tryz.prog.info? 162).map (·.size) = some 2:=by kernel_rfl
theorem built_st (a:Int) (v:Value) (ad:Option Addr) (n c:Nat) (hv:v = .slice ad n c) (ps:List (Nat × Value)) (h:ps = [(0,.int .i64 a),(1,v)]):Tryz.prog.built 162 ps = some #[.int .i64 a,v]:=by subst h hv;kernel_rfl
theorem build_sts (f:Operand → Value) (o:Oper) (x0 x1 x2:Operand) (a0 a1 a2:Int) (ad0 ad1 ad2:Option Addr) (n0 c0 n1 c1 n2 c2:Nat) (h0:f x0 = .agg #[.int .i64 a0,.slice ad0 n0 c0]) (h1:f x1 = .agg #[.int .i64 a1,.slice ad1 n1 c1]) (h2:f x2 = .agg #[.int .i64 a2,.slice ad2 n2 c2]) (ho:o.op = .buildSlice 163 3 #[(0,x0),(1,x1),(2,x2)]) (w:World):(execOp f o).run Tryz.prog w = .ok (.value (.slice (some ⟨w.heap.size,0,none⟩) 3 3)) (w.alloc (.cells [.int .i64 a0,.slice ad0 n0 c0,.int .i64 a1,.slice ad1 n1 c1,.int .i64 a2,.slice ad2 n2 c2].toArray 162)):=by
 unfold execOp
 rw [ho]
 simp only [List.map_toArray,List.map_cons,List.map_nil,h0,h1,h2]
 kernel_rfl
theorem alloc_st (f:Operand → Value) (o:Oper) (ho:o.op = .alloc 162) (w:World):(execOp f o).run Tryz.prog w = .ok (.value (.pointer (some ⟨w.heap.size,0,none⟩))) (w.alloc (.cells [.int .i64 0,.slice none 0 0].toArray 162)):=by
 unfold execOp
 rw [ho]
 kernel_rfl
theorem wpSeq_allocSt {ops:Array Oper} {Q:Exit → Act → World → Prop} {rest:List Oper} {o:Oper} {a:Act} {w:World} (ho:o.op = .alloc 162) (hw:Region.wanted o (yielded ops a.tmps) = true)
 (h:∀ g w',NewR [.int .i64 0,.slice none 0 0] 162 w g w' → wpList Tryz.prog ops Q rest (a.put o.dst (.pointer (some ⟨g,0,none⟩))) w'):wpList Tryz.prog ops Q (o :: rest) a w:=
 wpSeq_val _ _ hw (alloc_st _ _ ho _) (h _ _ (NewR.of _ _ w))
theorem info_st (x y:Value):(Tryz.prog.info? 162).map (·.size) = some [x,y].length:=size_st
theorem len_st (x y z u:Value):[x,y].length = [z,u].length:=rfl
theorem st_one (a:Int) (ad:Option Addr) (n c:Nat):∀ v ∈ [Value.int .i64 a,.slice ad n c],v.oneCell' = true:=by
 intro v hv
 simp only [List.mem_cons,List.not_mem_nil,or_false] at hv
 rcases hv with rfl | rfl <;> rfl
theorem idxSt (b k:Nat) (hk:k < 3) (f:Operand → Value) (o:Oper) (x y:Operand) (ho:o.op = .indexAddr 163 x y) (hx:f x = .slice (some ⟨b,0,none⟩) 3 3) (hy:f y = .int .i64 (k:Int)) (w:World):(execOp f o).run Tryz.prog w = .ok (.value (.pointer (some ⟨b,2 * k,none⟩))) w:=by
 unfold execOp
 rw [ho]
 simp only [hx,hy]
 obtain rfl | rfl | rfl:k = 0 ∨ k = 1 ∨ k = 2:=by omega
 · kernel_rfl
 · kernel_rfl
 · kernel_rfl
theorem built_ct4 (a b u:Int) (ad:Option Addr) (n c:Nat) (ps:List (Nat × Value)) (h:ps = [(0,.int .i64 a),(1,.int .u64 b),(2,.slice ad n c),(3,.int .i64 u)]):Tryz.prog.built 138 ps = some #[.int .i64 a,.int .u64 b,.slice ad n c,.int .i64 u]:=by subst h;kernel_rfl
theorem make_zs (f:Operand → Value) (o:Oper) (x:Operand) (n:Nat) (hn:n < 281474976710600) (ho:o.op = .makeSlice 23 x x) (hx:f x = .int .i64 (n:Int)) (w:World):(execOp f o).run Tryz.prog w = .ok (.value (.slice (some ⟨w.heap.size,0,none⟩) n n)) (w.alloc (.cells (cb (List.replicate n 0)).toArray 5)):=by
 have hr:=make_cap n n (Nat.le_refl _) hn w
 unfold execOp
 rw [ho]
 simp only [hx,Sem.run_bind,hr,Result.andThen_ok,Sem.run_pure]
theorem wpSeq_storeCt {ops:Array Oper} {Q:Exit → Act → World → Prop} {rest:List Oper} {o:Oper} {a:Act} {w:World} (x y:Operand) (lg gd hs:Nat) (fl:Int) (k gen u k' gen' u':Nat) (vr:Value) (ad:Option Addr) (n c:Nat) (hb:Blk w lg (lgC gd hs fl k gen vr u) 144)
 (ho:o.op = .store 138 x y) (hx:a.eval x = .pointer (some ⟨lg,4,none⟩)) (hy:a.eval y = .agg (ctC k' gen' (.slice ad n c) u').toArray) (hgd:o.guard = none)
 (h:∀ w',Blk w' lg (lgC gd hs fl k' gen' (.slice ad n c) u') 144 → Only lg w w' → wpList Tryz.prog ops Q rest (a.put o.dst undef) w'):wpList Tryz.prog ops Q (o :: rest) a w:=
 wpList_store_mid hgd 138 x y ho lg 4 _ hx hy (hb.there 4 _ (by simp [lgC,ctC])) (by rw [List.size_toArray];exact size_ct) (all_oneCell_toArray (ct_one _ _ _ _ _ _))
  (by rw [List.toList_toArray];exact h _ (Blk.seg (A:=[wrF gd,syF gd,.int .i64 (hs:Int),.int .i64 fl]) (B:=ctC k gen vr u) (C:=[]) hb rfl rfl) (Only.setCells _ _ _ (Only.refl lg w)))
structure BgI (W0:World) (gd lg:Nat) (P:Nat → Prop) (lc:List Value) (D:DkT) (L:List (Option (Nat × Bs))) (P':Nat → Prop) (D':DkT) (R':List (Option (Nat × Bs))) (W:World):Prop where
 dk:DkIs W gd P' D'
 gr:Grew W0 P P'
 lb:Blk W lg lc 144
 mv:Mut (Un P (fun x => x = lg)) W0 W
 wt:D'.wait = []
 run:runJ D L = runJ D' R'
theorem jBegin_any {w:World} {gd lg:Nat} {P:Nat → Prop} {D:DkT} (hs k gen u k' gen':Nat) (vr v:Value) (l:List Bs) (hK:KOk w) (hdk:DkIs w gd P D) (hwt:D.wait = []) (hlb:Blk w lg (lgC gd hs 0 k gen vr u) 144) (hnp:¬ P lg) (hk':k' ≤ 1) (hg':gen' < 18446744073709551616) (hs1:1 ≤ hs) (hs2:hs ≤ 50) (hfit:1 + secL l ≤ hs) (hst:Sta (Un P (fun x => x = lg)) w (fun W => ReadsL W v l)) :
 Calls Tryz.prog 91 #[.pointer (some ⟨lg,0,none⟩),.int .i64 (k':Int),.int .u64 (gen':Int),v] w fun e w' => e = .returned (.int .i64 (runJ D (anewS hs k' gen' l)).2) ∧ ∃ P',DkIs w' gd P' (runJ D (anewS hs k' gen' l)).1 ∧ ((runJ D (anewS hs k' gen' l)).2 = 0 → Blk w' lg (lgC gd hs 0 k' gen' v (1 + secL l)) 144) ∧ Mut (Un P (fun x => x = lg)) w w' ∧ Grew w P P':=by
 rw [stL_anew]
 obtain ⟨L,HLL⟩:=sqn (stL hs k' gen' l 0)
 obtain ⟨DX,xX,HX⟩:∃ D2 x,Hid (runJ D L = (D2,x)):=⟨(runJ D L).1,(runJ D L).2,rfl⟩
 rw [← HLL.out,HX.out]
 show Calls Tryz.prog 91 _ w fun e w' => e = .returned (.int .i64 xX) ∧ ∃ P',DkIs w' gd P' DX ∧ (xX = 0 → Blk w' lg (lgC gd hs 0 k' gen' v (1 + secL l)) 144) ∧ Mut (Un P (fun x => x = lg)) w w' ∧ Grew w P P'
 have hsl:=sizeL_eq l
 have hge:=sizeL_ge l
 obtain ⟨n,HN⟩:=sqn (l.length)
 obtain ⟨ad,c,hv⟩:∃ a c,v = .slice a n c:=by obtain ⟨a,c,hv,_⟩:=hst.now;rw [← HN.out] at hv;exact ⟨a,c,hv⟩
 subst hv
 have HST:Hid (Sta (Un P (fun x => x = lg)) w (fun W => ReadsL W (.slice ad n c) l)):=hst
 have HRL:Hid (ReadsL w (.slice ad n c) l):=hst.now
 have HDK:Hid (DkIs w gd P D):=hdk
 have HLB:Hid (Blk w lg (lgC gd hs 0 k gen vr u) 144):=hlb
 have HNP:Hid (¬ P lg):=hnp
 have HWT:Hid (D.wait = []):=hwt
 have HK:Hid (KOk w):=hK
 have HGN:Hid (gen' < 18446744073709551616):=hg'
 have HBD:Hid (k' ≤ 1 ∧ 1 ≤ hs ∧ hs ≤ 50 ∧ 1 + secL l ≤ hs ∧ n ≤ 50):=⟨hk',hs1,hs2,hfit,by have:=HN.out;omega⟩
 have HLX:Hid (∀ x ∈ l,x.length < 8000000):=fun x hx => by
  have h1:64 * secR x.length ≤ sizeL l:=by
   obtain ⟨i,hi,rfl⟩:=List.getElem_of_mem hx;have h2:=sizeL_take hi;have h3:=sizeL_mono l (i + 1);rw [List.getD_eq_getElem?_getD,List.getElem?_eq_getElem hi] at h2;simp only [Option.getD_some] at h2;omega
  have h2:=secR_ge x.length
  omega
 obtain ⟨a0,HA0⟩:=sqn (k' * hs)
 obtain ⟨a1,HA1⟩:=sqn (a0 + 1)
 obtain ⟨N,HNN⟩:=sqn (hs * 64)
 have ha0:a0 ≤ 50:=by rw [HA0.out];rcases Nat.le_one_iff_eq_zero_or_eq_one.1 hk' with e | e <;> rw [e] <;> omega
 have HAB:Hid (a0 ≤ 50 ∧ a1 ≤ 51):=⟨ha0,by have:=HA1.out;omega⟩
 have f1:IntKind.i64.wrap ((k':Int) * (hs:Int)) = (a0:Int):=mJ HA0.out (by omega)
 have f2:IntKind.i64.wrap ((a0:Int) + 1) = (a1:Int):=by rw [IntKind.wrap_i64];have:=HA1.out;omega
 have f3:IntKind.i64.wrap ((hs:Int) * 64) = (N:Int):=mJ HNN.out (by have:=HNN.out;omega)
 have c2:w.cell? ⟨lg,2,none⟩ = some (.int .i64 (hs:Int)):=hlb.cell 2
 clear hsl hge hst hdk hlb hnp hwt hK hg' hk' hs1 hs2 hfit ha0
 go_enter Tryz.func91,Tryz.ntmps91
 go_wp2
 clear c2 f1
 go_loopw [10,25] (fun tv i wr => ∃ (kk:Nat),kk ≤ n ∧ i = .int .i64 (kk:Int) ∧ Hid (OwnB wr w.heap.size tv (recsB gen' 0 (l.take kk))) ∧ Hid (Below w.heap.size w wr)) (fun _ i _ => n - (intOf i).toNat)
 case atStart => exact ⟨0,Nat.zero_le _,rfl,by rw [List.take_zero];exact OwnB.nil _ _,Below.refl _ _⟩
 case round =>
  obtain ⟨kk,hk,rfl,HOW,HBB⟩:=hrel
  by_cases hlt:kk < n
  case pos =>
   have hlk:(kk:Int) < (n:Int):=by omega
   have k0:(0:Int) ≤ (kk:Int):=by omega
   have g1:IntKind.i64.wrap ((kk:Int) + 1) = (kk:Int) + 1:=by rw [IntKind.wrap_i64];have:=HBD.out;omega
   have g2:IntKind.u64.wrap (kk:Int) = (kk:Int):=uJ (by have:=HBD.out;omega)
   have hkl:kk < l.length:=by rw [← HN.out];exact hlt
   obtain ⟨b,off,vj,rfl,hc,hrj⟩:=(HRL.out.below HBB.out).atJ hkl;obtain ⟨x,HXX⟩:=sqn (l.getD kk []);rw [← HXX.out] at hrj;obtain ⟨aj,nj,cj,hvj⟩:=hrj.form;subst hvj;have HTK:Hid (recsB gen' 0 (l.take (kk + 1)) = recsB gen' 0 (l.take kk) ++ recB gen' kk x):=by show _ = _;rw [recsB_take gen' hkl,← HXX.out]
   have HRC:Hid (Calls Tryz.prog 101 #[.int .u64 (gen':Int),.int .u64 (kk:Int),.slice aj nj cj] wr fun e w' => ∃ v',e = .returned v' ∧ OwnB w' wr.heap.size v' (recB gen' kk x) ∧ Below wr.heap.size wr w'):=jRecord_own gen' kk HGN.out (by have:=HBD.out;omega) _ x (HLX.out x (by rw [HXX.out,List.getD_eq_getElem?_getD,List.getElem?_eq_getElem hkl];exact List.getElem_mem hkl)) wr (HK.out.below HBB.out HK.out.lt) hrj
   have HLN:Hid ((recsB gen' 0 (l.take kk)).length + (recB gen' kk x).length ≤ 140737488355328):=by
    have h1:=congrArg List.length HTK.out;rw [List.length_append,len_recsB] at h1;have h2:=sizeL_mono l (kk + 1);have h3:=sizeL_eq l;have h4:=HBD.out;show _ ≤ _;omega
   clear hkl hrj f2 f3;obtain ⟨tk0,tk1⟩:=sqk2
   go_wp2_with (first
    | (clear tk0;go_at_call 101;refine HRC.out.mono ?_;rintro e0 y1 ⟨v1,rfl,ho,hz⟩
       replace HOW:Hid (OwnB y1 w.heap.size u10 (recsB gen' 0 (l.take kk))):=HOW.out.below hz (Nat.le_refl _);have HR1:Hid (Reads y1 v1 (recB gen' kk x)):=ho.reads;replace HBB:=sqt HBB hz;clear ho hz)
    | (clear tk1;at_builtin;refine wpList_appendB rfl (.tmp 30) (.tmp 35) rfl w.heap.size _ (recsB gen' 0 (l.take kk)) rfl HOW.out _ (recB gen' kk x) rfl HR1.out HLN.out HBB.out.size ?_;intro v2 y2 ho hz _
       have HOW2:Hid (OwnB y2 w.heap.size v2 (recsB gen' 0 (l.take (kk + 1)))):=by rw [HTK.out];exact ho
       have HBB2:Hid (Below w.heap.size w y2):=HBB.out.trans hz;clear ho hz))
   go_roundw
   case rel => exact ⟨kk + 1,by omega,by simp,HOW2,HBB2⟩
   case measure => simp [intOf];omega
  case neg =>
   have hlk:¬ ((kk:Int) < (n:Int)):=by omega
   have HE:Hid (l.take kk = l):=List.take_of_length_le (by rw [← HN.out];omega)
   rw [HE.out] at HOW;obtain ⟨tx,HTX⟩:=sqn (recsB gen' 0 l);obtain ⟨tn,HTN⟩:=sqn (tx.length);rw [← HTX.out] at HOW;obtain ⟨ta,tc,htv⟩:=ownB_form HOW.out;rw [← HTN.out] at htv;subst htv;clear hk
   go_upto_region 8 with fail
   have HLR:Hid (Blk wr lg (lgC gd hs 0 k gen vr u) 144):=HLB.out.below HBB.out HLB.out.lt;have HKR:Hid (KOk wr):=HK.out.below HBB.out HK.out.lt
   go_cut [13] from 38 to 55 (fun sv W => ∃ gT gz ah nh ch,sv = .slice (some ⟨gT,0,none⟩) 3 3 ∧ Blk W gT (stC a0 a1 a0 (.slice (some ⟨gz,0,none⟩) N N) (.slice ta tn tc) (.slice ah nh ch)) 162 ∧ Blk W gz (cb (List.replicate N 0)) 5 ∧ OwnB W w.heap.size (.slice ah nh ch) (headB gen') ∧ Below wr.heap.size wr W ∧ wr.heap.size ≤ gT ∧ wr.heap.size ≤ gz)
   case first =>
    have HMK:Hid (N ≤ N ∧ N < 281474976710600):=⟨Nat.le_refl _,by have h1:=HNN.out;have h2:=HBD.out;omega⟩
    refine wp_region_held_drew (S:=fun wx => wx.cell? ⟨lg,2,none⟩ = some (.int .i64 (hs:Int))) (by kernel_rfl) (HLR.out.drew.cell 2) ?_
    intro hS;replace HLR:Hid (Blk (World.drew wr) lg (lgC gd hs 0 k gen vr u) 144):=HLR.out.drew;have HBD2:Hid (Below wr.heap.size wr (World.drew wr)):=(Below.refl _ _).drew;replace HKR:Hid (KOk (World.drew wr)):=HKR.out.below HBD2.out HKR.out.lt;have HSZ:Hid (wr.heap.size = (World.drew wr).heap.size ∧ w.heap.size ≤ (World.drew wr).heap.size):=⟨rfl,HBB.out.size⟩
    change wpAnyH _ _ _ _ _ _ _ _ (World.drew wr)
    generalize World.drew wr = y0 at *
    refine tkc 0 (.int .i64 (a0:Int)) rfl hS ?_;simp only [Act.put,sq];refine tkc 1 (.pointer (some ⟨lg,0,none⟩)) rfl hS ?_;simp only [Act.put,sq];refine tkc 2 (.pointer (some ⟨lg,0,none⟩)) rfl hS ?_;simp only [Act.put,sq];refine tkc 3 (.pointer (some ⟨lg,2,none⟩)) rfl hS ?_;simp only [Act.put,sq];refine tka 4 (.int .i64 (hs:Int)) rfl (fun wx hx => by simp [go_sem,hx]) hS ?_
    simp only [Act.put,sq];refine tka 5 (.int .i64 (N:Int)) rfl (fun wx hx => by simp [go_sem,f3]) hS ?_
    simp only [Act.put,sq];refine tkc 8 (.int .i64 (a0:Int)) rfl hS ?_;simp only [Act.put,sq];refine tka 9 (.int .i64 (a1:Int)) rfl (fun wx hx => by simp [go_sem,f2]) hS ?_
    simp only [Act.put,sq];refine tkc 10 (.slice ta tn tc) rfl hS ?_;simp only [Act.put,sq];refine tka 11 (.agg #[.int .i64 (a1:Int),.slice ta tn tc]) rfl (fun wx hx => by exact build_op _ _ 162 [(0,.tmp 47),(1,.tmp 48)] rfl _ (built_st _ _ _ _ _ rfl _ rfl) _) hS ?_
    simp only [Act.put,sq];refine tkc 12 (.int .i64 (a0:Int)) rfl hS ?_;simp only [Act.put,sq];refine tkc 13 (.int .u64 (gen':Int)) rfl hS ?_;simp only [Act.put,sq];refine wpAnyH_pair 6 14 (by kernel_rfl) ?_ ?_
    · have hz1:=below_alloc y0 (.cells (cb (List.replicate N 0)).toArray 5)
      have hbz:Blk (y0.alloc (.cells (cb (List.replicate N 0)).toArray 5)) y0.heap.size (cb (List.replicate N 0)) 5:=Blk.new _ _ _;refine wpOp_vl 6 (.slice (some ⟨y0.heap.size,0,none⟩) N N) (y0.alloc (.cells (cb (List.replicate N 0)).toArray 5)) (by rfl) (by rfl) (make_zs _ _ (.tmp 43) N HMK.out.2 rfl rfl _) ?_
      replace hS:(y0.alloc (.cells (cb (List.replicate N 0)).toArray 5)).cell? ⟨lg,2,none⟩ = some (.int .i64 (hs:Int)):=(HLR.out.below hz1 HLR.out.lt).cell 2;refine ⟨hS,?_⟩;simp only [Act.put,sq]
      generalize y0.alloc (.cells (cb (List.replicate N 0)).toArray 5) = y1 at *
      obtain ⟨gz,HGZ⟩:=sqn (y0.heap.size);rw [← HGZ.out] at hbz ⊢;refine tka 7 (.agg #[.int .i64 (a0:Int),.slice (some ⟨gz,0,none⟩) N N]) rfl (fun wx hx => by exact build_op _ _ 162 [(0,.tmp 38),(1,.tmp 44)] rfl _ (built_st _ _ _ _ _ rfl _ rfl) _) hS ?_
      simp only [Act.put,sq];refine wpAnyH_enter 14 (by kernel_rfl) rfl (by rfl) (f:=118) (args:=#[.int .u64 (gen':Int)]) (by simp [go_sem]) (jHead_own gen' HGN.out _ (HKR.out.below hz1 HKR.out.lt)) ?_
      rintro e0 y2 ⟨vh,rfl,ho,hz2⟩;obtain ⟨ah,ch,hvh⟩:=ownB_form ho;obtain ⟨nh,HNH⟩:=sqn ((headB gen').length);rw [← HNH.out] at hvh;subst hvh;replace hS:y2.cell? ⟨lg,2,none⟩ = some (.int .i64 (hs:Int)):=((HLR.out.below hz1 HLR.out.lt).below hz2 (HLR.out.below hz1 HLR.out.lt).lt).cell 2;refine ⟨_,rfl,hS,?_⟩;simp only [Act.put,sq];refine tka 15 (.agg #[.int .i64 (a0:Int),.slice ah nh ch]) rfl (fun wx hx => by exact build_op _ _ 162 [(0,.tmp 50),(1,.tmp 52)] rfl _ (built_st _ _ _ _ _ rfl _ rfl) _) hS ?_
      simp only [Act.put,sq];have hz3:=below_alloc y2 (.cells (stC a0 a1 a0 (.slice (some ⟨gz,0,none⟩) N N) (.slice ta tn tc) (.slice ah nh ch)).toArray 162);have hbt:Blk (y2.alloc (.cells (stC a0 a1 a0 (.slice (some ⟨gz,0,none⟩) N N) (.slice ta tn tc) (.slice ah nh ch)).toArray 162)) y2.heap.size (stC a0 a1 a0 (.slice (some ⟨gz,0,none⟩) N N) (.slice ta tn tc) (.slice ah nh ch)) 162:=Blk.new _ _ _;refine wpAnyH_step 16 (.slice (some ⟨y2.heap.size,0,none⟩) 3 3) (y2.alloc (.cells (stC a0 a1 a0 (.slice (some ⟨gz,0,none⟩) N N) (.slice ta tn tc) (.slice ah nh ch)).toArray 162)) (by kernel_rfl) rfl (by rfl) (build_sts _ _ (.tmp 45) (.tmp 49) (.tmp 53) _ _ _ _ _ _ _ _ _ _ _ _ rfl rfl rfl rfl _) ((((HLR.out.below hz1 HLR.out.lt).below hz2 (HLR.out.below hz1 HLR.out.lt).lt).below hz3 ((HLR.out.below hz1 HLR.out.lt).below hz2 (HLR.out.below hz1 HLR.out.lt).lt).lt).cell 2) ?_
      simp only [Act.put,sq];replace hS:=(((HLR.out.below hz1 HLR.out.lt).below hz2 (HLR.out.below hz1 HLR.out.lt).lt).below hz3 ((HLR.out.below hz1 HLR.out.lt).below hz2 (HLR.out.below hz1 HLR.out.lt).lt).lt).cell 2;refine tkc 17 (.slice (some ⟨y2.heap.size,0,none⟩) 3 3) rfl hS ?_;simp only [Act.put,sq];refine wpAnyH_done (by kernel_rfl) ?_ _
      go_wp2
      go_meet
      case rel =>
       have hbb1:Below wr.heap.size wr y2:=HBD2.out.trans ((hz1.trans (hz2.mono hz1.size)).mono (by rw [HSZ.out.1];exact Nat.le_refl _))
       have h7:wr.heap.size ≤ y2.heap.size:=hbb1.size;refine ⟨y2.heap.size,gz,ah,nh,ch,rfl,hbt,(hbz.below hz2 hbz.lt).below hz3 (hbz.below hz2 hbz.lt).lt,ownB_lower (ho.below hz3 (Nat.le_refl _)) (Nat.le_trans HSZ.out.2 hz1.size),hbb1.trans (hz3.mono hbb1.size),h7,by rw [HGZ.out,HSZ.out.1];exact Nat.le_refl _⟩
    · refine wpOp_en 14 (by rfl) (by rfl) (f:=118) (args:=#[.int .u64 (gen':Int)]) (by simp [go_sem]) (jHead_own gen' HGN.out _ HKR.out) ?_
      rintro e0 y1 ⟨vh,rfl,ho,hz1⟩;obtain ⟨ah,ch,hvh⟩:=ownB_form ho;obtain ⟨nh,HNH⟩:=sqn ((headB gen').length);rw [← HNH.out] at hvh;subst hvh;have hl1:Blk y1 lg (lgC gd hs 0 k gen vr u) 144:=HLR.out.below hz1 HLR.out.lt;replace hS:y1.cell? ⟨lg,2,none⟩ = some (.int .i64 (hs:Int)):=hl1.cell 2;refine ⟨_,rfl,hS,?_⟩;simp only [Act.put,sq];refine tka 15 (.agg #[.int .i64 (a0:Int),.slice ah nh ch]) rfl (fun wx hx => by exact build_op _ _ 162 [(0,.tmp 50),(1,.tmp 52)] rfl _ (built_st _ _ _ _ _ rfl _ rfl) _) hS ?_
      simp only [Act.put,sq];have hz2:=below_alloc y1 (.cells (cb (List.replicate N 0)).toArray 5);have hbz:Blk (y1.alloc (.cells (cb (List.replicate N 0)).toArray 5)) y1.heap.size (cb (List.replicate N 0)) 5:=Blk.new _ _ _;have hl2:Blk (y1.alloc (.cells (cb (List.replicate N 0)).toArray 5)) lg (lgC gd hs 0 k gen vr u) 144:=hl1.below hz2 hl1.lt;refine wpAnyH_step 6 (.slice (some ⟨y1.heap.size,0,none⟩) N N) (y1.alloc (.cells (cb (List.replicate N 0)).toArray 5)) (by kernel_rfl) rfl (by rfl) (make_zs _ _ (.tmp 43) N HMK.out.2 rfl rfl _) (hl2.cell 2) ?_
      replace hS:=hl2.cell 2;simp only [Act.put,sq]
      generalize y1.alloc (.cells (cb (List.replicate N 0)).toArray 5) = y2 at *
      obtain ⟨gz,HGZ⟩:=sqn (y1.heap.size);rw [← HGZ.out] at hbz ⊢;refine tka 7 (.agg #[.int .i64 (a0:Int),.slice (some ⟨gz,0,none⟩) N N]) rfl (fun wx hx => by exact build_op _ _ 162 [(0,.tmp 38),(1,.tmp 44)] rfl _ (built_st _ _ _ _ _ rfl _ rfl) _) hS ?_
      simp only [Act.put,sq];have hz3:=below_alloc y2 (.cells (stC a0 a1 a0 (.slice (some ⟨gz,0,none⟩) N N) (.slice ta tn tc) (.slice ah nh ch)).toArray 162);have hbt:Blk (y2.alloc (.cells (stC a0 a1 a0 (.slice (some ⟨gz,0,none⟩) N N) (.slice ta tn tc) (.slice ah nh ch)).toArray 162)) y2.heap.size (stC a0 a1 a0 (.slice (some ⟨gz,0,none⟩) N N) (.slice ta tn tc) (.slice ah nh ch)) 162:=Blk.new _ _ _;refine wpAnyH_step 16 (.slice (some ⟨y2.heap.size,0,none⟩) 3 3) (y2.alloc (.cells (stC a0 a1 a0 (.slice (some ⟨gz,0,none⟩) N N) (.slice ta tn tc) (.slice ah nh ch)).toArray 162)) (by kernel_rfl) rfl (by rfl) (build_sts _ _ (.tmp 45) (.tmp 49) (.tmp 53) _ _ _ _ _ _ _ _ _ _ _ _ rfl rfl rfl rfl _) ((hl2.below hz3 hl2.lt).cell 2) ?_
      simp only [Act.put,sq];replace hS:=(hl2.below hz3 hl2.lt).cell 2;refine tkc 17 (.slice (some ⟨y2.heap.size,0,none⟩) 3 3) rfl hS ?_;simp only [Act.put,sq];refine wpAnyH_done (by kernel_rfl) ?_ _
      go_wp2
      go_meet
      case rel =>
       have hbb1:Below wr.heap.size wr y2:=HBD2.out.trans ((hz1.trans (hz2.mono hz1.size)).mono (by rw [HSZ.out.1];exact Nat.le_refl _))
       have h7:wr.heap.size ≤ y2.heap.size:=hbb1.size;refine ⟨y2.heap.size,gz,ah,nh,ch,rfl,hbt,hbz.below hz3 hbz.lt,ownB_lower ((ho.below hz2 (Nat.le_refl _)).below hz3 (Nat.le_refl _)) HSZ.out.2,hbb1.trans (hz3.mono hbb1.size),h7,by rw [HGZ.out,HSZ.out.1];exact hz1.size⟩
   case rest =>
    obtain ⟨gT,gz,ah,nh,ch,rfl,hbT,hbz,hoh,hbw,hgT,hgz⟩:=hcut;clear HLR HKR;have HBC:Hid (Below w.heap.size w wc):=HBB.out.trans (hbw.mono HBB.out.size);have HLT:Hid (∀ x,Un P (fun x => x = lg) x → x < w.heap.size):=fun x hx => hx.elim (HDK.out.lt14 x) (fun e => by rw [e];exact HLB.out.lt)
    have HMC:Hid (Mut (Un P (fun x => x = lg)) w wc):=mut_below HBC.out _
    have HST0:Hid (Sta (Un P (fun x => x = lg)) wc (fun W => ReadsL W (.slice ad n c) l)):=HST.out.below HBC.out
    have HT0:Hid (∀ j,j < 3 → Sta (Un P (fun x => x = lg)) wc (fun W => Reads W ([.slice (some ⟨gz,0,none⟩) N N,.slice ta tn tc,.slice ah nh ch].getD j undef) (stR hs gen' l j))):=fun j hj => by
     match j,hj with
     | 0,_ =>
      have e:stR hs gen' l 0 = List.replicate N 0:=by show List.replicate (64 * hs) 0 = _;rw [HNN.out,Nat.mul_comm]
      show Sta _ wc (fun W => Reads W (.slice (some ⟨gz,0,none⟩) N N) (stR hs gen' l 0))
      rw [e];exact hbz.stB (fun h => absurd (HLT.out gz h) (by have:=HBB.out.size;omega)) (by rw [List.length_replicate]) (by rw [List.length_replicate];exact Nat.le_refl _)
     | 1,_ =>
      show Sta _ wc (fun W => Reads W (.slice ta tn tc) (recsB gen' 0 l))
      rw [← HTX.out];exact (HOW.out.below hbw (Nat.le_refl _)).st HLT.out
     | 2,_ => exact hoh.st HLT.out
    have HV0:Hid (BgI wc gd lg P (lgC gd hs 0 k gen vr u) D L P D (stL hs k' gen' l 0) wc):=⟨HDK.out.same14 (fun x hx => HBC.out.block x (HDK.out.lt14 x hx)),Grew.refl _ _,HLB.out.below HBC.out HLB.out.lt,Mut.refl _ _,HWT.out,by rw [HLL.out]⟩
    have HBT:Hid (Blk wc gT (stC a0 a1 a0 (.slice (some ⟨gz,0,none⟩) N N) (.slice ta tn tc) (.slice ah nh ch)) 162):=hbT;have HGT:Hid (¬ Un P (fun x => x = lg) gT):=fun h => absurd (HLT.out gT h) (by have:=HBB.out.size;omega)
    have HAT:Hid (∀ j,j < 3 → stA hs k' j = ([a0,a1,a0]:List Nat).getD j 0):=fun j hj => by
     match j,hj with
     | 0,_ => show k' * hs = a0;rw [HA0.out]
     | 1,_ => show k' * hs + 1 = a1;rw [HA1.out,HA0.out]
     | 2,_ => show k' * hs = a0;rw [HA0.out]
    clear hbT hbz hoh hbw hgT hgz;go_wp2
    go_loopw [57] (fun i wr => ∃ (j:Nat) (P':Nat → Prop) (D':DkT),j ≤ 3 ∧ i = .int .i64 (j:Int) ∧ Hid (BgI wc gd lg P (lgC gd hs 0 k gen vr u) D L P' D' (stL hs k' gen' l j) wr)) (fun i _ => 3 - (intOf i).toNat)
    case atStart => exact ⟨0,P,D,by omega,rfl,HV0⟩
    case round =>
     clear HV0;obtain ⟨j,P',D',hj,rfl,HBI⟩:=hrel
     by_cases hlt3:j < 3
     case pos =>
      have hlk3:(j:Int) < 3:=by omega
      have g1:IntKind.i64.wrap ((j:Int) + 1) = (j:Int) + 1:=by rw [IntKind.wrap_i64];omega
      obtain ⟨aj,HAJ⟩:=sqn (stA hs k' j);obtain ⟨mj,HMJ⟩:=sqn (stM hs l j);obtain ⟨rj,HRJ⟩:=sqn (stR hs gen' l j);obtain ⟨tj,HTJ⟩:∃ t:Value,Hid (t = [.slice (some ⟨gz,0,none⟩) N N,.slice ta tn tc,.slice ah nh ch].getD j undef):=⟨_,rfl⟩
      have hcell:(stC a0 a1 a0 (.slice (some ⟨gz,0,none⟩) N N) (.slice ta tn tc) (.slice ah nh ch))[2 * j]? = some (.int .i64 (aj:Int)) ∧ (stC a0 a1 a0 (.slice (some ⟨gz,0,none⟩) N N) (.slice ta tn tc) (.slice ah nh ch))[2 * j + 1]? = some tj:=by
       rw [HAJ.out,HAT.out j hlt3,HTJ.out]
       match j,hlt3 with
       | 0,_ => exact ⟨rfl,rfl⟩
       | 1,_ => exact ⟨rfl,rfl⟩
       | 2,_ => exact ⟨rfl,rfl⟩
      have HSJ:Hid (Sta (Un P (fun x => x = lg)) wc (fun W => Reads W tj rj)):=by rw [HTJ.out,HRJ.out];exact HT0.out j hlt3
      have HPO:Hid (∀ x,x < wc.heap.size → Un P' (fun x => x = lg) x → Un P (fun x => x = lg) x):=fun x hx h => h.elim (fun h => (HBI.out.gr x h).elim Or.inl (fun h2 => absurd h2 (by omega))) Or.inr
      have HNP2:Hid (¬ P' lg):=fun h => (HBI.out.gr lg h).elim HNP.out (fun h2 => absurd h2 (by have h3:=HLB.out.lt;have h4:=HBC.out.size;omega))
      obtain ⟨tad,tnn,tcc,htj⟩:=(HSJ.out.now).form;subst htj;have HBTr:Hid (Blk wr gT (stC a0 a1 a0 (.slice (some ⟨gz,0,none⟩) N N) (.slice ta tn tc) (.slice ah nh ch)) 162):=HBI.out.mv.blk HBT.out HGT.out
      have HRG:Hid (wr.rangeAt gT (2 * j) [.int .i64 (aj:Int),.slice tad tnn tcc]):=fun i v hv => by
       match i,hv with
       | 0,hv => simp at hv;subst hv;rw [Nat.add_zero,HBTr.out.cell];exact hcell.1
       | 1,hv => simp at hv;subst hv;rw [HBTr.out.cell];exact hcell.2
      obtain ⟨D2,x2,HX2⟩:∃ D2 x,Hid (runJ D' (stS hs k' gen' l j) = (D2,x)):=⟨(runJ D' (stS hs k' gen' l j)).1,(runJ D' (stS hs k' gen' l j)).2,rfl⟩
      have HPC:Hid (∀ W,Below wr.heap.size wr W → Calls Tryz.prog 102 #[.pointer (some ⟨lg,0,none⟩),.int .i64 (aj:Int),.slice tad tnn tcc] W fun e w' => e = .returned (.int .i64 x2) ∧ ∃ P2,DkIs w' gd P2 D2 ∧ Blk w' lg (lgC gd hs x2 k gen vr u) 144 ∧ Mut (Un P' (fun x => x = lg)) W w' ∧ Grew W P' P2):=fun W hW => by
       have hbi:=HBI.out;have hmW:Mut (Un P (fun x => x = lg)) wc W:=hbi.mv.trans (fun _ _ h => h) (mut_below hW _)
       have h1:=jPut_any (w:=W) (gd:=gd) (lg:=lg) (P:=P') (D:=D') hs k gen u aj mj vr (.slice tad tnn tcc) rj (hbi.dk.same14 (fun x hx => hW.block x (hbi.dk.lt14 x hx))) (hbi.lb.below hW hbi.lb.lt) HNP2.out (by rw [HRJ.out,HMJ.out];exact len_stR hs gen' l hlt3) (by rw [HMJ.out];have h2:=stM_le (l:=l) HBD.out.2.2.2.1 j;have h3:=HBD.out;omega) (by rw [HAJ.out];unfold stA;have h2:=HAB.out;have h3:=HA0.out;have h4:=HA1.out;split <;> omega) (by rw [hbi.wt];show 0 + mj ≤ 200;rw [HMJ.out];have h2:=stM_le (l:=l) HBD.out.2.2.2.1 j;have h3:=HBD.out;omega) (HSJ.out.go hmW HPO.out)
       have e:(secsOf aj mj rj).map some ++ [none] = stS hs k' gen' l j:=by rw [stS,HAJ.out,HMJ.out,HRJ.out]
       rw [e,HX2.out] at h1;exact h1
      have HRS:Hid (runJ D L = if x2 = 0 then runJ D2 (stL hs k' gen' l (j + 1)) else (D2,x2)):=by
       show _ = _;rw [HBI.out.run,stL_step hs k' gen' l hlt3,run_two,HX2.out]
      have HWT2:Hid (x2 = 0 → D2.wait = []):=fun h => by
       have h1:=seg_wait (secsOf (stA hs k' j) (stM hs l j) (stR hs gen' l j)) D';have e:(secsOf (stA hs k' j) (stM hs l j) (stR hs gen' l j)).map some ++ [none] = stS hs k' gen' l j:=rfl;rw [e,HX2.out] at h1;exact h1 h
      clear hcell;obtain ⟨tk0,tk1,tk2,tk3,tk4⟩:=sqk5
      go_upto_region 13 with (first
       | (clear tk0;refine wpSeq_val (.pointer (some ⟨gT,2 * j,none⟩)) _ (by rfl) (idxSt gT j hlt3 _ _ (.tmp 55) (.tmp 57) rfl rfl rfl _) ?_)
       | (clear tk1;with_reducible refine wpSeq_loadW 162 (.tmp 59) gT (2 * j) [.int .i64 (aj:Int),.slice tad tnn tcc] _ HRG.out Tryz.underlying162 rfl (info_st _ _) ?_ ?_ ?_ ?_
          · rfl
          · rfl
          · rfl)
       | (clear tk2;with_reducible refine wpSeq_allocSt ?_ ?_ ?_
          · rfl
          · rfl
          intro g15 y1 nn;have HN1:Hid (NewR [.int .i64 0,.slice none 0 0] 162 wr g15 y1):=nn;clear nn)
       | (clear tk3;with_reducible refine wpSeq_storeRow 162 (.tmp 15) (.tmp 60) g15 [.int .i64 0,.slice none 0 0] [.int .i64 (aj:Int),.slice tad tnn tcc] HN1.out.blk (len_st _ _ _ _) (info_st _ _) (st_one _ _ _ _) ?_ ?_ ?_ ?_ ?_
          · rfl
          · rfl
          · rfl
          · rfl
          intro y2 hs2;have HB2:Hid (Below wr.heap.size wr y2):=HN1.out.below.trans (hs2.only.below HN1.out.ge HN1.out.below.size);have c0:y2.cell? ⟨g15,0,none⟩ = some (.int .i64 (aj:Int)):=hs2.blk.cell 0;have c1:y2.cell? ⟨g15,1,none⟩ = some (.slice tad tnn tcc):=hs2.blk.cell 1;clear hs2)
       | (clear tk4;go_at_call 102;refine (HPC.out _ HB2.out).mono ?_;rintro e0 y3 ⟨rfl,P2,hd2,hl2,hm2,hg2⟩
          have hm3:Mut (Un P (fun x => x = lg)) wc y3:=(HBI.out.mv.trans (fun _ _ h => h) (mut_below HB2.out _)).trans HPO.out hm2
          have hg3:Grew wc P P2:=HBI.out.gr.trans (Nat.le_trans HBI.out.mv.size HB2.out.size) hg2;have HD3:Hid (DkIs y3 gd P2 D2 ∧ Blk y3 lg (lgC gd hs x2 k gen vr u) 144 ∧ Mut (Un P (fun x => x = lg)) wc y3 ∧ Grew wc P P2):=⟨hd2,hl2,hm3,hg3⟩
          clear hd2 hl2 hm2 hg2 hm3 hg3 c0 c1))
      by_cases hx0:x2 = 0
      case pos =>
       subst hx0;have HBI2:Hid (BgI wc gd lg P (lgC gd hs 0 k gen vr u) D L P2 D2 (stL hs k' gen' l (j + 1)) y3):=⟨HD3.out.1,HD3.out.2.2.2,HD3.out.2.1,HD3.out.2.2.1,HWT2.out rfl,by rw [HRS.out,if_pos rfl]⟩
       go_wp2;go_roundw
       case rel => exact ⟨j + 1,P2,D2,by omega,by simp,HBI2⟩
       case measure => simp [intOf];omega
      case neg =>
       have q1:(x2 != 0) = true:=by rw [bne_iff_ne];exact hx0
       have hxe:D2 = DX ∧ x2 = xX:=by
        have h:=HRS.out;rw [if_neg hx0,HX.out] at h;exact ⟨(congrArg Prod.fst h).symm,(congrArg Prod.snd h).symm⟩
       obtain ⟨rfl,rfl⟩:=hxe;go_wp2;go_ret;exact ⟨rfl,P2,HD3.out.1,fun h => absurd h hx0,HMC.out.trans (fun _ _ h => h) HD3.out.2.2.1,fun x hx => (HD3.out.2.2.2 x hx).imp id (fun h => Nat.le_trans HBC.out.size h)⟩
     case neg =>
      obtain rfl:j = 3:=by omega
      have hlk3:¬ (((3:Nat):Int) < 3):=by omega
      have hxe:D' = DX ∧ 0 = xX:=by
       have h:=HBI.out.run;rw [HX.out] at h;exact ⟨(congrArg Prod.fst h).symm,(congrArg Prod.snd h).symm⟩
      obtain ⟨rfl,rfl⟩:=hxe;obtain ⟨ts,HTS⟩:=sqn (secL l);obtain ⟨u2,HU2⟩:=sqn (1 + secL l)
      have HSC:Hid (∀ W,Calls Tryz.prog 103 #[.int .i64 (tn:Int)] W fun e w' => e = .returned (.int .i64 (ts:Int)) ∧ w' = W):=fun W => by
       have h2:tn = 64 * secL l:=by rw [HTN.out,HTX.out,len_recsB,sizeL_eq]
       have h3:=HBD.out;have h1:=jSectors_any tn (by omega) W
       have e:(tn + 63) / 64 = ts:=by rw [HTS.out];omega
       rw [e] at h1;exact h1
      have g2:IntKind.i64.wrap (1 + (ts:Int)) = (u2:Int):=by rw [IntKind.wrap_i64];have h1:=HTS.out;have h2:=HU2.out;have h3:=HBD.out;omega
      have HLR:Hid (Blk wr lg (lgC gd hs 0 k gen vr u) 144):=HBI.out.lb;obtain ⟨tk0,tk1,tk2⟩:=sqk3
      go_wp2_with (first
       | (clear tk0;go_at_call 103;refine (HSC.out _).mono ?_;rintro e0 y1 ⟨rfl,hy1⟩;subst hy1)
       | (clear tk1;with_reducible refine wpSeq_build 138 [(0,.tmp 72),(1,.tmp 73),(2,.tmp 74),(3,.tmp 78)] (ctC k' gen' (.slice ad n c) u2) ?_ ?_ ?_ ?_
          · exact built_ct4 _ _ _ _ _ _ _ rfl
          · rfl
          · rfl)
       | (clear tk2;with_reducible refine wpSeq_storeCt (.tmp 81) (.tmp 79) lg gd hs 0 k gen u k' gen' u2 vr ad n c HLR.out ?_ ?_ ?_ ?_ ?_
          · rfl
          · rfl
          · rfl
          · rfl
          intro y2 hb2 ho2;have HL2:Hid (Blk y2 lg (lgC gd hs 0 k' gen' (.slice ad n c) u2) 144):=hb2;have HO2:Hid (Only lg y1 y2):=ho2;clear hb2 ho2))
      go_ret;have hnp2:¬ P' lg:=fun h => (HBI.out.gr lg h).elim HNP.out (fun h2 => absurd h2 (by have h3:=HLB.out.lt;have h4:=HBC.out.size;omega))
      refine ⟨rfl,P',HBI.out.dk.same14 (fun x hx => HO2.out.block x (fun e => hnp2 (e ▸ hx)) (HBI.out.dk.lt14 x hx)),by first | (intro _;rw [← HU2.out];exact HL2.out) | (rw [← HU2.out];exact HL2.out),HMC.out.trans (fun _ _ h => h) (HBI.out.mv.trans (fun _ _ h => h) (HO2.out.mut (Or.inr rfl))),fun x hx => (HBI.out.gr x hx).imp id (fun h => Nat.le_trans HBC.out.size h)⟩
end Go.Proofs.YtheincjkoefalaaGreatDoor

/- Texts that the proof leans on, one behind the other: The store's setting, handed a contract of its sorting: the acts that set all keys, rising (layer 15). The sort of acts: its functions are those of the library (layer 15). The sorting of acts by their keys, and with it the store's setting (layer 15). .. -/
import Derived.Test.YtheincjkoefalaaGreatDoorMze
import Derived.Maps.RangeWalk
import Derived.Shelf.SlLaysF0
import Derived.Test.YtheincjkoefalaaGreatDoorProg
import Derived.Shelf.SlSortCmp.WholeK
import Derived.Lib.Bytealg
import Derived.Shelf.SlMaps.Clone
import Derived.RangeFuncFrom
set_option maxRecDepth 100000
set_option maxHeartbeats 16000000
namespace Go.Proofs.YtheincjkoefalaaGreatDoor
open Go.RowKit
def setP (V:Bs → Value) (ks:KM):List (ActT × Value):=ks.map fun p => (⟨p.1,true,p.2⟩,V p.1)
theorem setP_snoc (V:Bs → Value) (ks:KM) (p:Bs × Bs):setP V (ks ++ [p]) = setP V ks ++ [(⟨p.1,true,p.2⟩,V p.1)]:=by simp [setP]
theorem setP_len (V:Bs → Value) (ks:KM):(setP V ks).length = ks.length:=by simp [setP]
theorem strB_of2 (s:ByteArray):∃ nm,s = strB nm:=by
 refine ⟨s.data.toList.map fun b => BitVec.ofNat 8 b.toNat,?_⟩
 have h:=strB_data (s.data.toList.map fun b => BitVec.ofNat 8 b.toNat)
 have h2:(s.data.toList.map fun b => BitVec.ofNat 8 b.toNat).map (fun b => UInt8.ofNat b.toNat) = s.data.toList:=by
  rw [List.map_map]
  have:((fun b:BitVec 8 => UInt8.ofNat b.toNat) ∘ fun b:UInt8 => BitVec.ofNat 8 b.toNat) = id:=by
   funext b
   simp only [Function.comp,BitVec.toNat_ofNat,id];have:=b.toNat_lt;rw [Nat.mod_eq_of_lt (by omega)]
   simp
  rw [this,List.map_id]
 rw [h2] at h
 generalize strB _ = t at *
 cases s;cases t
 simp at h
 simp [h]
theorem key_str {key:Value} {kl:Lit} (h:keyOf Tryz.prog 9 key = some kl):∃ s,key = .string (strB s) ∧ kl = litB s:=by
 cases key <;> simp [keyOf,Tryz.underlying9,mapKey] at h
 rename_i s
 obtain ⟨nm,rfl⟩:=strB_of2 s
 exact ⟨nm,rfl,h.2.symm⟩
theorem same_lit (q s:Bs):(litB q).sameKey (litB s) = decide (q = s):=by
 by_cases e:q = s
 · subst e
   simp [litB,Lit.sameKey]
 · rw [decide_eq_false e]
   have h:litB q ≠ litB s:=fun h => e (litB_inj h)
   simp only [litB,Lit.sameKey];exact beq_eq_false_iff_ne.2 (fun h2 => h (by unfold litB;rw [h2]))
theorem perm_mem {α:Type} [DecidableEq α]:∀ {a b:List α},a.Nodup → b.Nodup → (∀ x,x ∈ a ↔ x ∈ b) → a.Perm b
 | [],b,_,_,h => by
  cases b with
  | nil => exact List.Perm.nil
  | cons y b => exact absurd ((h y).2 (List.mem_cons_self ..)) (by simp)
 | x :: a,b,ha,hb,h => by
  have hx:x ∈ b:=(h x).1 (List.mem_cons_self ..)
  obtain ⟨hxa,ha2⟩:=List.nodup_cons.1 ha
  refine List.Perm.trans (List.Perm.cons x (perm_mem ha2 (hb.erase x) (fun y => ?_))) (List.perm_cons_erase hx).symm
  rw [hb.mem_erase_iff]
  constructor
  · intro hy
    exact ⟨fun e => hxa (e ▸ hy),(h y).1 (List.mem_cons_of_mem _ hy)⟩
  · rintro ⟨h1,h2⟩
    rcases List.mem_cons.1 ((h y).2 h2) with h3 | h3
    · exact absurd h3 h1
    · exact h3
def SortOk:Prop:=∀ (W:World) (base:Nat) (v:Value) (ps ts:List (ActT × Value)),W.ownsRow base 62 3 v ps.length (rowP ps) → v ≠ .slice none 0 0 → ts.Perm ps → ts.Pairwise (fun a b => ltB a.1.key b.1.key = true) → ps.length < 1000000 → (∀ p ∈ ps,isSl p.2 = true) → base ≤ W.heap.size →
 Calls Tryz.prog 93 #[v,.func (.func 94) #[] #[]] W fun e w' => e = .returned (.tuple #[]) ∧ w'.ownsRow base 62 3 v ps.length (rowP ts) ∧ Below base W w'
structure RgI (w:World) (gm r n:Nat) (V:Bs → Value) (m:KM) (D:DataW Unit) (ks:KM) (v:Value) (left:Lit → Bool) (cnt:Nat) (W:World):Prop where
 rg:W.ranges Tryz.prog 9 slE gm r n D left cnt
 ow:W.ownsRow w.heap.size 62 3 v ks.length (rowP (setP V ks))
 sub:∀ p ∈ ks,getM m p.1 = some p.2
 nd:ks.Nodup
 lf:∀ s,left (litB s) = true ↔ (getM m s).isSome = true ∧ ∀ p ∈ ks,p.1 ≠ s
 bel:Below w.heap.size w W
 nr:v.ownBlock ≠ some r ∧ v.ownBlock ≠ some gm
 rge:w.heap.size ≤ r
 ln:ks.length + cnt ≤ m.length
 nz:v ≠ .slice none 0 0
theorem rise_nodup:∀ {m:KM},Rise m → m.Nodup
 | [],_ => List.nodup_nil
 | p :: m,h => by
  obtain ⟨h1,h2⟩:=rise_cons.1 h
  exact List.nodup_cons.2 ⟨fun hp => (by have:=h1 p hp;rw [ltB_irr] at this;cases this),rise_nodup h2⟩
theorem RgI.perm {w W:World} {gm r n cnt:Nat} {V:Bs → Value} {m ks:KM} {D:DataW Unit} {v:Value} {left:Lit → Bool} (h:RgI w gm r n V m D ks v left cnt W) (hm:Rise m) (h0:∀ kl,left kl = false):ks.Perm m:=by
 refine perm_mem h.nd (rise_nodup hm) (fun p => ⟨fun hp => (getM_mem hm _ _).1 (h.sub p hp),fun hp => ?_⟩)
 have hg:getM m p.1 = some p.2:=(getM_mem hm _ _).2 hp
 by_cases hx:∃ q ∈ ks,q.1 = p.1
 · obtain ⟨q,hq,e⟩:=hx
   have h1:=h.sub q hq;rw [e,hg] at h1;simp at h1;have:q = p:=Prod.ext e h1.symm;rw [← this];exact hq
 · have h2:=(h.lf p.1).2 ⟨by rw [hg];rfl,fun q hq e => hx ⟨q,hq,e⟩⟩
   rw [h0] at h2
   cases h2
theorem ranges_iter {H:Type} {P:Program} {k:TypeId} {R:Value → Option (DataW H × List MemPlace)} {w:World} {b r n cnt:Nat} {D:DataW H} {left:Lit → Bool} (h:w.ranges P k R b r n D left cnt):(∀ cs t f,w.heap[r]? ≠ some (.cells cs t f)) ∧ ∀ cs t f,w.heap[b]? ≠ some (.cells cs t f):=by
 obtain ⟨es,cl,si,se,c0,h1,_,_,_,h2,_⟩:=h
 exact ⟨fun _ _ _ => by rw [h2];simp,fun _ _ _ => by rw [h1];simp⟩
theorem own_ne {w:World} {base g n:Nat} {v:Value} {xs:List Value} (h:w.ownsRow base 62 3 v n xs) (hg:∀ cs t f,w.heap[g]? ≠ some (.cells cs t f)):v.ownBlock ≠ some g:=fun e => by
 obtain ⟨_,⟨rfl,_⟩ | ⟨g2,cap,cur,rfl,_,hh,_⟩⟩:=h
 · cases e
 · simp [Value.ownBlock] at e
   subst e;exact hg _ _ _ hh
theorem own_nz {w:World} {base n:Nat} {v:Value} {xs:List Value} (h:w.ownsRow base 62 3 v n xs) (hn:n ≠ 0):v ≠ .slice none 0 0:=fun e => by
 obtain ⟨_,⟨_,h0⟩ | ⟨g2,cap,cur,e2,_⟩⟩:=h
 · exact hn h0
 · rw [e] at e2
   cases e2
abbrev mkS (c:Option Addr × Nat × Nat):Value:=.slice c.1 c.2.1 c.2.2
theorem slE_form {v:Value} {y:DataW Unit × List MemPlace} (h:slE v = some y):∃ c,v = mkS c:=by
 unfold slE at h
 split at h
 · rename_i hv
   obtain ⟨ad,n,c,rfl⟩:=isSl_form hv;exact ⟨(ad,n,c),rfl⟩
 · cases h
theorem RgI.next {w W:World} {gm r n cnt:Nat} {V:Bs → Value} {m ks:KM} {D:DataW Unit} {v:Value} {left:Lit → Bool} (h:RgI w gm r n V m D ks v left cnt W) (h3:∀ s,Maps.has D (litB s) = (getM m s).isSome ∧ ((getM m s).isSome = true → D.atKey (litB s) (slD (.slice none 0 0)) = slD (V s))) (hsl:∀ s,(getM m s).isSome = true → isSl (V s) = true) {x:ByteArray} {c:Option Addr × Nat × Nat} {kl:Lit} {y:DataW Unit × List MemPlace} (hkey:keyOf Tryz.prog 9 (.string x) = some kl) (hlk:left kl = true) (hv:slE (mkS c) = some y) (hat:∀ zd,D.atKey kl zd = y.1) :
 ∃ s t,x = strB s ∧ kl = litB s ∧ mkS c = V s ∧ getM m s = some t ∧ ∀ p ∈ ks,p.1 ≠ s:=by
 obtain ⟨s,e1,rfl⟩:=key_str hkey
 simp only [Value.string.injEq] at e1
 obtain ⟨h4,h5⟩:=(h.lf s).1 hlk
 obtain ⟨t,ht⟩:=Option.isSome_iff_exists.1 h4
 refine ⟨s,t,e1,rfl,?_,ht,h5⟩
 have h6:=(h3 s).2 h4
 rw [hat] at h6
 obtain ⟨y1,y2⟩:=y
 simp only at h6
 rw [h6] at hv
 exact slE_inv (hsl s h4) hv
theorem RgI.snoc {w W w1 y3 y4:World} {gm r n cnt cnt1:Nat} {V:Bs → Value} {m ks:KM} {D:DataW Unit} {v v2:Value} {left:Lit → Bool} {s t:Bs} (h:RgI w gm r n V m D ks v left cnt W) (ht:getM m s = some t) (hne:∀ p ∈ ks,p.1 ≠ s)
 (hg1:W.grownBy w1 (some r)) (hrg1:w1.ranges Tryz.prog 9 slE gm r n D (fun z => left z && !z.sameKey (litB s)) cnt1) (hb:Below w1.heap.size w1 y3) (ow2:y4.ownsRow w.heap.size 62 3 v2 (ks.length + 1) (rowP (setP V ks) ++ rowP [(⟨s,true,t⟩,V s)])) (gr2:y3.grownBy y4 v.ownBlock) (hlt:cnt1 < cnt) :
 RgI w gm r n V m D (ks ++ [(s,t)]) v2 (fun z => left z && !z.sameKey (litB s)) cnt1 y4:=by
 have hg3:w1.grownBy y3 none:=⟨hb.os,hb.tape,hb.output,hb.size,fun k hk _ => hb.block k hk⟩
 have hr3:=hrg1.kept hg3 (by simp) (by simp)
 have hr4:=hr3.kept gr2 (fun e => h.nr.2 e.symm) (fun e => h.nr.1 e.symm)
 obtain ⟨hit,hmp⟩:=ranges_iter hr4
 have hbl:Below w.heap.size w y4:=⟨gr2.os.trans (hb.os.trans (hg1.os.trans h.bel.os)),gr2.tape.trans (hb.tape.trans (hg1.tape.trans h.bel.tape)),gr2.output.trans (hb.output.trans (hg1.output.trans h.bel.output)),Nat.le_trans h.bel.size (Nat.le_trans hg1.size (Nat.le_trans hb.size gr2.size)),fun k hk => by
  have k1:=Nat.lt_of_lt_of_le hk h.bel.size
  have k2:=Nat.lt_of_lt_of_le k1 hg1.size
  have k3:=Nat.lt_of_lt_of_le k2 hb.size
  have n1:some k ≠ some r:=fun e => by simp at e;have:=h.rge;omega
  have n2:some k ≠ v.ownBlock:=fun e => by have:=(h.ow.lt k e.symm).1;omega
  exact (gr2.block k k3 n2).trans ((hb.block k k2).trans ((hg1.block k k1 n1).trans (h.bel.block k hk)))⟩
 have how:y4.ownsRow w.heap.size 62 3 v2 (ks ++ [(s,t)]).length (rowP (setP V (ks ++ [(s,t)]))):=by
  rw [setP_snoc,rowP_app,List.length_append]
  exact ow2
 refine ⟨hr4,how,fun p hp => ?_,?_,fun q => ?_,hbl,⟨own_ne how hit,own_ne how hmp⟩,h.rge,by have:=h.ln;rw [List.length_append];simp;omega,own_nz how (by simp)⟩
 · rcases List.mem_append.1 hp with hp | hp
   · exact h.sub p hp
   · simp at hp
     rw [hp];exact ht
 · rw [List.nodup_append]
   refine ⟨h.nd,by simp,fun a ha b hb2 e => ?_⟩
   simp at hb2
   rw [hb2] at e;exact hne a ha (by rw [e])
 · rw [same_lit,Bool.and_eq_true,h.lf q]
   constructor
   · rintro ⟨⟨h1,h2⟩,h3⟩
     refine ⟨h1,fun p hp => ?_⟩
     rcases List.mem_append.1 hp with hp | hp
     · exact h2 p hp
     · simp at hp h3
       rw [hp];exact fun e => h3 e.symm
   · rintro ⟨h1,h2⟩
     refine ⟨⟨h1,fun p hp => h2 p (List.mem_append_left _ hp)⟩,?_⟩
     have h3:=h2 (s,t) (List.mem_append_right _ (by simp))
     simp
     exact fun e => h3 e.symm
theorem sSetting_of (SO:SortOk) {w:World} {gm n:Nat} {V:Bs → Value} {m:KM} (hm:MapM w gm n V m) (hml:m.length < 1000000):Calls Tryz.prog 65 #[.map (some gm)] w fun e w' => ∃ v,e = .returned v ∧ w'.ownsRow w.heap.size 62 3 v m.length (rowP (setP V m)) ∧ Below w.heap.size w w':=by
 obtain ⟨D,h1,h2,h3⟩:=hm.ex
 have hk:=fun ty => hm.len ty
 obtain ⟨N,HN⟩:=sqn (m.length)
 rw [← HN.out] at hml
 simp only [← HN.out] at hk
 have HD:Hid (w.ownsMap Tryz.prog 9 slE gm n D):=h1
 have H3:Hid (∀ s,Maps.has D (litB s) = (getM m s).isSome ∧ ((getM m s).isSome = true → D.atKey (litB s) (slD (.slice none 0 0)) = slD (V s))):=h3
 have HM:Hid (MapM w gm n V m):=hm
 have H2:Hid (Maps.size D = m.length):=h2
 have HML:Hid (N < 1000000):=hml
 clear h1 h2 h3 hm hml
 go_enter Tryz.func65,Tryz.ntmps65
 obtain ⟨tk0,tk1⟩:=sqk2
 go_wp2_with (first
  | (clear tk0
     obtain ⟨i0,hi,hz0,hz1,hz2⟩:=info_parts Tryz.infoact;refine wpList_make_own w rfl (.const (.int .i64 0)) (.tmp 7) 22 rfl w.heap.size 62 i0 (.agg zA.toArray) 3 Tryz.underlying22 hi hz0 hz1 .i64 .i64 _ N rfl rfl rfl (by rw [hz2];have:=HML.out;omega) (by unfold maxLen;have:=HML.out;omega) (Nat.le_refl _) ?_
     intro y0 ow0 gr0;have HO0:Hid (y0.ownsRow w.heap.size 62 3 (.slice (some ⟨w.heap.size,0,none⟩) 0 N) 0 []):=ow0;have HG0:Hid (w.grownBy y0 none):=gr0
     have HD0:Hid (y0.ownsMap Tryz.prog 9 slE gm n D):=by
      obtain ⟨es,cl,hb,r⟩:=HD.out;exact ⟨es,cl,by rw [gr0.block gm HM.out.lt (by simp)];exact hb,r⟩
     clear ow0 gr0 hi hz0 hz1 hz2)
  | (clear tk1;at_range;refine wpList_range_own y0 rfl _ 97 rfl 9 23 kSt Tryz.underlying97 slE gm n D rfl HD0.out ?_
     intro y1 hrg hg1 hs1
     have HI0:Hid (RgI w gm y0.heap.size n V m D [] (.slice (some ⟨w.heap.size,0,none⟩) 0 N) (Maps.has D) (Maps.size D) y1):=by
      have how:=HO0.out.kept hg1 (Or.inr (by simp [Value.ownBlock]))
      obtain ⟨hit,hmp⟩:=ranges_iter hrg;have hbl:Below w.heap.size w y1:=⟨hg1.os.trans HG0.out.os,hg1.tape.trans HG0.out.tape,hg1.output.trans HG0.out.output,Nat.le_trans HG0.out.size hg1.size,fun k hk => (hg1.block k (Nat.lt_of_lt_of_le hk HG0.out.size) (by simp)).trans (HG0.out.block k hk (by simp))⟩
      refine ⟨hrg,how,(fun p hp => by cases hp),List.nodup_nil,fun s => ?_,hbl,⟨own_ne how hit,own_ne how hmp⟩,HG0.out.size,by rw [H2.out];simp,by simp⟩
      rw [(H3.out s).1];exact ⟨fun h => ⟨h,fun p hp => by cases hp⟩,fun h => h.1⟩
     clear hrg hg1 hs1))
 go_frame
 obtain ⟨r,HR⟩:=sqn (y0.heap.size)
 rw [← HR.out] at HI0 ⊢
 clear HO0 HG0 HD0
 go_loopw [3] (fun v wr => ∃ ks left cnt,RgI w gm r n V m D ks v left cnt wr) (fun _ wr => wr.rangeLeft gm r)
 case atStart => exact ⟨[],_,_,HI0.out⟩
 case round =>
  clear HI0
  obtain ⟨ks,left,cnt,hI⟩:=hrel
  have HI:Hid (RgI w gm r n V m D ks u3 left cnt wr):=hI
  clear hI
  obtain ⟨tk2,tk3,tk4,tk5⟩:=sqk4
  go_wp2_with (first
   | (clear tk2;at_next;refine wpList_next_ranges wr rfl _ rfl 9 kSt slE Value.string mkS (fun key kl h => by obtain ⟨s,h,_⟩:=key_str h;exact ⟨_,h⟩) (fun v y h => slE_form h) gm r n D left cnt rfl HI.out.rg (fun hc0 hl0 => ?_) (fun x c kl y w1 cnt1 hkey hlk hv hat hrg1 hlt hg1 hs1 hen => ?_))
   | (clear tk3;obtain ⟨ca,cn,cc⟩:=c
      with_reducible refine wpSeq_buildA1 (.tmp 19) x true ca cn cc ?_ ?_ ?_ ?_
      · rfl
      · rfl
      · rfl
      intro g5 y3 nn;obtain ⟨s,t,ex,ek,ev,ht,hne⟩:=HI.out.next H3.out HM.out.sl hkey hlk hv hat;subst ex;subst ek;have hg3:w1.grownBy y3 none:=⟨nn.below.os,nn.below.tape,nn.below.output,nn.below.size,fun k hk _ => nn.below.block k hk⟩
      have HO3:Hid (y3.ownsRow w.heap.size 62 3 u3 ks.length (rowP (setP V ks))):=(HI.out.ow.kept hg1 (Or.inr HI.out.nr.1)).kept hg3 (by cases u3.ownBlock <;> simp)
      have HC3:Hid (∀ q u,(rowP [((⟨s,true,t⟩:ActT),V s)])[q]? = some u → y3.cell? ((⟨g5,0,none⟩:Addr).add q) = some u):=fun q u hq => by
       rw [Addr.add_mid,Nat.zero_add,nn.blk.cell];rw [← ev] at hq;exact hq
      have HS3:Hid (∀ u ∈ rowP [((⟨s,true,t⟩:ActT),V s)],u.oneCell' = true):=rowP_one (fun p hp => by
       simp at hp
       rw [hp];exact HM.out.sl s (by rw [ht];rfl))
      have HX:Hid (getM m s = some t ∧ (∀ p ∈ ks,p.1 ≠ s) ∧ wr.grownBy w1 (some r) ∧ w1.ranges Tryz.prog 9 slE gm r n D (fun z => left z && !z.sameKey (litB s)) cnt1 ∧ Below w1.heap.size w1 y3 ∧ cnt1 < cnt):=⟨ht,hne,hg1,hrg1,nn.below,hlt⟩
      have HBS3:Hid (w.heap.size ≤ y3.heap.size ∧ ks.length < 1000000):=⟨Nat.le_trans HI.out.bel.size (Nat.le_trans hg1.size nn.below.size),by have h1:=HI.out.ln;have h2:=HML.out;have h3:=HN.out;omega⟩
      clear ht hne hg1 hrg1 nn hlt hg3 hkey hlk hv hat hs1 hen ev)
   | (clear tk5;at_builtin
      obtain ⟨i0,hi,hz0,hz1,hz2⟩:=info_parts Tryz.infoact;refine wpList_append_own (P:=Tryz.prog) y3 rfl (.tmp 16) (.tmp 20) 22 rfl w.heap.size 62 i0 (.agg zA.toArray) 3 48 Tryz.underlying22 hi hz0 hz1 hz2 rfl (by decide) _ ks.length (rowP (setP V ks)) rfl HO3.out ⟨g5,0,none⟩ 1 1 (rowP [((⟨s,true,t⟩:ActT),V s)]) rfl (by rw [rowP_len];rfl) HC3.out HS3.out (by unfold maxLen;have:=HBS3.out.2;omega) (by have:=HBS3.out.2;omega) HBS3.out.1 ?_
      intro v2 y4 ow2 gr2 _;have HI4:Hid (RgI w gm r n V m D (ks ++ [(s,t)]) v2 (fun z => left z && !z.sameKey (litB s)) cnt1 y4):=HI.out.snoc HX.out.1 HX.out.2.1 HX.out.2.2.1 HX.out.2.2.2.1 HX.out.2.2.2.2.1 ow2 gr2 HX.out.2.2.2.2.2
      clear ow2 gr2 hi hz0 hz1 hz2)
   | (clear tk4;go_at_call 93
      have hperm:=HI.out.perm HM.out.up hl0
      refine (SO _ w.heap.size u3 (setP V ks) (setP V m) (by rw [setP_len];exact HI.out.ow) HI.out.nz (hperm.symm.map _) (List.pairwise_map.2 HM.out.up) (by rw [setP_len,hperm.length_eq,← HN.out];exact HML.out) (fun p hp => by
       obtain ⟨q,hq,e⟩:=List.mem_map.1 hp;rw [← e];exact HM.out.sl q.1 (by rw [HI.out.sub q hq];rfl)) HI.out.bel.size).mono ?_
      rintro e9 y9 ⟨rfl,ow9,bl9⟩;have HF:Hid (y9.ownsRow w.heap.size 62 3 u3 m.length (rowP (setP V m)) ∧ Below w.heap.size w y9):=⟨by rw [setP_len,hperm.length_eq] at ow9;exact ow9,HI.out.bel.trans bl9⟩
      clear ow9 bl9 hperm))
  · go_ret
    exact ⟨_,rfl,HF.out.1,HF.out.2⟩
  · go_roundw
    case rel => exact ⟨_,_,_,HI4.out⟩
    case measure =>
     rw [HI4.out.rg.left_eq,HI.out.rg.left_eq];exact HX.out.2.2.2.2.2
end Go.Proofs.YtheincjkoefalaaGreatDoor
namespace Go.Proofs.YtheincjkoefalaaGreatDoor
open Go.Shelf
def sortA_ren:Go.Shelf.Ren:=⟨fun | 6 => 93 | 15 => 120 | 14 => 119 | 28 => 143 | 29 => 144 | 20 => 135 | 21 => 136 | 22 => 137 | 23 => 138 | 24 => 139 | 25 => 140 | 26 => 141 | 27 => 142 | 46 => 154 | 47 => 155 | 48 => 156 | 49 => 157 | 50 => 158 | 57 => 166 | n => n,fun | 22 => 22 | 24 => 62 | 25 => 149 | 3 => 3 | 39 => 150 | 0 => 0 | 53 => 181 | 55 => 47 | 4 => 4 | 46 => 175 | 45 => 174 | 50 => 133 | 5 => 5 | 9 => 9 | 66 => 187 | 70 => 190 | 76 => 200 | 77 => 201 | n => n,fun | n => n⟩
theorem sortA:Go.Proofs.SlLaysF0.n6 Tryz.prog sortA_ren:={
 mixed:=by kernel_rfl
 f6:=⟨Tryz.f93.name,by decide,Tryz.func93.trans (congrArg some (by kernel_rfl))⟩
 f14:=⟨Tryz.f119.name,by decide,Tryz.func119.trans (congrArg some (by kernel_rfl))⟩
 f15:=Tryz.func120.trans (congrArg some (by kernel_rfl))
 f20:=⟨Tryz.f135.name,by decide,Tryz.func135.trans (congrArg some (by kernel_rfl))⟩
 f21:=⟨Tryz.f136.name,by decide,Tryz.func136.trans (congrArg some (by kernel_rfl))⟩
 f22:=⟨Tryz.f137.name,by decide,Tryz.func137.trans (congrArg some (by kernel_rfl))⟩
 f23:=⟨Tryz.f138.name,by decide,Tryz.func138.trans (congrArg some (by kernel_rfl))⟩
 f24:=⟨Tryz.f139.name,by decide,Tryz.func139.trans (congrArg some (by kernel_rfl))⟩
 f25:=⟨Tryz.f140.name,by decide,Tryz.func140.trans (congrArg some (by kernel_rfl))⟩
 f26:=⟨Tryz.f141.name,by decide,Tryz.func141.trans (congrArg some (by kernel_rfl))⟩
 f27:=⟨Tryz.f142.name,by decide,Tryz.func142.trans (congrArg some (by kernel_rfl))⟩
 f28:=Tryz.func143.trans (congrArg some (by kernel_rfl))
 f29:=Tryz.func144.trans (congrArg some (by kernel_rfl))
 f46:=⟨Tryz.f154.name,by decide,Tryz.func154.trans (congrArg some (by kernel_rfl))⟩
 f47:=Tryz.func155.trans (congrArg some (by kernel_rfl))
 f48:=Tryz.func156.trans (congrArg some (by kernel_rfl))
 f49:=⟨Tryz.f157.name,by decide,Tryz.func157.trans (congrArg some (by kernel_rfl))⟩
 f50:=⟨Tryz.f158.name,by decide,Tryz.func158.trans (congrArg some (by kernel_rfl))⟩
 f57:=⟨Tryz.f166.name,by decide,Tryz.func166.trans (congrArg some (by kernel_rfl))⟩
 t0:=Tryz.underlying0
 a0:=Tryz.isAgg0
 z0:=Tryz.sizeOf0
 v0:=Tryz.zeroValue0
 t3:=Tryz.underlying3
 a3:=Tryz.isAgg3
 z3:=Tryz.sizeOf3
 v3:=Tryz.zeroValue3
 t4:=Tryz.underlying4
 a4:=Tryz.isAgg4
 z4:=Tryz.sizeOf4
 v4:=Tryz.zeroValue4
 t5:=Tryz.underlying5
 a5:=Tryz.isAgg5
 z5:=Tryz.sizeOf5
 v5:=Tryz.zeroValue5
 t9:=Tryz.underlying9
 a9:=Tryz.isAgg9
 z9:=Tryz.sizeOf9
 v9:=Tryz.zeroValue9
 t22:=Tryz.underlying22
 a22:=Tryz.isAgg22
 z22:=Tryz.sizeOf22
 v22:=Tryz.zeroValue22
 t25:=Tryz.underlying149
 a25:=Tryz.isAgg149
 z25:=Tryz.sizeOf149
 v25:=Tryz.zeroValue149
 t39:=Tryz.underlying150
 a39:=Tryz.isAgg150
 z39:=Tryz.sizeOf150
 v39:=Tryz.zeroValue150
 t45:=Tryz.underlying174
 a45:=Tryz.isAgg174
 z45:=Tryz.sizeOf174
 v45:=Tryz.zeroValue174
 t46:=Tryz.underlying175
 a46:=Tryz.isAgg175
 z46:=Tryz.sizeOf175
 v46:=Tryz.zeroValue175
 t50:=Tryz.underlying133
 a50:=Tryz.isAgg133
 z50:=Tryz.sizeOf133
 v50:=Tryz.zeroValue133
 t53:=Tryz.underlying181
 a53:=Tryz.isAgg181
 z53:=Tryz.sizeOf181
 v53:=Tryz.zeroValue181
 t55:=Tryz.underlying47
 a55:=Tryz.isAgg47
 z55:=Tryz.sizeOf47
 v55:=Tryz.zeroValue47
 t66:=Tryz.underlying187
 a66:=Tryz.isAgg187
 z66:=Tryz.sizeOf187
 v66:=Tryz.zeroValue187
 t70:=Tryz.underlying190
 a70:=Tryz.isAgg190
 z70:=Tryz.sizeOf190
 v70:=Tryz.zeroValue190
 t76:=Tryz.underlying200
 a76:=Tryz.isAgg200
 z76:=Tryz.sizeOf200
 v76:=Tryz.zeroValue200
 t77:=Tryz.underlying201
 a77:=Tryz.isAgg201
 z77:=Tryz.sizeOf201
 v77:=Tryz.zeroValue201 }
end Go.Proofs.YtheincjkoefalaaGreatDoor
namespace Go.Proofs.YtheincjkoefalaaGreatDoor
open Go.RowKit Go.Shelf
abbrev AcT:=ActT × (Option Addr × Nat × Nat)
@[reducible] def acI:Inhabited AcT:=⟨(⟨[],false,[]⟩,(none,0,0))⟩
def encAc (x:AcT):List Value:=actC x.1 (mkS x.2)
def cfA (x y:AcT):Int:=Lib.compareBytes (strB x.1.key).data.toList (strB y.1.key).data.toList
theorem u8_lt15 (a b:BitVec 8):(UInt8.ofNat a.toNat < UInt8.ofNat b.toNat) ↔ a.toNat < b.toNat:=by
 rw [UInt8.lt_iff_toNat_lt]
 have h1:=a.isLt
 have h2:=b.isLt
 rw [UInt8.toNat_ofNat',UInt8.toNat_ofNat']
 omega
theorem cmp_lt:∀ (a b:Bs),decide (Lib.compareBytes (a.map fun b => UInt8.ofNat b.toNat) (b.map fun b => UInt8.ofNat b.toNat) < 0) = ltB a b
 | [],[] => by simp [Lib.compareBytes,ltB]
 | [],_ :: _ => by simp [Lib.compareBytes,ltB]
 | _ :: _,[] => by simp [Lib.compareBytes,ltB]
 | a :: x,b :: y => by
  have ih:=cmp_lt x y
  simp only [List.map_cons,Lib.compareBytes,ltB,u8_lt15]
  by_cases h1:a.toNat < b.toNat
  · simp [h1]
  · by_cases h2:b.toNat < a.toNat
    · have:a ≠ b:=fun e => by rw [e] at h2;omega
      simp [h1,h2,this]
    · have:a = b:=BitVec.eq_of_toNat_eq (by omega)
      simp [this] at ih ⊢
      exact ih
theorem lt_cf (x y:AcT):ltOf cfA x y = ltB x.1.key y.1.key:=by
 unfold ltOf cfA
 rw [strB_data,strB_data]
 exact cmp_lt _ _
theorem ltB_ntrans (a b c:Bs) (h1:ltB a b = false) (h2:ltB b c = false):ltB a c = false:=by
 cases h3:ltB a c with
 | false => rfl
 | true =>
  rcases ltB_tri a b with h | h | h
  · rw [h] at h1;cases h1
  · rw [h,h2] at h3;cases h3
  · rw [ltB_trans b a c h h3] at h2;cases h2
theorem swoA:Sort.SWO (ltOf cfA) where
 irrefl x:=by rw [lt_cf,ltB_irr]
 trans x y z h1 h2:=by rw [lt_cf] at *;exact ltB_trans _ _ _ h1 h2
 ntrans x y z h1 h2:=by rw [lt_cf] at *;exact ltB_ntrans _ _ _ h1 h2
theorem rise_uniq {α:Type} (lt:α → α → Bool):∀ (ts ds:List α),ds.Perm ts → ts.Pairwise (fun a b => lt a b = true) → ds.Pairwise (fun a b => lt b a = false) → ds = ts
 | [],ds,hp,_,_ => List.Perm.eq_nil hp
 | t :: ts,ds,hp,ht,hd => by
  cases ds with
  | nil => exact absurd hp.symm.eq_nil (by simp)
  | cons d ds =>
   obtain ⟨h1,h2⟩:=List.pairwise_cons.1 ht;obtain ⟨h3,h4⟩:=List.pairwise_cons.1 hd
   have hdt:d = t:=by
    have hm:d ∈ t :: ts:=hp.subset (List.mem_cons_self ..)
    rcases List.mem_cons.1 hm with e | e
    · exact e
    · have hm2:t ∈ d :: ds:=hp.symm.subset (List.mem_cons_self ..)
      rcases List.mem_cons.1 hm2 with e2 | e2
      · exact e2.symm
      · have a1:=h1 d e
        have a2:=h3 t e2;rw [a1] at a2
        cases a2
   subst hdt;rw [rise_uniq lt ts ds (List.perm_cons _ |>.1 hp) h2 h4]
def acOf (p:ActT × Value):AcT:=(p.1,match p.2 with | .slice a n c => (a,n,c) | _ => (none,0,0))
theorem enc_acOf {p:ActT × Value} (h:isSl p.2 = true):encAc (acOf p) = actC p.1 p.2:=by
 obtain ⟨a,n,c,e⟩:=isSl_form h
 unfold encAc acOf
 rw [e]
theorem row_flat (ps:List (ActT × Value)) (hs:∀ p ∈ ps,isSl p.2 = true) (t:Nat) (ht:t < ps.length * 3):letI:=acI;(rowP ps)[t]? = some (Sort.flatK encAc 3 (ps.map acOf).toArray)[t]!:=by
 letI:=acI
 rw [Sort.get_flatK _ _ _ _ (by simpa using ht)]
 have hq:t / 3 < ps.length:=by omega
 have h3:t % 3 < 3:=Nat.mod_lt _ (by decide)
 have e1:((ps.map acOf).toArray)[t / 3]! = acOf ps[t / 3]:=by
  rw [getElem!_pos _ _ (by simpa using hq)]
  simp
 rw [e1,enc_acOf (hs _ (List.getElem_mem _))]
 have h4:=rowP_at ps (t / 3) (t % 3) _ _ (List.getElem?_eq_getElem hq) (List.getElem?_eq_getElem (show t % 3 < (actC ps[t / 3].1 ps[t / 3].2).length from h3))
 rw [show t / 3 * 3 + t % 3 = t from by omega] at h4
 rw [h4]
 exact congrArg some (getElem!_pos (actC ps[t / 3].1 ps[t / 3].2) (t % 3) h3).symm
theorem bytCmp_any (a b:ByteArray) (w:World):Calls Tryz.prog 121 #[.string a,.string b] w fun e w' => e = .returned (.int .i64 (Lib.compareBytes a.data.toList b.data.toList)) ∧ w' = w:=by
 go_enter Tryz.func121,Tryz.ntmps121
 go_wp2
 rw [run_callFunc_extern Tryz.func145 (by kernel_rfl) (by kernel_rfl) (by kernel_rfl) (e:=Extern.BytealgCompare.compare) (by kernel_rfl),Lib.run_compareString]
 simp only [Result.andThen]
 rw [Oper.upon_value]
 go_wp2
 go_ret
 exact ⟨rfl,rfl⟩
theorem strCmp_any (a b:ByteArray) (w:World):Calls Tryz.prog 95 #[.string a,.string b] w fun e w' => e = .returned (.int .i64 (Lib.compareBytes a.data.toList b.data.toList)) ∧ w' = w:=by
 go_enter Tryz.func95,Tryz.ntmps95
 go_wp2_with (go_at_call 121;refine (bytCmp_any _ _ _).mono ?_;rintro e w' ⟨rfl,rfl⟩)
 go_ret
 exact ⟨rfl,rfl⟩
theorem setting1_any (x y:AcT) (W:World):Calls Tryz.prog 94 #[.agg (encAc x).toArray,.agg (encAc y).toArray] W fun e w' => e = .returned (.int .i64 (cfA x y)) ∧ ∃ q os',w' = Sort.grow (W.drewN q) os':=by
 have hcon:=fun W' => strCmp_any (strB x.1.key) (strB y.1.key) W'
 change ∀ W',Calls Tryz.prog 95 _ W' (fun e w' => e = .returned (.int .i64 (cfA x y)) ∧ w' = W') at hcon
 generalize cfA x y = r at hcon ⊢
 obtain ⟨⟨k1,s1,d1⟩,ad1,n1,c1⟩:=x
 obtain ⟨⟨k2,s2,d2⟩,ad2,n2,c2⟩:=y
 dsimp only [encAc,actC,mkS] at hcon ⊢
 generalize strB k1 = z1 at hcon ⊢
 generalize strB k2 = z2 at hcon ⊢
 go_enter Tryz.func94,Tryz.ntmps94
 go_wp2_with (go_at_call 95;refine (hcon _).mono ?_;rintro e w' ⟨rfl,rfl⟩)
 go_ret
 exact ⟨rfl,0,_,by rw [Sort.alloc_eq_grow,Sort.alloc_eq_grow,Sort.grow_grow];rfl⟩
theorem cmpLaysA (blk off size:Nat) (w:World):letI:=acI;CmpLays Tryz.prog 94 #[] encAc 3 cfA blk off size w:=by
 letI:=acI
 exact fun _ _ _ _ x y => setting1_any x y _
theorem agg_act:∀ w,(isAgg 62).run Tryz.prog w = .ok true w:=fun w => by kernel_rfl
theorem size_act3:∀ w,(Go.sizeOf 62).run Tryz.prog w = .ok 3 w:=fun w => by kernel_rfl
theorem sort_ok:SortOk:=by
 letI:=acI
 intro W base v ps ts how hnz hperm hpw hlen hsl hb
 obtain ⟨hl,⟨rfl,h0⟩ | ⟨g,cap,cur,rfl,hg,hh,hc,hm,hs,ht⟩⟩:=how
 · exact absurd rfl hnz
 have hlt:g < W.heap.size:=(Array.getElem?_eq_some_iff.1 hh).1
 obtain ⟨d,hd⟩:∃ d:Array AcT,d = (ps.map acOf).toArray:=⟨_,rfl⟩
 have hds:d.size = ps.length:=by rw [hd];simp
 have hH:Sort.HoldsK encAc 3 W g 0 d:=fun t htl => by
  rw [Sort.size_flatK,hds] at htl
  have h1:=row_flat ps hsl t htl
  rw [← hd,← ht,List.getElem?_take_of_lt htl] at h1
  refine ⟨?_,?_⟩
  · rw [Nat.zero_add,World.cell?,hh]
    simpa using h1
  · simp [World.frozen?,hh]
 have eg:∀ args w,(callFunc 94 args).run Tryz.prog w = .ok (.enter 94 args) w:=enters_of Tryz.func94 (by kernel_rfl) rfl
 have hcon:=AnyQ.slices_SortFunc sortA 3 agg_act size_act3 encAc (fun _ => rfl) (fun x v hv => by simp [encAc,actC] at hv;rcases hv with rfl | rfl | rfl <;> rfl) cfA swoA 94 #[] g 0 cap d W eg (cmpLaysA g 0 d.size W) hH hlt (by rw [hds];omega)
 rw [hds] at hcon
 refine hcon.mono ?_
 rintro e w' ⟨rfl,d',n,os,⟨hp1,_,hp3⟩,hso,rfl⟩
 have hd's:d'.size = ps.length:=hp1.trans hds
 have hdl:d'.toList = ts.map acOf:=by
  refine rise_uniq (fun x y:AcT => ltB x.1.key y.1.key) _ _ ?_ ?_ ?_
  · have e1:(d'.extract 0 ps.length).toList = d'.toList:=by rw [← hd's];simp
    have e2:(d.extract 0 ps.length).toList = d.toList:=by rw [← hds];simp
    rw [e1,e2,hd] at hp3;exact hp3.trans (hperm.symm.map acOf)
  · exact List.pairwise_map.2 hpw
  · rw [List.pairwise_iff_getElem]
    intro i j hi hj hij;have h1:=hso i j (Nat.zero_le _) hij (by rw [← hd's];simpa using hj)
    rw [lt_cf,getElem!_pos d' i (by simpa using hi),getElem!_pos d' j (by simpa using hj)] at h1
    simpa using h1
 have hd'a:d' = (ts.map acOf).toArray:=by rw [← hdl]
 have hlts:ts.length = ps.length:=hperm.length_eq
 have hst:∀ p ∈ ts,isSl p.2 = true:=fun p hp => hsl p (hperm.subset hp)
 refine ⟨rfl,⟨by rw [rowP_len,hlts],Or.inr ⟨g,cap,Sort.putCells id 0 (Sort.flatK encAc 3 d') cur,rfl,hg,?_,hc,hm,?_,?_⟩⟩,?_⟩
 · unfold sortWorldK
   rw [Sort.heap_grow_old _ _ (by simp [Sort.putRowK];exact hlt)]
   simp [Sort.putRowK,Sort.putRow,Sort.mapBlock,Array.getElem?_modify,hh,Sort.onCells]
 · simp [Sort.putCells,hs]
 · apply List.ext_getElem?
   intro t
   by_cases htl:t < ps.length * 3
   · rw [List.getElem?_take_of_lt htl]
     have h1:=row_flat ts hst t (by rw [hlts];exact htl)
     rw [h1,← hd'a];have hcz:t < cur.size:=by rw [hs];have:=Nat.mul_le_mul_right 3 hc;omega
     simp [Sort.putCells,hcz,hd's,htl]
   · rw [List.getElem?_eq_none (by simp;omega),List.getElem?_eq_none (by rw [rowP_len,hlts];omega)]
 · refine ⟨rfl,rfl,rfl,by simp [sortWorldK,Sort.putRowK],fun k hk => ?_⟩
   have hkl:k < W.heap.size:=Nat.lt_of_lt_of_le hk hb;unfold sortWorldK;rw [Sort.heap_grow_old _ _ (by simp [Sort.putRowK];exact hkl)]
   simp [Sort.putRowK,Sort.putRow,Sort.mapBlock,Array.getElem?_modify,show g ≠ k by omega]
theorem sSetting_any {w:World} {gm n:Nat} {V:Bs → Value} {m:KM} (hm:MapM w gm n V m) (hml:m.length < 1000000):Calls Tryz.prog 65 #[.map (some gm)] w fun e w' => ∃ v,e = .returned v ∧ w'.ownsRow w.heap.size 62 3 v m.length (rowP (setP V m)) ∧ Below w.heap.size w w':=sSetting_of sort_ok hm hml
end Go.Proofs.YtheincjkoefalaaGreatDoor
namespace Go.Proofs.YtheincjkoefalaaGreatDoor
open Go.RowKit
theorem mapsClone_any {w:World} {gm n:Nat} {V:Bs → Value} {m:KM} (hm:MapM w gm n V m):Calls Tryz.prog 104 #[.map (some gm)] w fun e w' => ∃ g,e = .returned (.map (some g)) ∧ MapM w' g n V m ∧ Below w.heap.size w w' ∧ w.heap.size ≤ g:=by
 obtain ⟨D,⟨es,cl,hb,r⟩,h2⟩:=hm.ex
 have HF:Hid (MapM (w.alloc (.map es cl)) w.heap.size n V m):=⟨⟨D,⟨es,cl,World.alloc_heap_new w _,r⟩,h2⟩,hm.sl,hm.up⟩
 have HB:Hid (w.heap[gm]? = some (.map es cl)):=hb
 have hq:=fun w => run_eql_map_nil_sl (P:=Tryz.prog) w 97 _ _ (some gm) Tryz.underlying97
 clear hb r h2 hm
 go_enter Tryz.func104,Tryz.ntmps104
 go_wp2
 rw [run_callFunc_extern Tryz.func129 (by kernel_rfl) (by kernel_rfl) (by kernel_rfl) (e:=Extern.MapsClone.clone) (by kernel_rfl),run_maps_clone_sl w 97 HB.out]
 simp only [Result.andThen]
 rw [Oper.upon_value]
 go_wp2
 rw [run_typeAssert_map_sl _ 97 _ _ _ _ Tryz.underlying97]
 simp only [Result.andThen]
 rw [Oper.upon_value]
 go_wp2
 go_ret
 exact ⟨_,rfl,HF.out,below_alloc _ _,Nat.le_refl _⟩
theorem encText_le (t:Bs) (h:t.length < 18446744073709551616):(encText t).length ≤ t.length + 10:=by
 unfold encText
 rw [List.length_append]
 have:=enc_len10 t.length h
 omega
theorem encA_le (a:ActT) (hk:a.key.length < 18446744073709551616) (hd:a.data.length < 18446744073709551616):(encA a).length ≤ wtA a + 40:=by
 have h1:=encText_le a.key hk
 have h2:=encText_le a.data hd
 have h3:=enc_len10 1 (by decide)
 have h4:=enc_len10 0 (by decide)
 unfold encA wtA
 rw [List.length_append]
 cases a.set
 · simp only [Bool.false_eq_true,if_false]
   omega
 · simp only [if_true,List.length_append]
   omega
theorem encAll_le (c:Nat):∀ (l:List ActT),(∀ a ∈ l,(encA a).length ≤ c) → (encAll encA l).length ≤ c * l.length
 | [],_ => by simp [encAll]
 | a :: l,h => by
  have h1:=encAll_le c l (fun x hx => h x (List.mem_cons_of_mem _ hx))
  have h2:=h a (List.mem_cons_self ..)
  rw [encAll_cons,List.length_append,List.length_cons,Nat.mul_add,Nat.mul_one]
  omega
theorem batch_le (c:Nat) (l:List ActT) (hl:l.length ≤ 4096) (h:∀ a ∈ l,(encA a).length ≤ c):(batchB l).length ≤ c * 4096 + 10:=by
 have h1:=encAll_le c l h
 have h2:=enc_len10 l.length (by omega)
 have h3:c * l.length ≤ c * 4096:=Nat.mul_le_mul_left c hl
 show (encNum l.length ++ encAll encA l).length ≤ _
 rw [List.length_append]
 omega
theorem wt_sum:∀ (l:List ActT) (a:ActT),a ∈ l → wtA a ≤ sumA l
 | [],_,h => by cases h
 | x :: l,a,h => by
  have e:sumA (x :: l) = wtA x + sumA l:=by simp [sumA]
  rcases List.mem_cons.1 h with rfl | h
  · omega
  · have:=wt_sum l a h
    omega
theorem okZ_light {l:List ActT} (h1:l.length ≤ 60) (h2:sumA l ≤ 20000):okZ l:=by
 have hw:∀ a ∈ l,wtA a ≤ 20000:=fun a ha => Nat.le_trans (wt_sum l a ha) h2
 have hb:=batch_le 20040 l (by omega) (fun a ha => by
  have h3:=hw a ha
  have h4:=encA_le a (by unfold wtA at h3;omega) (by unfold wtA at h3;omega)
  omega)
 exact ⟨by omega,by omega,fun a ha => by have h3:=hw a ha;unfold wtA at h3;omega⟩
theorem okA_sz {a:ActT} (h:okA a = true):a.key.length ≤ 64 ∧ a.data.length ≤ 1048576:=by
 unfold okA at h
 rw [Bool.and_eq_true] at h
 obtain ⟨h1,h2⟩:=h
 refine ⟨of_decide_eq_true h1,?_⟩
 cases hs:a.set
 · rw [hs] at h2
   simp at h2
   simp [h2]
 · rw [hs] at h2
   simpa using h2
def wt1 (p:Bs × Bs):Nat:=p.1.length + p.2.length + 3
def wtM (m:KM):Nat:=(m.map wt1).sum
theorem wtM_cons (p:Bs × Bs) (m:KM):wtM (p :: m) = wt1 p + wtM m:=by simp [wtM]
theorem wtM_app (a b:KM):wtM (a ++ b) = wtM a + wtM b:=by simp [wtM]
theorem wtM_len:∀ (m:KM),3 * m.length ≤ wtM m
 | [] => Nat.le_refl _
 | p :: m => by have:=wtM_len m;rw [wtM_cons,List.length_cons,wt1];omega
theorem wtM_parts (k:Bs):∀ (m:KM),wtM (m.filter (fun p => ltB p.1 k)) + wtM (m.filter (fun p => ltB k p.1)) ≤ wtM m
 | [] => Nat.le_refl _
 | p :: m => by
  have ih:=wtM_parts k m
  rw [wtM_cons]
  cases h1:ltB p.1 k with
  | true =>
   rw [List.filter_cons_of_pos (by exact h1),List.filter_cons_of_neg (by rw [ltB_asym h1];decide),wtM_cons]
   omega
  | false =>
   rw [List.filter_cons_of_neg (by rw [h1];decide)]
   cases h2:ltB k p.1 with
   | true => rw [List.filter_cons_of_pos (by exact h2),wtM_cons];omega
   | false => rw [List.filter_cons_of_neg (by rw [h2];decide)];omega
theorem encNum_ge1 (n:Nat):1 ≤ (encNum n).length:=by
 by_cases h:n < 128
 · rw [encNum_lt h];exact Nat.le_refl _
 · rw [encNum_ge h,List.length_cons];omega
theorem encA_ge (a:ActT) (h:a.set = true):wt1 (a.key,a.data) ≤ (encA a).length:=by
 have h1:=encNum_ge1 a.key.length
 have h2:=encNum_ge1 a.data.length
 have h3:=encNum_ge1 1
 unfold encA encText wt1
 rw [h]
 simp only [if_true,List.length_append]
 omega
theorem wtM_one (m:KM) (a:ActT):wtM (oneM m a) ≤ wtM m + (encA a).length:=by
 have h1:=wtM_parts a.key m
 unfold oneM
 rw [wtM_app,wtM_app]
 cases hs:a.set with
 | true =>
  have h2:=encA_ge a hs
  rw [if_pos rfl,wtM_cons]
  have:wtM [] = 0:=rfl
  omega
 | false =>
  rw [if_neg (by decide)]
  have:wtM [] = 0:=rfl
  omega
theorem wtM_done:∀ (l:List ActT) (m:KM),wtM (doneM m l) ≤ wtM m + (encAll encA l).length
 | [],m => Nat.le_add_right _ _
 | a :: l,m => by
  have h1:=wtM_done l (oneM m a)
  have h2:=wtM_one m a
  rw [encAll_cons,List.length_append]
  show wtM (doneM (oneM m a) l) ≤ _
  omega
theorem len_oneM {m:KM} (h:Rise m) (a:ActT):(oneM m a).length ≤ m.length + 1:=by
 have h1:=len_one h a
 have h2:(if a.set = true then 1 else 0) ≤ 1:=by split <;> decide
 generalize (if a.set = true then 1 else 0) = z at h1 h2
 generalize (if (getM m a.key).isSome = true then 1 else 0) = y at h1
 omega
theorem len_doneM:∀ (l:List ActT) {m:KM},Rise m → (doneM m l).length ≤ m.length + l.length
 | [],m,_ => Nat.le_refl _
 | a :: l,m,h => by
  have h1:=len_doneM l (h.one a)
  have h2:=len_oneM h a
  show (doneM (oneM m a) l).length ≤ _
  rw [List.length_cons]
  omega
theorem encAll_light:∀ (l:List ActT),(∀ a ∈ l,a.key.length < 18446744073709551616 ∧ a.data.length < 18446744073709551616) → (encAll encA l).length ≤ sumA l + 40 * l.length
 | [],_ => Nat.le_refl _
 | a :: l,h => by
  have h1:=encAll_light l (fun x hx => h x (List.mem_cons_of_mem _ hx))
  have h2:=encA_le a (h a (List.mem_cons_self ..)).1 (h a (List.mem_cons_self ..)).2
  have e:sumA (a :: l) = wtA a + sumA l:=by simp [sumA]
  rw [encAll_cons,List.length_append,List.length_cons,e]
  omega
theorem sum_whole:∀ (m:KM),sumA (wholeM m) + 3 * m.length = wtM m
 | [] => rfl
 | p :: m => by
  have ih:=sum_whole m
  have e:sumA (wholeM (p :: m)) = wtA ⟨p.1,true,p.2⟩ + sumA (wholeM m):=by simp [sumA,wholeM]
  rw [e,wtM_cons,List.length_cons,wt1,wtA]
  simp only
  omega
theorem wtM_mem:∀ (m:KM),∀ p ∈ m,wt1 p ≤ wtM m
 | [],p,h => by cases h
 | q :: m,p,h => by
  rw [wtM_cons]
  rcases List.mem_cons.1 h with rfl | h
  · omega
  · have:=wtM_mem m p h;omega
theorem whole_le (m:KM) (h:wtM m ≤ 30000):(batchB (wholeM m)).length ≤ 10 + wtM m + 37 * m.length:=by
 have h1:=encAll_light (wholeM m) (fun a ha => by
  obtain ⟨p,hp,e⟩:=List.mem_map.1 ha
  have h3:=wtM_mem m p hp
  rw [← e]
  unfold wt1 at h3
  simp only
  omega)
 have h2:=sum_whole m
 have hl:(wholeM m).length = m.length:=by simp [wholeM]
 have h3:=wtM_len m
 have h4:=enc_len10 (wholeM m).length (by omega)
 unfold batchB encList
 rw [List.length_append]
 omega
def anewM (m:KM):List Bs:=if m = [] then [] else [batchB (wholeM m)]
def apyX (m:KM) (rs:List Bs) (l:List ActT) (n:Nat):Int:=
 if chkL l = 0 ∧ l ≠ [] then (if apX rs (batchB l) n = 0 then 0 else if chkL (wholeM (doneM m l)) = 0 ∧ rsX (anewM (doneM m l)) n = 0 then 0 else 13) else chkL l
def apyM (m:KM) (rs:List Bs) (l:List ActT) (n:Nat):KM:=if apyX m rs l n = 0 then doneM m l else m
def apyL (m:KM) (rs:List Bs) (l:List ActT) (n:Nat):List Bs:=
 if chkL l = 0 ∧ l ≠ [] then (if apX rs (batchB l) n = 0 then rs ++ [batchB l] else if chkL (wholeM (doneM m l)) = 0 ∧ rsX (anewM (doneM m l)) n = 0 then anewM (doneM m l) else rs) else rs
structure StP (m:KM) (D:DkT) (J:JnT):Prop where
 lg:Log D J
 lo:8 ≤ sizeD D
 hi:sizeD D ≤ 47
 ge:J.gen < 1000000
 up:Rise m
 wt:wtM m ≤ sumB J.l
theorem sumB_size:∀ (l:List Bs),sumB l ≤ sizeL l
 | [] => Nat.le_refl _
 | x :: l => by
  have ih:=sumB_size l
  have h1:sumB (x :: l) = x.length + sumB l:=by simp [sumB]
  have h2:sizeL (x :: l) = 64 * secR x.length + sizeL l:=by simp [sizeL]
  rw [h1,h2,secR]
  omega
theorem StP.small {m:KM} {D:DkT} {J:JnT} (h:StP m D J):wtM m ≤ 1504:=by
 have h1:=h.lg.fits
 have h2:=sizeL_eq J.l
 have h3:=sumB_size J.l
 have h4:=h.wt
 have h5:=h.hi
 unfold hsD at h1
 omega
theorem StP.okJ {m:KM} {D:DkT} {J:JnT} (h:StP m D J):okJ D J:=h.lg.okJ h.lo (Nat.le_trans h.hi (by decide)) (by have:=h.ge;omega)
theorem batch_ne (l:List ActT):1 ≤ (batchB l).length:=by
 unfold batchB encList
 rw [List.length_append]
 have:=encNum_ge1 l.length
 omega
theorem room_batch (rs:List Bs) (l:List ActT) (n:Nat):(batchB l).length ≤ roomZ rs n ↔ apX rs (batchB l) n = 0:=by
 have h0:=batch_ne l
 have h1:=sizeL_eq rs
 generalize batchB l = b at h0
 have hfit:=fit_iff (rs ++ [b]) n
 rw [secL_snoc,secR] at hfit
 unfold apX chkX
 rw [roomZ]
 by_cases hc:b.length = 0 ∨ 1048576 < b.length
 · rw [if_pos hc]
   constructor
   · intro h;omega
   · intro h;simp at h
 · rw [if_neg hc,if_neg (by decide)]
   by_cases hf:fit14 (rs ++ [b]) n = true
   · have h2:=hfit.1 hf
     rw [if_pos hf];exact ⟨fun _ => rfl,fun _ => by omega⟩
   · have h2:¬ (1 + (secL rs + (b.length + 120) / 64) ≤ n / 2):=fun h => hf (hfit.2 h)
     rw [if_neg hf]
     constructor
     · intro h;omega
     · intro h;cases h
theorem StP.done {m:KM} {D:DkT} {J:JnT} (h:StP m D J) {l:List ActT} (h1:l.length ≤ 60) (h2:sumA l ≤ 20000):wtM (doneM m l) ≤ 23904 ∧ (doneM m l).length ≤ 562 ∧ (batchB (wholeM (doneM m l))).length ≤ 50000:=by
 have h3:=h.small
 have h4:=wtM_len m
 have hw:∀ a ∈ l,wtA a ≤ 20000:=fun a ha => Nat.le_trans (wt_sum l a ha) h2
 have h5:=encAll_light l (fun a ha => by have h3:=hw a ha;unfold wtA at h3;omega)
 have h6:=wtM_done l m
 have h7:=len_doneM l h.up
 have h8:=whole_le (doneM m l) (by omega)
 omega
theorem StP.fit {m:KM} {D:DkT} {J:JnT} (h:StP m D J) {l:List ActT} (hf:apX J.l (batchB l) (sizeD D) = 0):appX J D (batchB l) = 0 ∧ StP (doneM m l) (appD J D (batchB l)) (appJ J D (batchB l)) ∧ (appJ J D (batchB l)).l = J.l ++ [batchB l] ∧ sizeD (appD J D (batchB l)) = sizeD D ∧ (appJ J D (batchB l)).gen = J.gen:=by
 obtain ⟨h1,h2,h3,h4,_,h6,_⟩:=do_app h.lg (batchB l)
 rw [hf] at h1
 have h7:apL J.l (batchB l) (sizeD D) = J.l ++ [batchB l]:=if_pos hf
 rw [h7] at h3
 refine ⟨h1,⟨h2,by rw [h4];exact h.lo,by rw [h4];exact h.hi,by rw [h6];exact h.ge,h.up.done l,?_⟩,h3,h4,h6⟩
 rw [h3,sumB_snoc]
 have h8:=wtM_done l m
 have h9:=h.wt
 have h10:(encAll encA l).length ≤ (batchB l).length:=by unfold batchB encList;rw [List.length_append];omega
 omega
theorem wt_whole (m:KM):wtM m ≤ sumB (anewM m):=by
 unfold anewM
 by_cases e:m = []
 · rw [e];exact Nat.zero_le _
 rw [if_neg e]
 have h1:sumB [batchB (wholeM m)] = (batchB (wholeM m)).length:=by simp [sumB]
 rw [h1]
 have h2:∀ (m:KM),wtM m ≤ (encAll encA (wholeM m)).length:=fun m => by
  induction m with
  | nil => exact Nat.le_refl _
  | cons p m ih =>
   have h3:=encA_ge ⟨p.1,true,p.2⟩ rfl;show wtM (p :: m) ≤ (encAll encA (⟨p.1,true,p.2⟩ :: wholeM m)).length;rw [wtM_cons,encAll_cons,List.length_append];have h4:wt1 p = wt1 (p.1,p.2):=rfl;simp only at h3;omega
 have h3:=h2 m
 unfold batchB encList
 rw [List.length_append]
 omega
theorem StP.anew {m m2:KM} {D:DkT} {J:JnT} (h:StP m D J) (hu:Rise m2) (hg:J.gen + 1 < 1000000) (hf:rsX (anewM m2) (sizeD D) = 0):rstX J D (anewM m2) = 0 ∧ StP m2 (rstD J D (anewM m2)) (rstJ J D (anewM m2)) ∧ (rstJ J D (anewM m2)).l = anewM m2 ∧ sizeD (rstD J D (anewM m2)) = sizeD D ∧ (rstJ J D (anewM m2)).gen = J.gen + 1:=by
 obtain ⟨h1,h2,h3,h4,_,h6⟩:=do_rst h.lg (by omega) (anewM m2)
 rw [hf] at h1
 rw [if_pos h1] at h6
 have h7:rsL J.l (anewM m2) (sizeD D) = anewM m2:=if_pos hf
 rw [h7] at h3
 exact ⟨h1,⟨h2,by rw [h4];exact h.lo,by rw [h4];exact h.hi,by rw [h6];exact hg,hu,by rw [h3];exact wt_whole m2⟩,h3,h4,h6⟩
theorem StP.full {m:KM} {D:DkT} {J:JnT} (h:StP m D J) {m2:KM} (hl:(batchB (wholeM m2)).length ≤ 50000) (hf:rsX (anewM m2) (sizeD D) ≠ 0):rstX J D (anewM m2) = 13 ∧ rstD J D (anewM m2) = D ∧ rstJ J D (anewM m2) = J:=by
 have hc:¬ ∃ x ∈ anewM m2,chkX x = 1:=by
  rintro ⟨x,hx,hx1⟩
  unfold anewM at hx
  split at hx
  · cases hx
  · simp at hx
    have:=batch_ne (wholeM m2);rw [hx] at hx1;unfold chkX at hx1;rw [if_neg (by omega)] at hx1
    cases hx1
 have h1:rsX (anewM m2) (sizeD D) = 13:=by
  unfold rsX at hf ⊢
  rw [if_neg hc] at hf ⊢
  split
  · rename_i hx
    rw [if_pos hx] at hf;exact absurd rfl hf
  · rfl
 obtain ⟨h2,_⟩:=do_rst h.lg (by have:=h.ge;omega) (anewM m2)
 rw [h1] at h2
 have h3:rstE D (anewM m2) ≠ 0:=fun e => by
  have h4:=(h.lg.rst (by have:=h.ge;omega) e).1
  rw [h2] at h4
  cases h4
 exact ⟨h2,if_neg h3,if_neg h3⟩
theorem rowA_reads {W:World} {base:Nat} {v:Value} {ps:List (ActT × Value)} (h:W.ownsRow base 62 3 v ps.length (rowP ps)) (hd:∀ p ∈ ps,Reads W p.2 p.1.data):ReadsA W v (ps.map (·.1)):=by
 obtain ⟨h1,h2⟩:=id h
 rcases h2 with ⟨rfl,h0⟩ | ⟨g,cap,cur,rfl,hg,hh,hc,hm,hs,ht⟩
 · have:ps = []:=List.eq_nil_of_length_eq_zero h0
   subst this;exact ReadsA.nil W
 · refine ⟨_,cap,by rw [List.length_map],by rw [List.length_map];exact hc,(fun e => by cases e),fun _ => ⟨g,0,rfl,fun j hj => ?_⟩⟩
   rw [List.length_map] at hj;obtain ⟨p,hp⟩:∃ p,ps[j]? = some p:=⟨ps[j],List.getElem?_eq_getElem hj⟩;have e:(ps.map (·.1)).getD j ⟨[],false,[]⟩ = p.1:=by rw [List.getD_eq_getElem?_getD,List.getElem?_map,hp];rfl
   rw [e];refine ⟨p.2,fun i u hu => ?_,hd p (List.mem_of_getElem? hp)⟩
   have hr:=rowP_at ps j i p u hp hu;have hi:j * 3 + i < (rowP ps).length:=(List.getElem?_eq_some_iff.1 hr).1;rw [rowP_len] at hi;rw [cell_of_row W g (0 + j * 3 + i) cur _ (0,0) hh,Nat.zero_add];rw [← ht,List.getElem?_take_of_lt hi] at hr
   simpa using hr
theorem setP_whole (V:Bs → Value) (m:KM):(setP V m).map (·.1) = wholeM m:=by simp [setP,wholeM]
theorem build_t1 (f:Operand → Value) (o:Oper) (x:Operand) (ad:Option Addr) (n c:Nat) (hx:f x = .slice ad n c) (ho:o.op = .buildSlice 41 1 #[(0,x)]) (w:World):(execOp f o).run Tryz.prog w = .ok (.value (.slice (some ⟨w.heap.size,0,none⟩) 1 1)) (w.alloc (.cells #[.slice ad n c] 23)):=by
 unfold execOp
 rw [ho]
 simp only [List.map_toArray,List.map_cons,List.map_nil,hx]
 kernel_rfl
theorem wpSeq_buildT1 {ops:Array Oper} {Q:Exit → Act → World → Prop} {rest:List Oper} {o:Oper} {a:Act} {w:World} (x:Operand) (ad:Option Addr) (n c:Nat) (hx:a.eval x = .slice ad n c) (ho:o.op = .buildSlice 41 1 #[(0,x)]) (hw:Region.wanted o (yielded ops a.tmps) = true)
 (h:∀ g w',NewR [.slice ad n c] 23 w g w' → wpList Tryz.prog ops Q rest (a.put o.dst (.slice (some ⟨g,0,none⟩) 1 1)) w'):wpList Tryz.prog ops Q (o :: rest) a w:=
 wpSeq_val _ _ hw (build_t1 _ o x ad n c hx ho w) (h _ _ (NewR.of _ _ w))
theorem staL_one {P:Nat → Prop} {w:World} {g:Nat} {v:Value} {b:Bs} (hb:Blk w g [v] 23) (hg:¬ P g) (hs:Sta P w (fun W => Reads W v b)):Sta P w (fun W => ReadsL W (.slice (some ⟨g,0,none⟩) 1 1) [b]):=fun W hW => by
 refine ⟨_,_,rfl,Nat.le_refl _,(fun h => by cases h),fun _ => ⟨g,0,rfl,fun j hj => ?_⟩⟩
 match j,hj with
 | 0,_ => exact ⟨v,(hW.blk hb hg).cell 0,hs W hW⟩
theorem sRestart_none {w:World} {gs gd lg gm n:Nat} {P Q:Nat → Prop} {V:Bs → Value} {m:KM} {D:DkT} {J:JnT} (h:StM w gs gd lg gm n P Q V m D J) (hK:KOk w) (hp:StP m D J) (v:Value) (ps:List (ActT × Value)) (hst:Sta (Un P Q) w (fun W => RdP W v ps ∧ (∀ p ∈ ps,Reads W p.2 p.1.data) ∧ ReadsA W v (ps.map (·.1)))) (hsl:∀ p ∈ ps,isSl p.2 = true ∧ p.1.key.length ≤ 1000000 ∧ p.1.data.length ≤ 1048576) (h60:ps.length ≤ 60) (h2:sumA (ps.map (·.1)) ≤ 20000) (hn:n + ps.length < 10000000) (h0:doneM m (ps.map (·.1)) = []) :
 Calls Tryz.prog 80 #[.pointer (some ⟨gs,0,none⟩),v] w fun e w' => e = .returned (.int .i64 (rstX J D (anewM (doneM m (ps.map (·.1)))))) ∧ ∃ P' Q',Mut (Un P Q) w w' ∧ Grew w (Un P Q) (Un P' Q') ∧ (rstX J D (anewM (doneM m (ps.map (·.1)))) ≠ 14 → StM w' gs gd lg gm n P' Q' V m (rstD J D (anewM (doneM m (ps.map (·.1))))) (rstJ J D (anewM (doneM m (ps.map (·.1)))))):=by
 obtain ⟨l,HL⟩:=sqn (ps.map (·.1))
 rw [← HL.out] at hst h2 h0 ⊢
 obtain ⟨m2,HM2⟩:=sqn (doneM m l)
 rw [← HM2.out] at h0 ⊢
 obtain ⟨N,HN⟩:=sqn (ps.length)
 obtain ⟨ad,cp,hv⟩:=hst.now.1.form
 rw [← HN.out] at hv
 subst hv
 have hbd:=hp.done (l:=l) (by rw [HL.out,List.length_map];exact h60) h2
 rw [← HM2.out] at hbd
 have hpl:ps.length < 1000000:=by omega
 have HBD:Hid (m2.length < 1000000 ∧ (batchB (wholeM m2)).length ≤ 50000 ∧ wtM m2 ≤ 23904):=⟨by omega,hbd.2.2,hbd.1⟩
 have HDO:Hid (∀ (W:World) (g:Nat),Below w.heap.size w W → MapM W g n V m → w.heap.size ≤ g → Calls Tryz.prog 54 #[.map (some g),.slice ad N cp] W fun e w' => e = .returned (.tuple #[]) ∧ ∃ V' n',MapM w' g n' V' m2 ∧ (∀ s t,getM m2 s = some t → Reads w' (V' s) t) ∧ Mut (fun k => k = g) W w'):=fun W g hb hm hg => by
  have hmu:=mut_below hb (Un P Q)
  have hmm:=mut_below hb (Um P Q gm)
  have hK:∀ s t,getM m s = some t → (Sta (fun k => k = g) W (fun X => Reads X (V s) t) ∧ t.length ≤ 1048576):=fun s t ht => ⟨(h.tx s t ht).1.go hmm (fun k hk e => absurd hk (by omega)),(h.tx s t ht).2⟩
  have hs2:=hst.go hmu (P':=fun k => k = g) (fun k hk e => absurd hk (by omega))
  refine (sDo_any (fun v t => Sta (fun k => k = g) W (fun X => Reads X v t) ∧ t.length ≤ 1048576) hm hK (.slice ad N cp) ps hs2.now.1 (fun p hp => ⟨(hsl p hp).2.1,(hsl p hp).1,fun _ => ⟨hs2.mono (fun X hX => hX.2.1 p hp),(hsl p hp).2.2⟩⟩) hn).mono (fun e w' hx => ?_)
  obtain ⟨h1,V',hI⟩:=hx
  rw [← HL.out,← HM2.out] at hI
  exact ⟨h1,V',_,hI.mp,fun s t ht => (hI.kk s t ht).1.at hI.mu,hI.mu⟩
 have hg1:∀ (W:World),Below w.heap.size w W → StM W gs gd lg gm n P Q V m D J:=fun W hb => h.below hb
 have HS:Hid (∀ (W:World),Below w.heap.size w W → StM W gs gd lg gm n P Q V m D J ∧ KOk W):=fun W hb => ⟨h.below hb,hK.below hb hK.lt⟩
 have HMC:Hid (Calls Tryz.prog 104 #[.map (some gm)] w fun e w' => ∃ g,e = .returned (.map (some g)) ∧ MapM w' g n V m ∧ Below w.heap.size w w' ∧ w.heap.size ≤ g):=mapsClone_any h.mp
 have c1:w.cell? ⟨gs,1,none⟩ = some (.map (some gm)):=h.sb.cell 1
 obtain ⟨ex,HEX⟩:=sqn (rstX J D (anewM m2))
 have HAN:Hid (∀ x ∈ anewM m2,x.length ≤ 100000):=fun x hx => by
  unfold anewM at hx
  by_cases e:m2 = []
  · rw [if_pos e] at hx
    cases hx
  · rw [if_neg e] at hx
    simp at hx
    rw [hx];have:=HBD.out.2.1;omega
 have HRE:Hid (∀ W vr,Below w.heap.size w W → Sta (Un P Q) W (fun X => ReadsL X vr (anewM m2)) → Calls Tryz.prog 105 #[.pointer (some ⟨lg,0,none⟩),vr] W fun e w' => e = .returned (.int .i64 ex) ∧ ∃ P' Q',Mut (Un P Q) w w' ∧ Grew w (Un P Q) (Un P' Q') ∧ (ex ≠ 14 → StM w' gs gd lg gm n P' Q' V m (rstD J D (anewM m2)) (rstJ J D (anewM m2)))):=fun W vr hb hs => by
  have hS:=HS.out W hb
  refine (jRestart_any vr (anewM m2) hS.2 hS.1.pk hp.okJ (by unfold anewM;split <;> simp) HAN.out hs).mono (fun e w' hx => ?_)
  obtain ⟨h3,P',Q',h4,h5,h6,h7⟩:=hx
  rw [← HEX.out] at h3 h7
  exact ⟨h3,P',Q',(mut_below hb _).trans (fun _ _ h => h) h5,fun k hk => (h6 k hk).elim Or.inl (fun h => Or.inr (Nat.le_trans hb.size h)),fun he => hS.1.moved h5 h6 (h7 he)⟩
 rw [← HEX.out]
 have ha:anewM m2 = []:=by unfold anewM;rw [if_pos h0]
 rw [ha] at HRE
 clear h hK hp hst hsl h60 h2 hn hbd hpl hg1 ha
 go_enter Tryz.func80,Tryz.ntmps80
 obtain ⟨tk0,tk1,tk2,tk3,tk4,tk5,tk6⟩:=sqk7
 go_wp2_with (first
  | (clear tk0;go_at_call 104;refine (HMC.out).mono ?_;rintro e0 y0 ⟨g0,rfl,hm0,bl0,hg0⟩
     have HM0:Hid (MapM y0 g0 n V m):=hm0;have HB0:Hid (Below w.heap.size w y0 ∧ w.heap.size ≤ g0):=⟨bl0,hg0⟩;clear hm0 bl0 hg0)
  | (clear tk1;go_at_call 54;refine (HDO.out y0 g0 HB0.out.1 HM0.out HB0.out.2).mono ?_;rintro e1 y1 ⟨rfl,V',n',hm1,hr1,mu1⟩
     have HM1:Hid (MapM y1 g0 n' V' m2):=hm1;have HR1:Hid (∀ s t,getM m2 s = some t → Reads y1 (V' s) t):=hr1;have HB1:Hid (Below w.heap.size w y1):=HB0.out.1.trans (mu1.below HB0.out.1.size (fun k e => by rw [e];exact HB0.out.2))
     have c2:y1.cell? ⟨gs,0,none⟩ = some (.pointer (some ⟨lg,0,none⟩)):=(HS.out y1 HB1.out).1.sb.cell 0;have hk:=fun ty => HM1.out.len ty
     rw [h0] at hk;have fl:((([]:KM).length:Nat):Int) = 0:=rfl;simp only [fl] at hk;clear hm1 hr1 mu1)
  | (clear tk2;go_at_call 105;refine (HRE.out y1 (.slice none 0 0) HB1.out (fun X _ => readsL_nil X)).mono ?_;rintro e2 y2 ⟨rfl,P',Q',mu,gr,hs2⟩
     have HF:Hid (Mut (Un P Q) w y2 ∧ Grew w (Un P Q) (Un P' Q') ∧ (ex ≠ 14 → StM y2 gs gd lg gm n P' Q' V m (rstD J D (anewM m2)) (rstJ J D (anewM m2)))):=⟨mu,gr,by rw [show anewM m2 = [] by unfold anewM;rw [if_pos h0]];exact hs2⟩
     clear mu gr hs2))
 go_ret
 exact ⟨rfl,P',Q',HF.out⟩
theorem sRestart_full {w:World} {gs gd lg gm n:Nat} {P Q:Nat → Prop} {V:Bs → Value} {m:KM} {D:DkT} {J:JnT} (h:StM w gs gd lg gm n P Q V m D J) (hK:KOk w) (hp:StP m D J) (v:Value) (ps:List (ActT × Value)) (hst:Sta (Un P Q) w (fun W => RdP W v ps ∧ (∀ p ∈ ps,Reads W p.2 p.1.data) ∧ ReadsA W v (ps.map (·.1)))) (hsl:∀ p ∈ ps,isSl p.2 = true ∧ p.1.key.length ≤ 1000000 ∧ p.1.data.length ≤ 1048576) (h60:ps.length ≤ 60) (h2:sumA (ps.map (·.1)) ≤ 20000) (hn:n + ps.length < 10000000) (h0:doneM m (ps.map (·.1)) ≠ []) (hc:chkL (wholeM (doneM m (ps.map (·.1)))) = 0) :
 Calls Tryz.prog 80 #[.pointer (some ⟨gs,0,none⟩),v] w fun e w' => e = .returned (.int .i64 (rstX J D (anewM (doneM m (ps.map (·.1)))))) ∧ ∃ P' Q',Mut (Un P Q) w w' ∧ Grew w (Un P Q) (Un P' Q') ∧ (rstX J D (anewM (doneM m (ps.map (·.1)))) ≠ 14 → StM w' gs gd lg gm n P' Q' V m (rstD J D (anewM (doneM m (ps.map (·.1))))) (rstJ J D (anewM (doneM m (ps.map (·.1)))))):=by
 obtain ⟨l,HL⟩:=sqn (ps.map (·.1))
 rw [← HL.out] at hst h2 h0 hc ⊢
 obtain ⟨m2,HM2⟩:=sqn (doneM m l)
 rw [← HM2.out] at h0 hc ⊢
 obtain ⟨N,HN⟩:=sqn (ps.length)
 obtain ⟨ad,cp,hv⟩:=hst.now.1.form
 rw [← HN.out] at hv
 subst hv
 have hbd:=hp.done (l:=l) (by rw [HL.out,List.length_map];exact h60) h2
 rw [← HM2.out] at hbd
 have hpl:ps.length < 1000000:=by omega
 have HBD:Hid (m2.length < 1000000 ∧ (batchB (wholeM m2)).length ≤ 50000 ∧ wtM m2 ≤ 23904):=⟨by omega,hbd.2.2,hbd.1⟩
 have HDO:Hid (∀ (W:World) (g:Nat),Below w.heap.size w W → MapM W g n V m → w.heap.size ≤ g → Calls Tryz.prog 54 #[.map (some g),.slice ad N cp] W fun e w' => e = .returned (.tuple #[]) ∧ ∃ V' n',MapM w' g n' V' m2 ∧ (∀ s t,getM m2 s = some t → Reads w' (V' s) t) ∧ Mut (fun k => k = g) W w'):=fun W g hb hm hg => by
  have hmu:=mut_below hb (Un P Q)
  have hmm:=mut_below hb (Um P Q gm)
  have hK:∀ s t,getM m s = some t → (Sta (fun k => k = g) W (fun X => Reads X (V s) t) ∧ t.length ≤ 1048576):=fun s t ht => ⟨(h.tx s t ht).1.go hmm (fun k hk e => absurd hk (by omega)),(h.tx s t ht).2⟩
  have hs2:=hst.go hmu (P':=fun k => k = g) (fun k hk e => absurd hk (by omega))
  refine (sDo_any (fun v t => Sta (fun k => k = g) W (fun X => Reads X v t) ∧ t.length ≤ 1048576) hm hK (.slice ad N cp) ps hs2.now.1 (fun p hp => ⟨(hsl p hp).2.1,(hsl p hp).1,fun _ => ⟨hs2.mono (fun X hX => hX.2.1 p hp),(hsl p hp).2.2⟩⟩) hn).mono (fun e w' hx => ?_)
  obtain ⟨h1,V',hI⟩:=hx
  rw [← HL.out,← HM2.out] at hI
  exact ⟨h1,V',_,hI.mp,fun s t ht => (hI.kk s t ht).1.at hI.mu,hI.mu⟩
 have hg1:∀ (W:World),Below w.heap.size w W → StM W gs gd lg gm n P Q V m D J:=fun W hb => h.below hb
 have HS:Hid (∀ (W:World),Below w.heap.size w W → StM W gs gd lg gm n P Q V m D J ∧ KOk W):=fun W hb => ⟨h.below hb,hK.below hb hK.lt⟩
 have HMC:Hid (Calls Tryz.prog 104 #[.map (some gm)] w fun e w' => ∃ g,e = .returned (.map (some g)) ∧ MapM w' g n V m ∧ Below w.heap.size w w' ∧ w.heap.size ≤ g):=mapsClone_any h.mp
 have c1:w.cell? ⟨gs,1,none⟩ = some (.map (some gm)):=h.sb.cell 1
 obtain ⟨ex,HEX⟩:=sqn (rstX J D (anewM m2))
 have HAN:Hid (∀ x ∈ anewM m2,x.length ≤ 100000):=fun x hx => by
  unfold anewM at hx
  by_cases e:m2 = []
  · rw [if_pos e] at hx
    cases hx
  · rw [if_neg e] at hx
    simp at hx
    rw [hx];have:=HBD.out.2.1;omega
 have HRE:Hid (∀ W vr,Below w.heap.size w W → Sta (Un P Q) W (fun X => ReadsL X vr (anewM m2)) → Calls Tryz.prog 105 #[.pointer (some ⟨lg,0,none⟩),vr] W fun e w' => e = .returned (.int .i64 ex) ∧ ∃ P' Q',Mut (Un P Q) w w' ∧ Grew w (Un P Q) (Un P' Q') ∧ (ex ≠ 14 → StM w' gs gd lg gm n P' Q' V m (rstD J D (anewM m2)) (rstJ J D (anewM m2)))):=fun W vr hb hs => by
  have hS:=HS.out W hb
  refine (jRestart_any vr (anewM m2) hS.2 hS.1.pk hp.okJ (by unfold anewM;split <;> simp) HAN.out hs).mono (fun e w' hx => ?_)
  obtain ⟨h3,P',Q',h4,h5,h6,h7⟩:=hx
  rw [← HEX.out] at h3 h7
  exact ⟨h3,P',Q',(mut_below hb _).trans (fun _ _ h => h) h5,fun k hk => (h6 k hk).elim Or.inl (fun h => Or.inr (Nat.le_trans hb.size h)),fun he => hS.1.moved h5 h6 (h7 he)⟩
 rw [← HEX.out]
 have hze:okZ (wholeM m2):=⟨by rw [show (wholeM m2).length = m2.length by simp [wholeM]];have:=HBD.out.1;omega,by have:=HBD.out.2.1;omega,fun a ha => by
  obtain ⟨p,hp,e⟩:=List.mem_map.1 ha
  have h3:=wtM_mem m2 p hp
  have h4:=HBD.out.2.2
  unfold wt1 at h3
  rw [← e]
  show p.2.length ≤ _
  omega⟩
 have HWI:Hid (∀ W v,ReadsA W v (wholeM m2) → Calls Tryz.prog 46 #[v,.int .i64 1048576] W fun e w' => ∃ vb,e = .returned (.tuple #[vb,.bool true]) ∧ OwnB w' W.heap.size vb (batchB (wholeM m2)) ∧ Below W.heap.size W w'):=fun W v hr => by
  refine (sWithin_any v (wholeM m2) 1048576 W hr hze).mono (fun e w' hx => ?_)
  obtain ⟨vb,e1,e2,e3⟩:=hx
  have hle:((batchB (wholeM m2)).length:Int) ≤ 1048576:=by have:=HBD.out.2.1;omega
  rw [decide_eq_true hle] at e1
  exact ⟨vb,e1,e2 hle,e3⟩
 have HCK:Hid (∀ W v,ReadsA W v (wholeM m2) → Calls Tryz.prog 11 #[v] W fun e w' => e = .returned (.int .i64 0) ∧ Below W.heap.size W w'):=fun W v hr => by
  have hx:=sCheck_any v (wholeM m2) W hr (by have:=hze.n;omega)
  rw [hc] at hx
  exact hx
 have fl:¬ ((m2.length:Int) = 0):=by
  have h3:0 < m2.length:=List.length_pos_iff.2 h0
  omega
 have ha:anewM m2 = [batchB (wholeM m2)]:=by unfold anewM;rw [if_neg h0]
 rw [ha] at HRE
 clear h hK hp hst hsl h60 h2 hn hbd hpl hg1 hze
 go_enter Tryz.func80,Tryz.ntmps80
 obtain ⟨tk0,tk1,tk2,tk3,tk4,tk5,tk6⟩:=sqk7
 go_wp2_with (first
  | (clear tk0;go_at_call 104;refine (HMC.out).mono ?_;rintro e0 y0 ⟨g0,rfl,hm0,bl0,hg0⟩
     have HM0:Hid (MapM y0 g0 n V m):=hm0;have HB0:Hid (Below w.heap.size w y0 ∧ w.heap.size ≤ g0):=⟨bl0,hg0⟩;clear hm0 bl0 hg0)
  | (clear tk1;go_at_call 54;refine (HDO.out y0 g0 HB0.out.1 HM0.out HB0.out.2).mono ?_;rintro e1 y1 ⟨rfl,V',n',hm1,hr1,mu1⟩
     have HM1:Hid (MapM y1 g0 n' V' m2):=hm1;have HR1:Hid (∀ s t,getM m2 s = some t → Reads y1 (V' s) t):=hr1;have HB1:Hid (Below w.heap.size w y1):=HB0.out.1.trans (mu1.below HB0.out.1.size (fun k e => by rw [e];exact HB0.out.2))
     have c2:y1.cell? ⟨gs,0,none⟩ = some (.pointer (some ⟨lg,0,none⟩)):=(HS.out y1 HB1.out).1.sb.cell 0;have hk:=fun ty => HM1.out.len ty
     skip
     clear hm1 hr1 mu1)
  | (clear tk2;go_at_call 65;refine (sSetting_any HM1.out HBD.out.1).mono ?_;rintro e2 y2 ⟨v2,rfl,ow2,bl2⟩
     have hrd:ReadsA y2 v2 (wholeM m2):=by
      have h3:=rowA_reads (ps:=setP V' m2) (by rw [setP_len];exact ow2) (fun p hp => by
       obtain ⟨q,hq,e⟩:=List.mem_map.1 hp;rw [← e];exact (HR1.out q.1 q.2 ((getM_mem HM1.out.up _ _).2 hq)).below bl2)
      rwa [setP_whole] at h3
     have HA2:Hid (ReadsA y2 v2 (wholeM m2)):=hrd;have HB2:Hid (Below w.heap.size w y2):=HB1.out.trans (bl2.mono HB1.out.size);clear ow2 bl2 hrd)
  | (clear tk3;go_at_call 46;refine (HWI.out y2 v2 HA2.out).mono ?_;rintro e3 y3 ⟨vb,rfl,ow3,bl3⟩
     obtain ⟨ab,nb,cb,hvb⟩:=isSl_form ow3.isSl;subst hvb;have HO3:Hid (OwnB y3 y2.heap.size (.slice ab nb cb) (batchB (wholeM m2))):=ow3;have HA3:Hid (ReadsA y3 v2 (wholeM m2)):=HA2.out.below bl3;have HB3:Hid (Below w.heap.size w y3):=HB2.out.trans (bl3.mono HB2.out.size);clear ow3 bl3)
  | (clear tk4;go_at_call 11;refine (HCK.out y3 v2 HA3.out).mono ?_;rintro e4 y4 ⟨rfl,bl4⟩
     have HO4:Hid (OwnB y4 y2.heap.size (.slice ab nb cb) (batchB (wholeM m2))):=HO3.out.below bl4 (Nat.le_refl _);have HB4:Hid (Below w.heap.size w y4):=HB3.out.trans (bl4.mono HB3.out.size);have c3:y4.cell? ⟨gs,0,none⟩ = some (.pointer (some ⟨lg,0,none⟩)):=(HS.out y4 HB4.out).1.sb.cell 0;clear bl4)
  | (clear tk5;with_reducible refine wpSeq_buildT1 (.tmp 43) ab nb cb ?_ ?_ ?_ ?_
     · rfl
     · rfl
     · rfl
     intro g5 y5 nn;have HB5:Hid (Below w.heap.size w y5):=HB4.out.trans (nn.below.mono HB4.out.size)
     have HL5:Hid (Sta (Un P Q) y5 (fun W => ReadsL W (.slice (some ⟨g5,0,none⟩) 1 1) [batchB (wholeM m2)])):=by
      have hlt:∀ k,Un P Q k → k < y2.heap.size:=fun k hk => (HS.out y2 HB2.out).1.lt k hk
      refine staL_one nn.blk (fun hk => ?_) ((HO4.out.st hlt).below nn.below)
      have h3:=hlt g5 hk;have h4:=nn.ge;have h5:=(HS.out y4 HB4.out).1.lt g5 hk;omega
     clear nn)
  | (clear tk6;go_at_call 105;refine (HRE.out y5 _ HB5.out HL5.out).mono ?_;rintro e6 y6 ⟨rfl,P',Q',mu,gr,hs2⟩
     have HF:Hid (Mut (Un P Q) w y6 ∧ Grew w (Un P Q) (Un P' Q') ∧ (ex ≠ 14 → StM y6 gs gd lg gm n P' Q' V m (rstD J D (anewM m2)) (rstJ J D (anewM m2)))):=⟨mu,gr,by rw [show anewM m2 = [batchB (wholeM m2)] by unfold anewM;rw [if_neg h0]];exact hs2⟩
     clear mu gr hs2))
 go_ret
 exact ⟨rfl,P',Q',HF.out⟩
theorem sRestart_bad {w:World} {gs gd lg gm n:Nat} {P Q:Nat → Prop} {V:Bs → Value} {m:KM} {D:DkT} {J:JnT} (h:StM w gs gd lg gm n P Q V m D J) (hK:KOk w) (hp:StP m D J) (v:Value) (ps:List (ActT × Value)) (hst:Sta (Un P Q) w (fun W => RdP W v ps ∧ (∀ p ∈ ps,Reads W p.2 p.1.data) ∧ ReadsA W v (ps.map (·.1)))) (hsl:∀ p ∈ ps,isSl p.2 = true ∧ p.1.key.length ≤ 1000000 ∧ p.1.data.length ≤ 1048576) (h60:ps.length ≤ 60) (h2:sumA (ps.map (·.1)) ≤ 20000) (hn:n + ps.length < 10000000) (h0:doneM m (ps.map (·.1)) ≠ []) (hc:chkL (wholeM (doneM m (ps.map (·.1)))) = 1) :
 Calls Tryz.prog 80 #[.pointer (some ⟨gs,0,none⟩),v] w fun e w' => e = .returned (.int .i64 13) ∧ Below w.heap.size w w':=by
 obtain ⟨l,HL⟩:=sqn (ps.map (·.1))
 rw [← HL.out] at hst h2 h0 hc
 obtain ⟨m2,HM2⟩:=sqn (doneM m l)
 rw [← HM2.out] at h0 hc
 obtain ⟨N,HN⟩:=sqn (ps.length)
 obtain ⟨ad,cp,hv⟩:=hst.now.1.form
 rw [← HN.out] at hv
 subst hv
 have hbd:=hp.done (l:=l) (by rw [HL.out,List.length_map];exact h60) h2
 rw [← HM2.out] at hbd
 have hpl:ps.length < 1000000:=by omega
 have HBD:Hid (m2.length < 1000000 ∧ (batchB (wholeM m2)).length ≤ 50000 ∧ wtM m2 ≤ 23904):=⟨by omega,hbd.2.2,hbd.1⟩
 have HDO:Hid (∀ (W:World) (g:Nat),Below w.heap.size w W → MapM W g n V m → w.heap.size ≤ g → Calls Tryz.prog 54 #[.map (some g),.slice ad N cp] W fun e w' => e = .returned (.tuple #[]) ∧ ∃ V' n',MapM w' g n' V' m2 ∧ (∀ s t,getM m2 s = some t → Reads w' (V' s) t) ∧ Mut (fun k => k = g) W w'):=fun W g hb hm hg => by
  have hmu:=mut_below hb (Un P Q)
  have hmm:=mut_below hb (Um P Q gm)
  have hK:∀ s t,getM m s = some t → (Sta (fun k => k = g) W (fun X => Reads X (V s) t) ∧ t.length ≤ 1048576):=fun s t ht => ⟨(h.tx s t ht).1.go hmm (fun k hk e => absurd hk (by omega)),(h.tx s t ht).2⟩
  have hs2:=hst.go hmu (P':=fun k => k = g) (fun k hk e => absurd hk (by omega))
  refine (sDo_any (fun v t => Sta (fun k => k = g) W (fun X => Reads X v t) ∧ t.length ≤ 1048576) hm hK (.slice ad N cp) ps hs2.now.1 (fun p hp => ⟨(hsl p hp).2.1,(hsl p hp).1,fun _ => ⟨hs2.mono (fun X hX => hX.2.1 p hp),(hsl p hp).2.2⟩⟩) hn).mono (fun e w' hx => ?_)
  obtain ⟨h1,V',hI⟩:=hx
  rw [← HL.out,← HM2.out] at hI
  exact ⟨h1,V',_,hI.mp,fun s t ht => (hI.kk s t ht).1.at hI.mu,hI.mu⟩
 have hg1:∀ (W:World),Below w.heap.size w W → StM W gs gd lg gm n P Q V m D J:=fun W hb => h.below hb
 have HS:Hid (∀ (W:World),Below w.heap.size w W → StM W gs gd lg gm n P Q V m D J ∧ KOk W):=fun W hb => ⟨h.below hb,hK.below hb hK.lt⟩
 have HMC:Hid (Calls Tryz.prog 104 #[.map (some gm)] w fun e w' => ∃ g,e = .returned (.map (some g)) ∧ MapM w' g n V m ∧ Below w.heap.size w w' ∧ w.heap.size ≤ g):=mapsClone_any h.mp
 have c1:w.cell? ⟨gs,1,none⟩ = some (.map (some gm)):=h.sb.cell 1
 have hze:okZ (wholeM m2):=⟨by rw [show (wholeM m2).length = m2.length by simp [wholeM]];have:=HBD.out.1;omega,by have:=HBD.out.2.1;omega,fun a ha => by
  obtain ⟨p,hp,e⟩:=List.mem_map.1 ha
  have h3:=wtM_mem m2 p hp
  have h4:=HBD.out.2.2
  unfold wt1 at h3
  rw [← e]
  show p.2.length ≤ _
  omega⟩
 have HWI:Hid (∀ W v,ReadsA W v (wholeM m2) → Calls Tryz.prog 46 #[v,.int .i64 1048576] W fun e w' => ∃ vb,e = .returned (.tuple #[vb,.bool true]) ∧ OwnB w' W.heap.size vb (batchB (wholeM m2)) ∧ Below W.heap.size W w'):=fun W v hr => by
  refine (sWithin_any v (wholeM m2) 1048576 W hr hze).mono (fun e w' hx => ?_)
  obtain ⟨vb,e1,e2,e3⟩:=hx
  have hle:((batchB (wholeM m2)).length:Int) ≤ 1048576:=by have:=HBD.out.2.1;omega
  rw [decide_eq_true hle] at e1
  exact ⟨vb,e1,e2 hle,e3⟩
 have HCK:Hid (∀ W v,ReadsA W v (wholeM m2) → Calls Tryz.prog 11 #[v] W fun e w' => e = .returned (.int .i64 1) ∧ Below W.heap.size W w'):=fun W v hr => by
  have hx:=sCheck_any v (wholeM m2) W hr (by have:=hze.n;omega)
  rw [hc] at hx
  exact hx
 have fl:¬ ((m2.length:Int) = 0):=by
  have h3:0 < m2.length:=List.length_pos_iff.2 h0
  omega
 clear h hK hp hst hsl h60 h2 hn hbd hpl hg1 hze
 go_enter Tryz.func80,Tryz.ntmps80
 obtain ⟨tk0,tk1,tk2,tk3,tk4,tk5,tk6⟩:=sqk7
 go_wp2_with (first
  | (clear tk0;go_at_call 104;refine (HMC.out).mono ?_;rintro e0 y0 ⟨g0,rfl,hm0,bl0,hg0⟩
     have HM0:Hid (MapM y0 g0 n V m):=hm0;have HB0:Hid (Below w.heap.size w y0 ∧ w.heap.size ≤ g0):=⟨bl0,hg0⟩;clear hm0 bl0 hg0)
  | (clear tk1;go_at_call 54;refine (HDO.out y0 g0 HB0.out.1 HM0.out HB0.out.2).mono ?_;rintro e1 y1 ⟨rfl,V',n',hm1,hr1,mu1⟩
     have HM1:Hid (MapM y1 g0 n' V' m2):=hm1;have HR1:Hid (∀ s t,getM m2 s = some t → Reads y1 (V' s) t):=hr1;have HB1:Hid (Below w.heap.size w y1):=HB0.out.1.trans (mu1.below HB0.out.1.size (fun k e => by rw [e];exact HB0.out.2))
     have c2:y1.cell? ⟨gs,0,none⟩ = some (.pointer (some ⟨lg,0,none⟩)):=(HS.out y1 HB1.out).1.sb.cell 0;have hk:=fun ty => HM1.out.len ty
     skip
     clear hm1 hr1 mu1)
  | (clear tk2;go_at_call 65;refine (sSetting_any HM1.out HBD.out.1).mono ?_;rintro e2 y2 ⟨v2,rfl,ow2,bl2⟩
     have hrd:ReadsA y2 v2 (wholeM m2):=by
      have h3:=rowA_reads (ps:=setP V' m2) (by rw [setP_len];exact ow2) (fun p hp => by
       obtain ⟨q,hq,e⟩:=List.mem_map.1 hp;rw [← e];exact (HR1.out q.1 q.2 ((getM_mem HM1.out.up _ _).2 hq)).below bl2)
      rwa [setP_whole] at h3
     have HA2:Hid (ReadsA y2 v2 (wholeM m2)):=hrd;have HB2:Hid (Below w.heap.size w y2):=HB1.out.trans (bl2.mono HB1.out.size);clear ow2 bl2 hrd)
  | (clear tk3;go_at_call 46;refine (HWI.out y2 v2 HA2.out).mono ?_;rintro e3 y3 ⟨vb,rfl,ow3,bl3⟩
     obtain ⟨ab,nb,cb,hvb⟩:=isSl_form ow3.isSl;subst hvb;have HO3:Hid (OwnB y3 y2.heap.size (.slice ab nb cb) (batchB (wholeM m2))):=ow3;have HA3:Hid (ReadsA y3 v2 (wholeM m2)):=HA2.out.below bl3;have HB3:Hid (Below w.heap.size w y3):=HB2.out.trans (bl3.mono HB2.out.size);clear ow3 bl3)
  | (clear tk4;go_at_call 11;refine (HCK.out y3 v2 HA3.out).mono ?_;rintro e4 y4 ⟨rfl,bl4⟩
     have HO4:Hid (OwnB y4 y2.heap.size (.slice ab nb cb) (batchB (wholeM m2))):=HO3.out.below bl4 (Nat.le_refl _);have HB4:Hid (Below w.heap.size w y4):=HB3.out.trans (bl4.mono HB3.out.size);have c3:y4.cell? ⟨gs,0,none⟩ = some (.pointer (some ⟨lg,0,none⟩)):=(HS.out y4 HB4.out).1.sb.cell 0;clear bl4))
 go_ret
 exact ⟨rfl,HB4.out⟩
theorem DoS.weak {w wr:World} {gm n:Nat} {K K':Value → Bs → Prop} {m:KM} {V:Bs → Value} (h:DoS w gm n K m V wr) (hk:∀ v t,K v t → K' v t):DoS w gm n K' m V wr:=⟨h.mp,fun s t ht => hk _ _ (h.kk s t ht),h.mu⟩
theorem sApply_of {X:Value → Prop} {w:World} {gs gd lg gm n:Nat} {P Q:Nat → Prop} {V:Bs → Value} {m:KM} {D D':DkT} {J J':JnT} (h:StM w gs gd lg gm n P Q V m D J) (v:Value) (ps:List (ActT × Value)) (hst:Sta (Un P Q) w (fun W => RdP W v ps ∧ (∀ p ∈ ps,Reads W p.2 p.1.data) ∧ ReadsA W v (ps.map (·.1)))) (hsl:∀ p ∈ ps,isSl p.2 = true ∧ p.1.key.length ≤ 1000000 ∧ p.1.data.length ≤ 1048576) (hz:okZ (ps.map (·.1))) (hck:chkL (ps.map (·.1)) = 0) (h0:ps ≠ []) (hn:n + ps.length < 10000000) (hpl:ps.length < 1000000) (hX:∀ s t,getM m s = some t → X (V s)) (hXn:∀ (W:World) (base:Nat) (v:Value) (t:Bs),OwnB W base v t → w.heap.size ≤ base → X v)
 (hrc:∀ W,Below w.heap.size w W → Calls Tryz.prog 53 #[.pointer (some ⟨gs,0,none⟩),v] W fun e w' => e = .returned (.int .i64 0) ∧ ∃ P' Q',Mut (Un P Q) W w' ∧ Grew W (Un P Q) (Un P' Q') ∧ StM w' gs gd lg gm n P' Q' V m D' J') :
 Calls Tryz.prog 23 #[.pointer (some ⟨gs,0,none⟩),v] w fun e w' => e = .returned (.int .i64 0) ∧ ∃ P' Q' V',StM w' gs gd lg gm (n + ps.length) P' Q' V' (doneM m (ps.map (·.1))) D' J' ∧ Mut (Um P Q gm) w w' ∧ Grew w (Un P Q) (Un P' Q') ∧ ∀ s t,getM (doneM m (ps.map (·.1))) s = some t → X (V' s):=by
 obtain ⟨l,HL⟩:=sqn (ps.map (·.1))
 rw [← HL.out] at hst hz hck ⊢
 have HRC:Hid (∀ W,Below w.heap.size w W → Calls Tryz.prog 53 #[.pointer (some ⟨gs,0,none⟩),v] W fun e w' => e = .returned (.int .i64 0) ∧ ∃ P' Q',Mut (Un P Q) W w' ∧ Grew W (Un P Q) (Un P' Q') ∧ StM w' gs gd lg gm n P' Q' V m D' J'):=hrc
 have hcc:=sCheck_any v l w hst.now.2.2 (by have:=hz.n;omega)
 rw [hck] at hcc
 have HCK:Hid (Calls Tryz.prog 11 #[v] w fun e w' => e = .returned (.int .i64 0) ∧ Below w.heap.size w w'):=hcc
 obtain ⟨N,HN⟩:=sqn (ps.length)
 obtain ⟨ad,cp,hv⟩:=hst.now.1.form
 rw [← HN.out] at hv
 subst hv
 have fz:¬ ((N:Int) = 0):=by
  have h1:0 < ps.length:=List.length_pos_iff.2 h0
  have h2:=HN.out
  omega
 have HCP:Hid (∀ W,RdP W (.slice ad N cp) ps → (∀ p ∈ ps,Reads W p.2 p.1.data) → Calls Tryz.prog 55 #[.slice ad N cp] W fun e w' => ∃ v' qs,e = .returned v' ∧ OwnA w' W.heap.size v' qs ∧ qs.map (·.1) = l ∧ Below W.heap.size W w'):=fun W h1 h2 => by
  rw [HL.out]
  exact sCopies_any _ ps h1 (fun p hp => (hsl p hp).1) h2 (fun p hp => Nat.le_trans (hsl p hp).2.2 (by decide)) hpl
 have HQS:Hid (∀ qs:List (ActT × Value),qs.map (·.1) = l → qs.length = N ∧ ∀ q ∈ qs,q.1.key.length ≤ 1000000 ∧ q.1.data.length ≤ 1048576):=fun qs hq => by
  rw [HL.out] at hq
  have hle:(qs.map (·.1)).length = (ps.map (·.1)).length:=by rw [hq]
  rw [List.length_map,List.length_map] at hle
  refine ⟨by rw [HN.out,hle],fun q hqm => ?_⟩
  have h1:q.1 ∈ ps.map (·.1):=by rw [← hq];exact List.mem_map_of_mem hqm
  obtain ⟨p,hp,e⟩:=List.mem_map.1 h1
  rw [← e]
  exact (hsl p hp).2
 have HST:Hid (Sta (Un P Q) w (fun W => RdP W (.slice ad N cp) ps ∧ (∀ p ∈ ps,Reads W p.2 p.1.data) ∧ ReadsA W (.slice ad N cp) l)):=hst
 have HNN:Hid (n + N < 10000000):=by show _ < _;rw [HN.out];exact hn
 have HXX:Hid ((∀ s t,getM m s = some t → X (V s)) ∧ ∀ (W:World) (base:Nat) (v:Value) (t:Bs),OwnB W base v t → w.heap.size ≤ base → X v):=⟨hX,hXn⟩
 have HNM:Hid (¬ gs = gm):=fun e => h.mp.ne h.sb e.symm
 rw [← HN.out]
 clear h hst hsl hz hck h0 hn hpl hcc hrc hX hXn
 go_enter Tryz.func23,Tryz.ntmps23
 obtain ⟨tk0,tk1⟩:=sqk2
 go_upto_region 7 with (first
  | (clear tk0;go_at_call 11;refine (HCK.out).mono ?_;rintro e0 y0 ⟨rfl,bl0⟩
     have HB0:Hid (Below w.heap.size w y0):=bl0;clear bl0)
  | (clear tk1;go_at_call 53;refine (HRC.out y0 HB0.out).mono ?_;rintro e1 y1 ⟨rfl,P',Q',mu1,gr1,hs1⟩
     have HS:Hid (StM y1 gs gd lg gm n P' Q' V m D' J'):=hs1;have HMU:Hid (Mut (Un P Q) w y1 ∧ Grew w (Un P Q) (Un P' Q')):=⟨(mut_below HB0.out _).trans (fun _ _ h => h) mu1,fun k hk => (gr1 k hk).elim Or.inl (fun h => Or.inr (Nat.le_trans HB0.out.size h))⟩
     clear mu1 gr1 hs1))
 have HS1:Hid (StM y1.drew gs gd lg gm n P' Q' V m D' J'):=HS.out.below (Below.refl _ _).drew
 have HX1:Hid (RdP y1.drew (.slice ad N cp) ps ∧ ∀ p ∈ ps,Reads y1.drew p.2 p.1.data):=⟨(HST.out.at HMU.out.1.drew).1,(HST.out.at HMU.out.1.drew).2.1⟩
 refine wp_region_held_drew (S:=fun wx => Blk wx gs [.pointer (some ⟨lg,0,none⟩),.map (some gm)] 99) (by kernel_rfl) HS.out.sb.drew ?_
 intro hS
 refine tkc 0 (.pointer (some ⟨gs,0,none⟩)) rfl hS ?_
 simp only [Act.put,sq]
 refine tkc 1 (.pointer (some ⟨gs,0,none⟩)) rfl hS ?_
 simp only [Act.put,sq]
 refine tkc 2 (.pointer (some ⟨gs,1,none⟩)) rfl hS ?_
 simp only [Act.put,sq]
 refine tka 3 (.map (some gm)) rfl (fun wx hx => by (have c0:wx.cell? ⟨gs,1,none⟩ = some (.map (some gm)):=hx.cell 1;simp [go_sem,c0])) hS ?_
 simp only [Act.put,sq]
 refine tkc 4 (.slice ad N cp) rfl hS ?_
 simp only [Act.put,sq]
 refine wpAnyH_enter 5 (by kernel_rfl) rfl (by rfl) (f:=55) (args:=#[.slice ad N cp]) (by simp [go_sem]) (HCP.out _ HX1.out.1 HX1.out.2) ?_
 rintro e2 y2 ⟨v2,qs,rfl,ow2,hq2,bl2⟩
 have hS2:=HS1.out.below bl2
 refine ⟨_,rfl,hS2.sb,?_⟩
 simp only [Act.put,sq]
 obtain ⟨hqn,hqz⟩:=HQS.out qs hq2
 have hdo:=sDo_any (fun v t => (Sta (Um P' Q' gm) y2 (fun W => Reads W v t) ∧ t.length ≤ 1048576) ∧ X v) hS2.mp (fun s t ht => ⟨hS2.tx s t ht,HXX.out.1 s t ht⟩) v2 qs ow2.rdp (fun q hq => ⟨(hqz q hq).1,(ow2.dat q hq).isSl,fun _ => ⟨⟨(ow2.dat q hq).st (fun k hk => HS1.out.ltM k hk),(hqz q hq).2⟩,HXX.out.2 _ _ _ _ (ow2.dat q hq) HMU.out.1.size⟩⟩) (by rw [hqn];exact HNN.out)
 refine wpAnyH_enter 6 (by kernel_rfl) rfl (by rfl) (f:=54) (args:=#[.map (some gm),v2]) (by simp [go_sem]) hdo ?_
 rintro e3 y3 ⟨rfl,V',hI⟩
 rw [hq2,hqn] at hI
 have hS3:=hS2.done (DoS.weak hI (fun _ _ h => h.1))
 refine ⟨_,rfl,hS3.sb,?_⟩
 simp only [Act.put,sq]
 have HF:Hid (StM y3 gs gd lg gm (n + N) P' Q' V' (doneM m l) D' J' ∧ Mut (Um P Q gm) w y3 ∧ Grew w (Un P Q) (Un P' Q') ∧ ∀ s t,getM (doneM m l) s = some t → X (V' s)):=by
  refine ⟨hS3,?_,HMU.out.2,fun s t ht => (hI.kk s t ht).2⟩
  have m1:Mut (Um P Q gm) w y1.drew:=⟨HMU.out.1.os,HMU.out.1.tape,HMU.out.1.output,HMU.out.1.size,fun k hk hn => HMU.out.1.block k hk (fun hx => hn (Or.inl hx))⟩
  exact (m1.trans (fun _ _ h => h) (mut_below bl2 _)).trans (fun _ _ h => Or.inr h) hI.mu
 clear hS hS2 hS3 hI hdo ow2 hq2 bl2 hqn hqz
 refine wpAnyH_done (by kernel_rfl) ?_ _
 go_wp2
 go_ret
 exact ⟨rfl,P',Q',V',HF.out⟩
def RsR (w:World) (gs gd lg gm n:Nat) (P Q:Nat → Prop) (V:Bs → Value) (m m2:KM) (D:DkT) (J:JnT) (e:Ending) (w':World):Prop:=
 ∃ P' Q',Mut (Un P Q) w w' ∧ Grew w (Un P Q) (Un P' Q') ∧ (((chkL (wholeM m2) = 0 ∧ rsX (anewM m2) (sizeD D) = 0) ∧ e = .returned (.int .i64 0) ∧ StM w' gs gd lg gm n P' Q' V m (rstD J D (anewM m2)) (rstJ J D (anewM m2))) ∨ (¬ (chkL (wholeM m2) = 0 ∧ rsX (anewM m2) (sizeD D) = 0) ∧ e = .returned (.int .i64 13) ∧ StM w' gs gd lg gm n P' Q' V m D J))
theorem sRestart_any {w:World} {gs gd lg gm n:Nat} {P Q:Nat → Prop} {V:Bs → Value} {m:KM} {D:DkT} {J:JnT} (h:StM w gs gd lg gm n P Q V m D J) (hK:KOk w) (hp:StP m D J) (hg:J.gen + 1 < 1000000) (v:Value) (ps:List (ActT × Value)) (hst:Sta (Un P Q) w (fun W => RdP W v ps ∧ (∀ p ∈ ps,Reads W p.2 p.1.data) ∧ ReadsA W v (ps.map (·.1)))) (hsl:∀ p ∈ ps,isSl p.2 = true ∧ p.1.key.length ≤ 1000000 ∧ p.1.data.length ≤ 1048576) (h60:ps.length ≤ 60) (h2:sumA (ps.map (·.1)) ≤ 20000) (hn:n + ps.length < 10000000) :
 Calls Tryz.prog 80 #[.pointer (some ⟨gs,0,none⟩),v] w fun e w' => RsR w gs gd lg gm n P Q V m (doneM m (ps.map (·.1))) D J e w':=by
 have hbd:=hp.done (l:=ps.map (·.1)) (by rw [List.length_map];exact h60) h2
 have hup:Rise (doneM m (ps.map (·.1))):=hp.up.done _
 have fin:∀ e w',chkL (wholeM (doneM m (ps.map (·.1)))) = 0 → (e = .returned (.int .i64 (rstX J D (anewM (doneM m (ps.map (·.1)))))) ∧ ∃ P' Q',Mut (Un P Q) w w' ∧ Grew w (Un P Q) (Un P' Q') ∧ (rstX J D (anewM (doneM m (ps.map (·.1)))) ≠ 14 → StM w' gs gd lg gm n P' Q' V m (rstD J D (anewM (doneM m (ps.map (·.1))))) (rstJ J D (anewM (doneM m (ps.map (·.1))))))) → RsR w gs gd lg gm n P Q V m (doneM m (ps.map (·.1))) D J e w':=fun e w' hc hx => by
  obtain ⟨h3,P',Q',h4,h5,h6⟩:=hx
  refine ⟨P',Q',h4,h5,?_⟩
  by_cases hr:rsX (anewM (doneM m (ps.map (·.1)))) (sizeD D) = 0
  · have h7:=(hp.anew hup hg hr).1
    rw [h7] at h3 h6;exact Or.inl ⟨⟨hc,hr⟩,h3,h6 (by decide)⟩
  · obtain ⟨h7,h8,h9⟩:=hp.full hbd.2.2 hr
    rw [h7,h8,h9] at h6;rw [h7] at h3;exact Or.inr ⟨fun h => hr h.2,h3,h6 (by decide)⟩
 by_cases h0:doneM m (ps.map (·.1)) = []
 · refine (sRestart_none h hK hp v ps hst hsl h60 h2 hn h0).mono (fun e w' hx => fin e w' ?_ hx)
   rw [h0]
   rfl
 · rcases chkL_or (wholeM (doneM m (ps.map (·.1)))) with hc | hc
   · exact (sRestart_full h hK hp v ps hst hsl h60 h2 hn h0 hc).mono (fun e w' hx => fin e w' hc hx)
   · refine (sRestart_bad h hK hp v ps hst hsl h60 h2 hn h0 hc).mono (fun e w' hx => ?_)
     exact ⟨P,Q,mut_below hx.2 _,Grew.refl _ _,Or.inr ⟨(fun hh => by rw [hc] at hh;cases hh.1),hx.1,h.below hx.2⟩⟩
theorem sRecord_not {w:World} {gs gd lg gm n:Nat} {P Q:Nat → Prop} {V:Bs → Value} {m:KM} {D:DkT} {J:JnT} (h:StM w gs gd lg gm n P Q V m D J) (hK:KOk w) (hp:StP m D J) (hg:J.gen + 1 < 1000000) (v:Value) (ps:List (ActT × Value)) (hst:Sta (Un P Q) w (fun W => RdP W v ps ∧ (∀ p ∈ ps,Reads W p.2 p.1.data) ∧ ReadsA W v (ps.map (·.1)))) (hsl:∀ p ∈ ps,isSl p.2 = true ∧ p.1.key.length ≤ 1000000 ∧ p.1.data.length ≤ 1048576) (h60:ps.length ≤ 60) (h2:sumA (ps.map (·.1)) ≤ 20000) (hn:n + ps.length < 10000000) (hf:¬ (batchB (ps.map (·.1))).length ≤ roomZ J.l (sizeD D)) :
 Calls Tryz.prog 53 #[.pointer (some ⟨gs,0,none⟩),v] w fun e w' => RsR w gs gd lg gm n P Q V m (doneM m (ps.map (·.1))) D J e w':=by
 obtain ⟨nr,HNR⟩:=sqn (roomZ J.l (sizeD D))
 rw [← HNR.out] at hf
 have h4:Calls Tryz.prog 78 #[.pointer (some ⟨lg,0,none⟩)] w fun e w' => e = .returned (.int .i64 (nr:Int)) ∧ Below w.heap.size w w':=by
  obtain ⟨vr,us,hm,hQ⟩:=id h.pk.lg
  have h1:=hp.okJ.fit
  have h2:=hp.okJ.hi
  have h3:=sizeL_eq J.l
  unfold hsD at h1
  have h4:=jRoom_any hm.lb (by omega) (by omega)
  rw [show min 1048576 (64 * (sizeD D / 2 - (1 + secL J.l)) - 57) = nr from by rw [HNR.out,roomZ];omega] at h4
  exact h4
 have HRM:Hid (Calls Tryz.prog 78 #[.pointer (some ⟨lg,0,none⟩)] w fun e w' => e = .returned (.int .i64 (nr:Int)) ∧ Below w.heap.size w w'):=h4
 have hz:okZ (ps.map (·.1)):=okZ_light (by rw [List.length_map];exact h60) h2
 have HWI:Hid (∀ W,ReadsA W v (ps.map (·.1)) → Calls Tryz.prog 46 #[v,.int .i64 (nr:Int)] W fun e w' => ∃ vb,e = .returned (.tuple #[vb,.bool false]) ∧ Below W.heap.size W w'):=fun W hr => by
  refine (sWithin_any v _ (nr:Int) W hr hz).mono (fun e w' h => ?_)
  obtain ⟨vb,e1,e2,e3⟩:=h
  have hle:¬ ((batchB (ps.map (·.1))).length:Int) ≤ (nr:Int):=by omega
  rw [decide_eq_false hle] at e1
  exact ⟨vb,e1,e3⟩
 obtain ⟨m2,HM2⟩:=sqn (doneM m (ps.map (·.1)))
 have HRS:Hid (∀ W,Below w.heap.size w W → Calls Tryz.prog 80 #[.pointer (some ⟨gs,0,none⟩),v] W fun e w' => RsR w gs gd lg gm n P Q V m m2 D J e w'):=fun W hb => by
  refine (sRestart_any (h.below hb) (hK.below hb hK.lt) hp hg v ps (hst.below hb) hsl h60 h2 hn).mono (fun e w' hx => ?_)
  rw [← HM2.out] at hx
  obtain ⟨P',Q',h5,h6,h7⟩:=hx
  exact ⟨P',Q',(mut_below hb _).trans (fun _ _ h => h) h5,fun k hk => (h6 k hk).elim Or.inl (fun h => Or.inr (Nat.le_trans hb.size h)),h7⟩
 rw [← HM2.out]
 have HR:Hid (∀ W,Below w.heap.size w W → ReadsA W v (ps.map (·.1)) ∧ StM W gs gd lg gm n P Q V m D J):=fun W hb => ⟨hst.now.2.2.below hb,h.below hb⟩
 have c0:w.cell? ⟨gs,0,none⟩ = some (.pointer (some ⟨lg,0,none⟩)):=h.sb.cell 0
 obtain ⟨ad,nn,cp,hv⟩:∃ a n c,v = .slice a n c:=by obtain ⟨a,c,h⟩:=hst.now.1.form;exact ⟨a,_,c,h⟩
 subst hv
 clear h hK hp hg hst hsl h60 h2 hn hf h4 hz
 go_enter Tryz.func53,Tryz.ntmps53
 obtain ⟨tk0,tk1,tk2⟩:=sqk3
 go_wp2_with (first
  | (clear tk0;go_at_call 78;refine (HRM.out).mono ?_;rintro e0 y0 ⟨rfl,bl0⟩
     have HB0:Hid (Below w.heap.size w y0):=bl0;clear bl0)
  | (clear tk1;go_at_call 46;refine (HWI.out y0 (HR.out y0 HB0.out).1).mono ?_;rintro e1 y1 ⟨vb,rfl,bl1⟩
     have HB1:Hid (Below w.heap.size w y1):=HB0.out.trans (bl1.mono HB0.out.size);clear bl1)
  | (clear tk2;go_at_call 80;refine (HRS.out y1 HB1.out).mono ?_;rintro e2 y2 hx
     obtain ⟨x,hxe⟩:∃ x:Int,e2 = .returned (.int .i64 x):=by
      obtain ⟨_,_,_,_,⟨_,h,_⟩ | ⟨_,h,_⟩⟩:=hx
      · exact ⟨_,h⟩
      · exact ⟨_,h⟩
     subst hxe;have HF:Hid (RsR w gs gd lg gm n P Q V m m2 D J (.returned (.int .i64 x)) y2):=hx;clear hx))
 go_ret
 exact HF.out
theorem sApply_no {w:World} {gs:Nat} (v:Value) (l:List ActT) (hr:ReadsA w v l) (hl:l.length ≤ 1000000) (hc:chkL l ≠ 0 ∨ l = []):Calls Tryz.prog 23 #[.pointer (some ⟨gs,0,none⟩),v] w fun e w' => e = .returned (.int .i64 (chkL l)) ∧ Below w.heap.size w w':=by
 obtain ⟨N,HN⟩:=sqn (l.length)
 obtain ⟨ad,cp,hv⟩:=hr.form
 rw [← HN.out] at hv
 subst hv
 obtain ⟨cx,HC⟩:=sqn (chkL l)
 have hk:=sCheck_any _ l w hr (by omega)
 rw [← HC.out] at hk ⊢
 have HK:Hid (Calls Tryz.prog 11 #[.slice ad N cp] w fun e w' => e = .returned (.int .i64 cx) ∧ Below w.heap.size w w'):=hk
 by_cases h0:cx = 0
 · subst h0
   have hz:N = 0:=by
    have h1:=HC.out
    rcases hc with h | h
    · exact absurd h1.symm h
    · rw [HN.out,h];rfl
   subst hz;clear hr hl hc hk
   go_enter Tryz.func23,Tryz.ntmps23
   go_wp2_with (first
    | (go_at_call 11;refine (HK.out).mono ?_;rintro e0 y0 ⟨rfl,bl0⟩
       have HB0:Hid (Below w.heap.size w y0):=bl0;clear bl0))
   go_ret;exact ⟨rfl,HB0.out⟩
 · have q1:(cx != 0) = true:=by rw [bne_iff_ne];exact h0
   clear hr hl hc hk
   go_enter Tryz.func23,Tryz.ntmps23
   go_wp2_with (first
    | (go_at_call 11;refine (HK.out).mono ?_;rintro e0 y0 ⟨rfl,bl0⟩
       have HB0:Hid (Below w.heap.size w y0):=bl0;clear bl0))
   go_ret;exact ⟨rfl,HB0.out⟩
theorem sApply_full {w:World} {gs:Nat} {K:World → Prop} (v:Value) (l:List ActT) (hr:ReadsA w v l) (hl:l.length ≤ 1000000) (hc:chkL l = 0) (h0:l ≠ []) (hrc:∀ W,Below w.heap.size w W → Calls Tryz.prog 53 #[.pointer (some ⟨gs,0,none⟩),v] W fun e w' => e = .returned (.int .i64 13) ∧ K w'):Calls Tryz.prog 23 #[.pointer (some ⟨gs,0,none⟩),v] w fun e w' => e = .returned (.int .i64 13) ∧ K w':=by
 obtain ⟨N,HN⟩:=sqn (l.length)
 obtain ⟨ad,cp,hv⟩:=hr.form
 rw [← HN.out] at hv
 subst hv
 have hk:=sCheck_any _ l w hr (by omega)
 rw [hc] at hk
 have HK:Hid (Calls Tryz.prog 11 #[.slice ad N cp] w fun e w' => e = .returned (.int .i64 0) ∧ Below w.heap.size w w'):=hk
 have HRC:Hid (∀ W,Below w.heap.size w W → Calls Tryz.prog 53 #[.pointer (some ⟨gs,0,none⟩),.slice ad N cp] W fun e w' => e = .returned (.int .i64 13) ∧ K w'):=hrc
 have fz:¬ ((N:Int) = 0):=by
  have h1:0 < l.length:=List.length_pos_iff.2 h0
  have h2:=HN.out
  omega
 clear hr hl hc h0 hrc hk
 go_enter Tryz.func23,Tryz.ntmps23
 obtain ⟨tk0,tk1⟩:=sqk2
 go_wp2_with (first
  | (clear tk0;go_at_call 11;refine (HK.out).mono ?_;rintro e0 y0 ⟨rfl,bl0⟩
     have HB0:Hid (Below w.heap.size w y0):=bl0;clear bl0)
  | (clear tk1;go_at_call 53;refine (HRC.out y0 HB0.out).mono ?_;rintro e1 y1 ⟨rfl,hk1⟩
     have HF:Hid (K y1):=hk1;clear hk1))
 go_ret
 exact ⟨rfl,HF.out⟩
structure ApR (X:Value → Prop) (w:World) (gs gd lg gm n:Nat) (P Q:Nat → Prop) (m:KM) (D:DkT) (J:JnT) (l:List ActT) (n':Nat) (P' Q':Nat → Prop) (V':Bs → Value) (D':DkT) (J':JnT) (w':World):Prop where
 st:StM w' gs gd lg gm n' P' Q' V' (apyM m J.l l (sizeD D)) D' J'
 sp:StP (apyM m J.l l (sizeD D)) D' J'
 rs:J'.l = apyL m J.l l (sizeD D)
 sz:sizeD D' = sizeD D
 ge:J'.gen ≤ J.gen + 1
 nn:n' ≤ n + l.length
 mu:Mut (Um P Q gm) w w'
 gr:Grew w (Un P Q) (Un P' Q')
 xx:∀ s t,getM (apyM m J.l l (sizeD D)) s = some t → X (V' s)
theorem wide_un {P Q:Nat → Prop} {gm:Nat} {w w':World} (h:Mut (Un P Q) w w'):Mut (Um P Q gm) w w':=⟨h.os,h.tape,h.output,h.size,fun k hk hn => h.block k hk (fun hx => hn (Or.inl hx))⟩
theorem sApply_any (X:Value → Prop) {w:World} {gs gd lg gm n:Nat} {P Q:Nat → Prop} {V:Bs → Value} {m:KM} {D:DkT} {J:JnT} (h:StM w gs gd lg gm n P Q V m D J) (hK:KOk w) (hp:StP m D J) (hg:J.gen + 1 < 1000000) (v:Value) (ps:List (ActT × Value)) (hst:Sta (Un P Q) w (fun W => RdP W v ps ∧ (∀ p ∈ ps,Reads W p.2 p.1.data) ∧ ReadsA W v (ps.map (·.1)))) (hsl:∀ p ∈ ps,isSl p.2 = true) (h60:ps.length ≤ 60) (h2:sumA (ps.map (·.1)) ≤ 20000) (hn:n + ps.length < 10000000) (hX:∀ s t,getM m s = some t → X (V s)) (hXn:∀ (W:World) (base:Nat) (v:Value) (t:Bs),OwnB W base v t → w.heap.size ≤ base → X v) :
 Calls Tryz.prog 23 #[.pointer (some ⟨gs,0,none⟩),v] w fun e w' => e = .returned (.int .i64 (apyX m J.l (ps.map (·.1)) (sizeD D))) ∧ ∃ n' P' Q' V' D' J',ApR X w gs gd lg gm n P Q m D J (ps.map (·.1)) n' P' Q' V' D' J' w':=by
 obtain ⟨l,HL⟩:=sqn (ps.map (·.1))
 have hll:l.length = ps.length:=by rw [HL.out,List.length_map]
 have h2l:=h2
 rw [← HL.out] at h2l
 have hw:∀ a ∈ l,wtA a ≤ 20000:=fun a ha => Nat.le_trans (wt_sum l a ha) h2l
 have hs2:∀ p ∈ ps,isSl p.2 = true ∧ p.1.key.length ≤ 1000000 ∧ p.1.data.length ≤ 1048576:=fun p hp => by
  have h3:=hw p.1 (by rw [HL.out];exact List.mem_map_of_mem hp)
  unfold wtA at h3
  exact ⟨hsl p hp,by omega,by omega⟩
 have hz:okZ l:=okZ_light (by rw [hll];exact h60) h2l
 rw [← HL.out]
 by_cases hc:chkL l = 0 ∧ l ≠ []
 case neg =>
  have hx:apyX m J.l l (sizeD D) = chkL l:=if_neg hc
  have hm:apyM m J.l l (sizeD D) = m:=by
   unfold apyM;rw [hx]
   by_cases h0:chkL l = 0
   · have hl0:l = []:=by
      by_cases e:l = []
      · exact e
      · exact absurd ⟨h0,e⟩ hc
     rw [if_pos h0,hl0]
     rfl
   · rw [if_neg h0]
  have hl':apyL m J.l l (sizeD D) = J.l:=if_neg hc
  refine (sApply_no v l (by rw [HL.out];exact hst.now.2.2) (by omega) (by
   by_cases e:l = []
   · exact Or.inr e
   · exact Or.inl (fun h0 => hc ⟨h0,e⟩))).mono (fun e w' hx2 => ?_)
  rw [hx]
  refine ⟨hx2.1,n,P,Q,V,D,J,?_⟩
  exact ⟨by rw [hm];exact h.below hx2.2,by rw [hm];exact hp,hl'.symm,rfl,by omega,by omega,mut_below hx2.2 _,Grew.refl _ _,by rw [hm];exact hX⟩
 case pos =>
  obtain ⟨hc0,hl0⟩:=hc
  have hp0:ps ≠ []:=fun e => hl0 (by rw [HL.out,e];rfl)
  by_cases hf:(batchB l).length ≤ roomZ J.l (sizeD D)
  · have ha:=(room_batch J.l l (sizeD D)).1 hf
    obtain ⟨f1,f2,f3,f4,f5⟩:=hp.fit (l:=l) ha;have hx:apyX m J.l l (sizeD D) = 0:=by unfold apyX;rw [if_pos ⟨hc0,hl0⟩,if_pos ha]
    have hm:apyM m J.l l (sizeD D) = doneM m l:=if_pos hx;have hl':apyL m J.l l (sizeD D) = J.l ++ [batchB l]:=by unfold apyL;rw [if_pos ⟨hc0,hl0⟩,if_pos ha]
    refine (sApply_of (D':=appD J D (batchB l)) (J':=appJ J D (batchB l)) h v ps hst hs2 (by rw [← HL.out];exact hz) (by rw [← HL.out];exact hc0) hp0 hn (by omega) hX hXn (fun W hb => ?_)).mono (fun e w' hx2 => ?_)
    · refine (sRecord_fit (h.below hb) (hK.below hb hK.lt) hp.okJ v l (by rw [HL.out];exact hst.now.2.2.below hb) hz hf).mono (fun e w' h3 => ?_)
      obtain ⟨h4,P',Q',h5,h6,h7⟩:=h3;rw [f1] at h4 h7;exact ⟨h4,P',Q',h5,h6,h7 (by decide)⟩
    · obtain ⟨h4,P',Q',V',h5,h6,h7,h8⟩:=hx2
      rw [← HL.out] at h5 h8;rw [hx];exact ⟨h4,_,P',Q',V',_,_,by rw [hm];exact h5,by rw [hm];exact f2,by rw [hl'];exact f3,f4,by omega,by rw [hll];exact Nat.le_refl _,h6,h7,by rw [hm];exact h8⟩
  · have ha:apX J.l (batchB l) (sizeD D) ≠ 0:=fun e => hf ((room_batch J.l l (sizeD D)).2 e)
    have hrec:∀ W,Below w.heap.size w W → Calls Tryz.prog 53 #[.pointer (some ⟨gs,0,none⟩),v] W fun e w' => RsR W gs gd lg gm n P Q V m (doneM m l) D J e w':=fun W hb => by
     have h3:=sRecord_not (h.below hb) (hK.below hb hK.lt) hp hg v ps (hst.below hb) hs2 h60 h2 hn (by rw [← HL.out];exact hf)
     rw [← HL.out] at h3;exact h3
    by_cases hr:chkL (wholeM (doneM m l)) = 0 ∧ rsX (anewM (doneM m l)) (sizeD D) = 0
    · have hx:apyX m J.l l (sizeD D) = 0:=by unfold apyX;rw [if_pos ⟨hc0,hl0⟩,if_neg ha,if_pos hr]
      have hm:apyM m J.l l (sizeD D) = doneM m l:=if_pos hx;have hl':apyL m J.l l (sizeD D) = anewM (doneM m l):=by unfold apyL;rw [if_pos ⟨hc0,hl0⟩,if_neg ha,if_pos hr]
      obtain ⟨f1,f2,f3,f4,f5⟩:=hp.anew (hp.up.done l) hg hr.2;refine (sApply_of (D':=rstD J D (anewM (doneM m l))) (J':=rstJ J D (anewM (doneM m l))) h v ps hst hs2 (by rw [← HL.out];exact hz) (by rw [← HL.out];exact hc0) hp0 hn (by omega) hX hXn (fun W hb => ?_)).mono (fun e w' hx2 => ?_)
      · refine (hrec W hb).mono (fun e w' h3 => ?_)
        obtain ⟨P',Q',h5,h6,⟨_,h7,h8⟩ | ⟨h7,_⟩⟩:=h3
        · exact ⟨h7,P',Q',h5,h6,h8⟩
        · exact absurd hr h7
      · obtain ⟨h4,P',Q',V',h5,h6,h7,h8⟩:=hx2
        rw [← HL.out] at h5 h8;rw [hx];exact ⟨h4,_,P',Q',V',_,_,by rw [hm];exact h5,by rw [hm];exact f2,by rw [hl'];exact f3,f4,by omega,by rw [hll];exact Nat.le_refl _,h6,h7,by rw [hm];exact h8⟩
    · have hx:apyX m J.l l (sizeD D) = 13:=by unfold apyX;rw [if_pos ⟨hc0,hl0⟩,if_neg ha,if_neg hr]
      have hm:apyM m J.l l (sizeD D) = m:=by unfold apyM;rw [hx,if_neg (by decide)]
      have hl':apyL m J.l l (sizeD D) = J.l:=by unfold apyL;rw [if_pos ⟨hc0,hl0⟩,if_neg ha,if_neg hr]
      refine (sApply_full (K:=fun w' => ∃ P' Q',Mut (Un P Q) w w' ∧ Grew w (Un P Q) (Un P' Q') ∧ StM w' gs gd lg gm n P' Q' V m D J) v l (by rw [HL.out];exact hst.now.2.2) (by omega) hc0 hl0 (fun W hb => ?_)).mono (fun e w' hx2 => ?_)
      · refine (hrec W hb).mono (fun e w' h3 => ?_)
        obtain ⟨P',Q',h5,h6,⟨h7,_⟩ | ⟨_,h7,h8⟩⟩:=h3
        · exact absurd h7 hr
        · exact ⟨h7,P',Q',(mut_below hb _).trans (fun _ _ h => h) h5,fun k hk => (h6 k hk).elim Or.inl (fun h => Or.inr (Nat.le_trans hb.size h)),h8⟩
      · obtain ⟨h4,P',Q',h5,h6,h7⟩:=hx2
        rw [hx];exact ⟨h4,n,P',Q',V,D,J,by rw [hm];exact h7,by rw [hm];exact hp,hl'.symm,rfl,by omega,by omega,wide_un h5,h6,by rw [hm];exact hX⟩
def SeqG {α:Type} (n gf:Nat) (lb:Array Value) (encs:α → Array Value) (G:α → World → Prop) (Kp:World → World → Prop) (S Sp:List α → Prop) (w:World):Prop:=
 ∀ (l:Nat) (J Jx:List α → World → Prop) (W:World),Below w.heap.size w W → (∀ s X Y,J s X → Below X.heap.size X Y → J s Y) → (∀ s X Y,Jx s X → Below X.heap.size X Y → Jx s Y) →
  (∀ pre x X,J pre X → Sp (pre ++ [x]) → G x X → YieldAt Fence.wide (n - 1) Tryz.prog l (encs x) X fun e Y => (e = .returned (.bool true) ∧ J (pre ++ [x]) Y ∧ Kp X Y) ∨ (e = .returned (.bool false) ∧ Jx (pre ++ [x]) Y)) →
  J [] W → CallsIn Fence.wide n Tryz.prog gf (#[.func (.yield l) #[] #[]] ++ lb) W fun e Y => (∃ v,e = .returned v) ∧ ((∃ xs,S xs ∧ J xs Y) ∨ ∃ pre,Sp pre ∧ Jx pre Y)
theorem own_grows {β:Type} {B:Nat} {I:β → World → Prop} (h:OwnFrom B I) {s:β} {X Y:World} (hs:I s X) (hb:Below X.heap.size X Y):I s Y:=
 h s X Y none hs ⟨hb.os,hb.tape,hb.output,hb.size,fun k hk _ => hb.block k hk⟩ (fun r e => by cases e)
structure LpAt (L:LoopState → Option Code → Loop) (n:Nat) (s:LoopState) (p:Option Code) (X:World):Prop where
 lp:X.heap[n + 1]? = some (.loop (L s p))
 df:X.heap[n]? = some (.deferred (some []))
theorem LpAt.grows {L:LoopState → Option Code → Loop} {n:Nat} {s:LoopState} {p:Option Code} {X Y:World} (h:LpAt L n s p X) (hb:Below X.heap.size X Y):LpAt L n s p Y:=
 ⟨(hb.block _ (Array.getElem?_eq_some_iff.1 h.lp).1).trans h.lp,(hb.block _ (Array.getElem?_eq_some_iff.1 h.df).1).trans h.df⟩
theorem LpAt.put {L:LoopState → Option Code → Loop} {n:Nat} {s:LoopState} {p:Option Code} {X:World} (h:LpAt L n s p X) (s':LoopState) (p':Option Code):LpAt L n s' p' (X.putObj (n + 1) (.loop (L s' p'))):=
 ⟨World.putObj_heap_same (Array.getElem?_eq_some_iff.1 h.lp).1,(World.putObj_heap_other (by omega)).trans h.df⟩
theorem LpAt.others {L:LoopState → Option Code → Loop} {n:Nat} {s:LoopState} {p:Option Code} {X Y:World} (h:LpAt L n s p X) (hk:KeepsOthers X Y):LpAt L n s p Y:=⟨hk.same _ _ h.lp rfl,hk.same _ _ h.df rfl⟩
theorem range_good {α:Type} {n:Nat} {g:Operand} {ps:Array Tmp} {assign body:Code} {Q:Exit → Act → World → Prop} {a:Act} {w:World} (h1:1 ≤ n) {gf:Nat} {lb:Array Value} (hg:a.eval g = .func (.func gf) #[] lb) (eg:∀ args w,(callFunc gf args).run Tryz.prog w = .ok (.enter gf args) w)
 {encs:α → Array Value} {G:α → World → Prop} {Kp:World → World → Prop} {S Sp:List α → Prop} {w0:World} (hseq:SeqG (n - 1) gf lb encs G Kp S Sp w0) (hKt:∀ {A B C:World},Kp A B → Kp B C → Kp A C) (hKb:∀ (W:World) (l:Nat) (o o':Obj),w.heap.size ≤ l → W.heap[l]? = some o → o.isCells = false → o.isWalk = false → Kp W (W.putObj l o')) (hb0:Below w0.heap.size w0 w) (hps:∀ x,(encs x).size = ps.size)
 (I:List α → World → Prop) (Ix:Code → List α → World → Prop) (hI:OwnFrom w.heap.size I) (hIx:∀ c,OwnFrom w.heap.size (Ix c)) (hG:OwnFrom w.heap.size G) (h0:I [] w) (a₁:α → Act)
 (hassign:∀ (l:Nat) (x:α) (W:World) (K:Act → World → Prop),K (a₁ x) W → assign.wpIn (Fence.wide.inRound l) (n - 1 - 1) Tryz.prog (Exit.then K (fun _ _ _ => False)) { tmps:=(ps.zip (encs x)).foldl (fun t (p,v) => t.setIfInBounds p v) a.tmps,defers:=[] } W)
 (hbody:∀ (l:Nat) (pre:List α) (x:α) (W:World),I pre W → Sp (pre ++ [x]) → G x W → body.wpIn (Fence.wide.inRound l) (n - 1 - 1) Tryz.prog (ownPostK Kp I Ix (pre ++ [x]) W) (a₁ x) W)
 (hdone:∀ (D:Nat) (xs:List α) (W:World),w.heap.size ≤ D → S xs → I xs W → W.heap[D]? = some (.deferred (some [])) → Q .normal { a with defers:={ target:=.collected D,args:=#[] } :: a.defers } W)
 (hstop:∀ (D:Nat) (c:Code) (pre:List α) (W:World),w.heap.size ≤ D → Sp pre → Ix c pre W → W.heap[D]? = some (.deferred (some [])) → c.wpIn Fence.wide n Tryz.prog Q { a with defers:={ target:=.collected D,args:=#[] } :: a.defers } W) :
 (Code.rangeFunc g ps assign body).wpIn Fence.wide n Tryz.prog Q a w:=by
 refine wpIn_rangeFunc fun fn hfn => ?_
 obtain ⟨L,hL⟩:∃ L:LoopState → Option Code → Loop,∀ s p,L s p = { state:=s,pending:=p,fn:=fn,tmps:=a.tmps,params:=ps,assign:=assign,body:=body,defers:=w.heap.size }:=⟨fun s p => { state:=s,pending:=p,fn:=fn,tmps:=a.tmps,params:=ps,assign:=assign,body:=body,defers:=w.heap.size },fun _ _ => rfl⟩
 obtain ⟨V,hV⟩:∃ V,V = (w.alloc (.deferred (some []))).alloc (.loop (L .ready none)):=⟨_,rfl⟩
 have hbw:Below w.heap.size w V:=by
  rw [hV]
  exact ((Below.refl _ w).alloc (Nat.le_refl _) _).alloc (by simp) _
 have hat:LpAt L w.heap.size .ready none V:=by
  rw [hV]
  refine ⟨?_,(Below.heap_alloc _ _ _ (by simp)).trans (World.alloc_heap_new w _)⟩
  have:=World.alloc_heap_new (w.alloc (.deferred (some []))) (.loop (L .ready none))
  rwa [World.size_alloc] at this
 refine ⟨w.heap.size + 1,[{ target:=.collected w.heap.size,args:=#[] }],V,{ target:=.fn (.func gf) lb,args:=#[.func (.yield (w.heap.size + 1)) #[] #[]] },V,gf,#[.func (.yield (w.heap.size + 1)) #[] #[]] ++ lb,V,?_,?_,fun _ _ => trivial,?_,fun _ => h1,?_⟩
 · rw [hV,hL]
   exact run_enterLoop_outer _ _ _ _ _
 · simp only [resolve,hg]
   simp [go_sem]
 · simp [invoke,go_sem,eg]
 have hput:∀ {β:Type} {K:β → World → Prop},OwnFrom w.heap.size K → ∀ {b:β} {X:World} {s:LoopState} {p:Option Code},K b X → LpAt L w.heap.size s p X → ∀ s' p',K b (X.putObj (w.heap.size + 1) (.loop (L s' p'))):=fun hK b X s p hb hl s' p' => hK.putObj _ hb (by omega) hl.lp rfl
 have hkp:∀ {X:World} {s:LoopState} {p:Option Code},LpAt L w.heap.size s p X → ∀ s' p',Kp X (X.putObj (w.heap.size + 1) (.loop (L s' p'))):=fun hl s' p' => hKb _ _ _ _ (by omega) hl.lp rfl rfl
 refine (hseq (w.heap.size + 1) (fun pre X => I pre X ∧ LpAt L w.heap.size .ready none X) (fun pre X => ∃ c,Ix c pre X ∧ LpAt L w.heap.size .done (some c) X) V (hb0.trans (hbw.mono hb0.size)) (fun s X Y h hb => ⟨own_grows hI h.1 hb,h.2.grows hb⟩) (fun s X Y h hb => by obtain ⟨c,h2,h3⟩:=h;exact ⟨c,own_grows (hIx c) h2 hb,h3.grows hb⟩) ?_ ⟨own_grows hI h0 hbw,hat⟩).mono ?_
 · rintro pre x X ⟨hi,hl⟩ hsp hgx
   have hy:=run_yield (P:=Tryz.prog) (args:=encs x) hl.lp (by rw [hL];exact hps x)
   rw [hL] at hy;have hbg:=run_beginRound (P:=Tryz.prog) hl.lp (by rw [hL])
   have hbz:({ L .ready none with state:=.busy }:Loop) = L .busy none:=by rw [hL,hL]
   rw [hbz] at hbg;refine ⟨fn,_,assign,body,hy,roundIn_of_wpIn hfn (hassign _ x X _ ⟨_,hbg,?_⟩)⟩;have hl2:=hl.put .busy none;refine wpIn_mono (hbody _ pre x _ (hput hI hi hl .busy none) hsp (hput hG hgx hl .busy none)) ?_
   have hend:∀ (j:Option Code) (Z:World),KeepsOthers (X.putObj (w.heap.size + 1) (.loop (L .busy none))) Z → LpAt L w.heap.size .busy none Z ∧ (Instr.endRound (w.heap.size + 1) j).run Tryz.prog Z = .ok (.bool j.isNone) (Z.putObj (w.heap.size + 1) (.loop (L (if j.isNone then .ready else .done) j))):=fun j Z hk => by
    have hz:=hl2.others hk;have he:=run_endRound (P:=Tryz.prog) j hz.lp;have e2:({ L .busy none with state:=if j.isNone then .ready else .done,pending:=j }:Loop) = L (if j.isNone then .ready else .done) j:=by rw [hL,hL]
    rw [e2] at he;exact ⟨hz,he⟩
   have hjump:∀ (c:Code) (Z:World),KeepsOthers (X.putObj (w.heap.size + 1) (.loop (L .busy none))) Z → Ix c (pre ++ [x]) Z → ∃ c2,Ix c2 (pre ++ [x]) (Z.putObj (w.heap.size + 1) (.loop (L .done (some c)))) ∧ LpAt L w.heap.size .done (some c2) (Z.putObj (w.heap.size + 1) (.loop (L .done (some c)))):=fun c Z hk hz => ⟨c,hput (hIx c) hz (hend (some c) Z hk).1 _ _,(hend (some c) Z hk).1.put _ _⟩
   intro e b Z hp
   cases e with
   | normal =>
    obtain ⟨hk,hkz,hiz⟩:=hp;obtain ⟨hz,he⟩:=hend none Z hk;exact ⟨_,_,he,Or.inl ⟨rfl,⟨hput hI hiz hz .ready none,hz.put .ready none⟩,hKt (hKt (hkp hl .busy none) hkz) (hkp hz .ready none)⟩⟩
   | ret => exact ⟨_,_,(hend (some .ret) Z hp.1).2,Or.inr ⟨rfl,hjump .ret Z hp.1 hp.2⟩⟩
   | exit id => exact ⟨_,_,(hend (some (.exit id)) Z hp.1).2,Or.inr ⟨rfl,hjump (.exit id) Z hp.1 hp.2⟩⟩
   | goto t => exact ⟨_,_,(hend (some (.goto t)) Z hp.1).2,Or.inr ⟨rfl,hjump (.goto t) Z hp.1 hp.2⟩⟩
   | panic ch => exact hp.elim
   | outgrown => exact hp.elim
 · rintro e Y ⟨⟨v,rfl⟩,⟨xs,hS,hi,hl⟩ | ⟨pre,hSp,c,hi,hl⟩⟩
   · have he:=run_endLoop (P:=Tryz.prog) hl.lp (by rw [hL];simp)
     have e2:({ L .ready none with state:=.exhausted }:Loop) = L .exhausted none:=by rw [hL,hL]
     rw [e2,show (L .ready none).pending = none by rw [hL]] at he
     exact ⟨none,_,he,hdone _ xs _ (Nat.le_refl _) hS (hput hI hi hl .exhausted none) (hl.put .exhausted none).df⟩
   · have he:=run_endLoop (P:=Tryz.prog) hl.lp (by rw [hL];simp)
     have e2:({ L .done (some c) with state:=.exhausted }:Loop) = L .exhausted (some c):=by rw [hL,hL]
     rw [e2,show (L .done (some c)).pending = some c by rw [hL]] at he
     exact ⟨some c,_,he,hstop _ c pre _ (Nat.le_refl _) hSp (hput (hIx c) hi hl .exhausted (some c)) (hl.put .exhausted (some c)).df⟩
end Go.Proofs.YtheincjkoefalaaGreatDoor
namespace Go.Proofs.YtheincjkoefalaaGreatDoor
open Go.RowKit Go.Shelf
attribute [local go_sem] Oper.semAt_some
theorem roundIn_wide15 {m k:Nat} {P:Program} {l:Nat} {f:FuncId} {tmps:Array Value} {assign body:Code} {w:World} {R:Ending → World → Prop} (h:RoundIn Fence.wide m P l f tmps assign body w R):RoundIn Fence.wide k P l f tmps assign body w R:=⟨h.1,fun c cs _ => h.2 c cs (room_wide _)⟩
section
variable {n:Nat} {P:Program} {ops:Array Oper} {Q:Exit → Act → World → Prop}
theorem wpOpIn_val {i:Nat} {o:Oper} {v:Value} {a:Act} {w w':World} {K:Act → World → Prop} (hi:ops[i]? = some o) (hw:Region.wanted o (yielded ops a.tmps) = true) (he:(execOp a.eval o).run P w = .ok (.value v) w') (h:K (a.put o.dst v) w'):wpOpIn Fence.wide n P ops Q i K a w:=by
 unfold wpOpIn
 simp only [hi,hw,if_true]
 refine ⟨fun _ _ => trivial,?_⟩
 show Oper.uponIn _ _ _ _ _ _ _ ((execOp a.eval o).run P w)
 rw [he]
 exact h
theorem wpOpIn_enter {i:Nat} {o:Oper} {f:Nat} {args:Array Value} {a:Act} {w:World} {K:Act → World → Prop} {R:Ending → World → Prop} (hi:ops[i]? = some o) (hw:Region.wanted o (yielded ops a.tmps) = true) (he:(execOp a.eval o).run P w = .ok (.enter f args) w) (hR:Calls P f args w R) (h:∀ e w',R e w' → ∃ v,e = .returned v ∧ K (a.put o.dst v) w'):wpOpIn Fence.wide n P ops Q i K a w:=by
 unfold wpOpIn
 simp only [hi,hw,if_true]
 refine ⟨fun _ _ => trivial,?_⟩
 show Oper.uponIn _ _ _ _ _ _ _ ((execOp a.eval o).run P w)
 rw [he]
 refine ⟨fun h => (nomatch h),callsIn_wide.2 (hR.mono fun e w' hr => ?_)⟩
 obtain ⟨v,rfl,hk⟩:=h e w' hr
 exact hk
theorem wpOpIn_round {i:Nat} {o:Oper} {l:Nat} {fn:FuncId} {tmps:Array Value} {assign body:Code} {a:Act} {w:World} {K:Act → World → Prop} {R:Ending → World → Prop} {m:Nat} (hi:ops[i]? = some o) (hw:Region.wanted o (yielded ops a.tmps) = true) (he:(execOp a.eval o).run P w = .ok (.round l fn tmps assign body) w) (hR:RoundIn Fence.wide m P l fn tmps assign body w R) (h:∀ e w',R e w' → ∃ v,e = .returned v ∧ K (a.put o.dst v) w'):wpOpIn Fence.wide n P ops Q i K a w:=by
 unfold wpOpIn
 simp only [hi,hw,if_true]
 refine ⟨fun _ _ => trivial,?_⟩
 show Oper.uponIn _ _ _ _ _ _ _ ((execOp a.eval o).run P w)
 rw [he,Oper.uponIn_round]
 refine ⟨fun h => (by cases h),(roundIn_wide15 hR).mono fun e w' hr => ?_⟩
 obtain ⟨v,rfl,hk⟩:=h e w' hr
 exact hk
theorem wpAnyIn_pairs {md:Region.Mode} {fuel:Nat} {listed:Array Bool} {a:Act} {w:World} (i j:Nat) (hr:Region.ready md ops listed = [i,j]) (h1:wpOpIn Fence.wide n P ops Q i (wpAnyIn Fence.wide n P md ops Q fuel (listed.setIfInBounds i true)) a w) (h2:wpOpIn Fence.wide n P ops Q j (wpAnyIn Fence.wide n P md ops Q fuel (listed.setIfInBounds j true)) a w):wpAnyIn Fence.wide n P md ops Q (fuel + 1) listed a w:=by
 refine wpAnyIn_all hr (by simp) fun k hk => ?_
 simp only [List.mem_cons,List.not_mem_nil,or_false] at hk
 rcases hk with rfl | rfl
 · exact h1
 · exact h2
theorem wpAnyIn_lone {md:Region.Mode} {fuel:Nat} {listed:Array Bool} {a:Act} {w:World} (i:Nat) (hr:Region.ready md ops listed = [i]) (h1:wpOpIn Fence.wide n P ops Q i (wpAnyIn Fence.wide n P md ops Q fuel (listed.setIfInBounds i true)) a w):wpAnyIn Fence.wide n P md ops Q (fuel + 1) listed a w:=by
 refine wpAnyIn_all hr (by simp) fun k hk => ?_
 simp only [List.mem_singleton] at hk
 rw [hk];exact h1
end
theorem sAll_any {w:World} {gs gm n:Nat} {lv:Value} {V:Bs → Value} {m:KM} (hsb:Blk w gs [lv,.map (some gm)] 99) (hm:MapM w gm n V m) (hml:m.length < 1000000) :
 Calls Tryz.prog 34 #[.pointer (some ⟨gs,0,none⟩)] w fun e w' => ∃ gl v,e = .returned (.func (.func 66) #[] #[.pointer (some ⟨gl,0,none⟩)]) ∧ Blk w' gl [v] 22 ∧ w'.ownsRow w.heap.size 62 3 v m.length (rowP (setP V m)) ∧ Below w.heap.size w w' ∧ w.heap.size ≤ gl:=by
 have c1:w.cell? ⟨gs,1,none⟩ = some (.map (some gm)):=hsb.cell 1
 have HSE:Hid (Calls Tryz.prog 65 #[.map (some gm)] w fun e w' => ∃ v,e = .returned v ∧ w'.ownsRow w.heap.size 62 3 v m.length (rowP (setP V m)) ∧ Below w.heap.size w w'):=sSetting_any hm hml
 clear hsb hm hml
 go_enter Tryz.func34,Tryz.ntmps34
 go_wp2_with (first
  | (go_at_call 65;refine (HSE.out).mono ?_;rintro e0 y0 ⟨v0,rfl,ow0,bl0⟩
     obtain ⟨a0,n0,k0,hv0⟩:∃ a n c,v0 = .slice a n c:=by
      obtain ⟨_,⟨h,_⟩ | ⟨g,cap,cur,h,_⟩⟩:=ow0
      · exact ⟨_,_,_,h⟩
      · exact ⟨_,_,_,h⟩
     subst hv0;have HO:Hid (y0.ownsRow w.heap.size 62 3 (.slice a0 n0 k0) m.length (rowP (setP V m)) ∧ Below w.heap.size w y0):=⟨ow0,bl0⟩;clear ow0 bl0))
 go_ret
 have hbl:=below_alloc y0 (.cells #[.slice a0 n0 k0] 22)
 refine ⟨y0.heap.size,.slice a0 n0 k0,rfl,Blk.new y0 [.slice a0 n0 k0] 22,?_,HO.out.2.trans (hbl.mono HO.out.2.size),HO.out.2.size⟩
 exact HO.out.1.kept (row:=none) ⟨hbl.os,hbl.tape,hbl.output,hbl.size,fun k hk _ => hbl.block k hk⟩ (by cases (Value.slice a0 n0 k0).ownBlock <;> simp)
abbrev KvT:=(Bs × Bs) × (Option Addr × Nat × Nat)
abbrev encsK (x:KvT):Array Value:=#[.string (strB x.1.1),mkS x.2]
theorem ownB_low {w:World} {base B:Nat} {v:Value} {l:Bs} (h:OwnB w base v l) (hB:B ≤ base):OwnB w B v l:=by
 obtain ⟨h1,⟨h2,h3⟩ | ⟨g,cap,cur,h2,h3,h4⟩⟩:=h
 · exact ⟨h1,Or.inl ⟨h2,h3⟩⟩
 · exact ⟨h1,Or.inr ⟨g,cap,cur,h2,Nat.le_trans hB h3,h4⟩⟩
def SK (m:KM):List KvT → Prop:=fun xs => xs.map (·.1) = m
def SpK (m:KM):List KvT → Prop:=fun xs => ∃ k,k ≤ m.length ∧ xs.map (·.1) = m.take k
theorem all_stops (n:Nat) {n₀:Nat} {R:Nat → Prop} {gl:Nat} {v:Value} {V:Bs → Value} {m:KM} (w:World) (hn:n₀ ≤ w.heap.size) (hB:Blk w gl [v] 22) (hgl:gl < n₀ ∧ ¬ R gl) (hst:∀ W,KpJ n₀ R w W → RdP W v (setP V m) ∧ ∀ p ∈ setP V m,Reads W p.2 p.1.data) (hsl:∀ p ∈ setP V m,isSl p.2 = true ∧ p.1.data.length ≤ 1048576) (hml:m.length < 1000000) :
 SeqG n 66 #[.pointer (some ⟨gl,0,none⟩)] encsK (fun x X => OwnB X n₀ (mkS x.2) x.1.2) (KpJ n₀ R) (SK m) (SpK m) w:=fun lab J Jx W hW hJ hJx hY h0 => by
 obtain ⟨N,HN⟩:=sqn (m.length)
 obtain ⟨ad,cp,hv⟩:=(hst w (KpJ.refl _ _ _)).1.form
 rw [setP_len,← HN.out] at hv
 subst hv
 have HST:Hid (∀ W,KpJ n₀ R w W → RdP W (.slice ad N cp) (setP V m) ∧ ∀ p ∈ setP V m,Reads W p.2 p.1.data):=hst
 have HSL:Hid (∀ p ∈ setP V m,isSl p.2 = true ∧ p.1.data.length ≤ 1048576):=hsl
 have HKW:Hid (KpJ n₀ R w W):=KpJ.below hW hn
 have HNW:Hid (n₀ ≤ w.heap.size):=hn
 have HBS:Hid (∀ W,KpJ n₀ R w W → Blk W gl [.slice ad N cp] 22):=fun W h => h.blk hB hgl.1 hgl.2
 have HML:Hid (N < 1000000):=by rw [HN.out];exact hml
 have HY:Aside (∀ pre x X,J pre X → SpK m (pre ++ [x]) → OwnB X n₀ (mkS x.2) x.1.2 → YieldAt Fence.wide (n - 1) Tryz.prog lab (encsK x) X fun e Y => (e = .returned (.bool true) ∧ J (pre ++ [x]) Y ∧ KpJ n₀ R X Y) ∨ (e = .returned (.bool false) ∧ Jx (pre ++ [x]) Y)):=hY
 have HJB:Hid (∀ s X Y,J s X → Below X.heap.size X Y → J s Y):=hJ
 have HJ0:Hid (J [] W):=h0
 have c0:W.cell? ⟨gl,0,none⟩ = some (.slice ad N cp):=(HBS.out W HKW.out).cell 0
 clear hB hW hY h0 hJ hJx hst hsl hn hml
 refine callsIn_wide.2 ?_
 simp only [List.append_toArray,List.cons_append,List.nil_append]
 go_enter Tryz.func66,Tryz.ntmps66
 go_wp2
 clear c0
 go_loopw [7] (fun i wr => ∃ k:Nat,k ≤ N ∧ i = .int .i64 (k:Int) ∧ Hid (∃ pre,pre.map (·.1) = m.take k ∧ J pre wr) ∧ Hid (KpJ n₀ R w wr)) (fun i _ => N - (intOf i).toNat)
 case atStart => exact ⟨0,Nat.zero_le _,rfl,⟨[],rfl,HJ0.out⟩,HKW⟩
 case round =>
  clear HJ0 HKW
  obtain ⟨k,hkn,rfl,HJK,HKP⟩:=hrel
  by_cases hlt:k < N
  case neg =>
   obtain rfl:k = N:=by omega
   have hlk:¬ ((k:Int) < (k:Int)):=by omega
   go_wp2
   go_end0
   obtain ⟨pre,hpre,hj⟩:=HJK.out;refine ⟨⟨_,rfl⟩,Or.inl ⟨pre,?_,hj⟩⟩;show pre.map (·.1) = m;rw [hpre,List.take_of_length_le (by rw [← HN.out];exact Nat.le_refl _)]
  case pos =>
   obtain ⟨q,hq⟩:∃ q,m[k]? = some q:=⟨_,List.getElem?_eq_getElem (by rw [← HN.out];exact hlt)⟩
   obtain ⟨ky,da⟩:=q;have hp:(setP V m)[k]? = some (⟨ky,true,da⟩,V ky):=by rw [setP,List.getElem?_map,hq];rfl
   obtain ⟨hk2,hk4⟩:=HSL.out _ (List.mem_of_getElem? hp);obtain ⟨hrd,hdt⟩:=HST.out wr HKP.out;have hda:=hdt _ (List.mem_of_getElem? hp);obtain ⟨b,off,e1,hrw⟩:=hrd.at hp;subst e1;simp only at hk2 hk4 hda hrw;obtain ⟨av,nv,cv,hvd⟩:=isSl_form hk2;rw [hvd] at hda hrw;obtain ⟨sk,HSK⟩:=sqn (strB ky)
   have HRW:Hid (wr.rangeAt b (off + k * 3) [.string sk,.bool true,.slice av nv cv]):=by
    show wr.rangeAt _ _ _;rw [HSK.out];exact hrw
   have HDA:Hid (Reads wr (.slice av nv cv) da ∧ da.length ≤ 1048576):=⟨hda,hk4⟩;have HTK:Hid (m.take (k + 1) = m.take k ++ [(ky,da)]):=by show _ = _;rw [List.take_add_one,hq];rfl
   have HBW:Hid (Below wr.heap.size wr wr):=Below.refl _ _;have k0:(0:Int) ≤ (k:Int):=by omega
   have k3:(k:Int) < (N:Int):=by omega
   have f5:IntKind.i64.wrap ((k:Int) + 1) = (k:Int) + 1:=by have:=HML.out;rw [IntKind.wrap_i64];omega
   clear hp hk2 hk4 hrd hdt hda hrw hvd hq;obtain ⟨tk0,tk1,tk2,tk3⟩:=sqk4
   go_upto_region 3 with (first
    | (clear tk3;with_reducible refine wpSeq_idxA (.tmp 5) (.tmp 7) b off N cp k hlt ?_ ?_ ?_ ?_ ?_
       · rfl
       · rfl
       · rfl
       · rfl)
    | (clear tk0;with_reducible refine wpSeq_loadW 62 (.tmp 9) b (off + k * 3) [.string sk,.bool true,.slice av nv cv] _ HRW.out Tryz.underlying62 rfl (info_act15 _ _ _) ?_ ?_ ?_ ?_
       · rfl
       · rfl
       · rfl)
    | (clear tk1;with_reducible refine wpSeq_allocA ?_ ?_ ?_
       · rfl
       · rfl
       intro g5 y1 nn;have H5:Hid (Blk y1 g5 zA 62):=nn.blk;have HG5:Hid (wr.heap.size ≤ g5):=nn.ge;have HB1:Hid (Below wr.heap.size wr y1):=nn.below;clear nn)
    | (clear tk2;with_reducible refine wpSeq_storeRow 62 (.tmp 4) (.tmp 10) g5 zA [.string sk,.bool true,.slice av nv cv] H5.out rfl (info_act15 _ _ _) (one_act _ _ _ _ _) ?_ ?_ ?_ ?_ ?_
       · rfl
       · rfl
       · rfl
       · rfl
       intro y2 sr;have HB2:Hid (Below wr.heap.size wr y2.drew):=(HB1.out.trans (sr.only.below HG5.out HB1.out.size)).drew;have H52:Hid (Blk y2.drew g5 [.string sk,.bool true,.slice av nv cv] 62):=sr.blk.drew;clear sr))
   have HCL:Hid (Calls Tryz.prog 64 #[.slice av nv cv] y2.drew fun e w' => ∃ v',e = .returned v' ∧ OwnB w' y2.drew.heap.size v' da ∧ Below y2.drew.heap.size y2.drew w'):=bclone_any _ da _ (HDA.out.1.below HB2.out) (Nat.le_trans HDA.out.2 (by decide))
   have HYD:Hid (∀ y3 ab nb cb,OwnB y3 y2.drew.heap.size (.slice ab nb cb) da → Below y2.drew.heap.size y2.drew y3 → ∃ pre,(pre ++ [((ky,da),(ab,nb,cb))]).map (·.1) = m.take (k + 1) ∧ YieldAt Fence.wide (n - 1) Tryz.prog lab #[.string sk,.slice ab nb cb] y3 fun e Y => (e = .returned (.bool true) ∧ J (pre ++ [((ky,da),(ab,nb,cb))]) Y ∧ KpJ n₀ R w Y) ∨ (e = .returned (.bool false) ∧ Jx (pre ++ [((ky,da),(ab,nb,cb))]) Y)):=fun y3 ab nb cb ho hb => by
    obtain ⟨pre,hpre,hj⟩:=HJK.out;have hwy:Below wr.heap.size wr y3:=HB2.out.trans (hb.mono HB2.out.size);have hnw:n₀ ≤ wr.heap.size:=Nat.le_trans HNW.out HKP.out.size;have hk3:KpJ n₀ R w y3:=HKP.out.trans (KpJ.below hwy hnw);have hmp:(pre ++ [((ky,da),(ab,nb,cb))]).map (·.1) = m.take (k + 1):=by rw [List.map_append,hpre,HTK.out];rfl
    have hy:=HY.out pre ((ky,da),(ab,nb,cb)) y3 (HJB.out _ _ _ hj hwy) ⟨k + 1,by rw [← HN.out];exact hlt,hmp⟩ (ownB_low ho (Nat.le_trans hnw HB2.out.size))
    refine ⟨pre,hmp,?_⟩;obtain ⟨fn,tmps,assign,body,hyr,hR⟩:=hy
    dsimp only [encsK] at hyr
    rw [← HSK.out] at hyr;exact ⟨fn,tmps,assign,body,hyr,hR.mono fun e Y h => h.imp (fun h => ⟨h.1,h.2.1,hk3.trans h.2.2⟩) id⟩
   have cK:∀ wx,Blk wx g5 [.string sk,.bool true,.slice av nv cv] 62 → wx.cell? ⟨g5,0,none⟩ = some (.string sk):=fun wx h => h.cell 0
   have cD:∀ wx,Blk wx g5 [.string sk,.bool true,.slice av nv cv] 62 → wx.cell? ⟨g5,2,none⟩ = some (.slice av nv cv):=fun wx h => h.cell 2
   have HCK:Hid (∀ wx,Blk wx g5 [.string sk,.bool true,.slice av nv cv] 62 → wx.cell? ⟨g5,0,none⟩ = some (.string sk)):=cK;have HCD:Hid (∀ wx,Blk wx g5 [.string sk,.bool true,.slice av nv cv] 62 → wx.cell? ⟨g5,2,none⟩ = some (.slice av nv cv)):=cD;have HNN:Hid (n = n):=rfl;clear cK cD HJK HDA HRW HB1 H5 HBW;refine (wpIn_wide (n:=n)).1 ?_;refine wpIn_region_any (by kernel_rfl) ?_
   change wpAnyIn _ _ _ _ _ _ _ _ _ (World.drew y2)
   refine wpAnyIn_take (i:=0) (v:=.func (.yield lab) #[] #[]) rfl rfl (by kernel_rfl) (by kernel_rfl) (by kernel_rfl) (fun _ _ _ h => h) ⟨Or.inl ⟨by rfl,fun wx => by simp [go_sem]⟩,fun _ => rfl⟩ ?_
   simp only [Act.put,sq];refine wpAnyIn_take (i:=1) (v:=.pointer (some ⟨g5,0,none⟩)) rfl rfl (by kernel_rfl) (by kernel_rfl) (by kernel_rfl) (fun _ _ _ h => h) ⟨Or.inl ⟨by rfl,fun wx => by simp [go_sem]⟩,fun _ => rfl⟩ ?_
   simp only [Act.put,sq];refine wpAnyIn_take (i:=3) (v:=.pointer (some ⟨g5,2,none⟩)) rfl rfl (by kernel_rfl) (by kernel_rfl) (by kernel_rfl) (fun _ _ _ h => h) ⟨Or.inl ⟨by rfl,fun wx => by simp [go_sem]⟩,fun _ => rfl⟩ ?_
   simp only [Act.put,sq];refine wpAnyIn_pairs 2 4 (by kernel_rfl) ?_ ?_
   · skip
     have cx:=HCK.out _ H52.out;refine wpOpIn_val (v:=.string sk) (w':=y2.drew) rfl (by rfl) (by simp [go_sem,cx]) ?_
     clear cx;simp only [Act.put,sq];refine wpAnyIn_lone 4 (by kernel_rfl) ?_
     have cx:=HCD.out _ H52.out;refine wpOpIn_val (v:=.slice av nv cv) (w':=y2.drew) rfl (by rfl) (by simp [go_sem,cx]) ?_
     clear cx;simp only [Act.put,sq];refine wpAnyIn_lone 5 (by kernel_rfl) ?_
     refine wpOpIn_enter (f:=64) (args:=#[.slice av nv cv]) rfl (by rfl) (by simp [go_sem]) HCL.out ?_
     rintro e3 y3 ⟨v3,rfl,ow3,bl3⟩;obtain ⟨ab,nb,cb,hv3⟩:=isSl_form ow3.isSl;subst hv3;have H53:Hid (Blk y3 g5 [.string sk,.bool true,.slice av nv cv] 62):=H52.out.below bl3 H52.out.lt;have HOW:Hid (OwnB y3 y2.drew.heap.size (.slice ab nb cb) da ∧ Below y2.drew.heap.size y2.drew y3):=⟨ow3,bl3⟩;clear ow3 bl3;refine ⟨_,rfl,?_⟩;simp only [Act.put,sq];refine wpAnyIn_lone 6 (by kernel_rfl) ?_
     obtain ⟨pre,hmp,fn,tmps,assign,body,hyr,hR⟩:=HYD.out y3 ab nb cb HOW.out.1 HOW.out.2;refine wpOpIn_round rfl (by rfl) (by simp [go_sem,hyr]) hR ?_
     rintro e4 y4 (⟨rfl,hj,hkp⟩ | ⟨rfl,hj⟩)
     · refine ⟨_,rfl,?_⟩
       simp only [Act.put,sq];refine wpAnyIn_lone 7 (by kernel_rfl) ?_
       refine wpOpIn_val (v:=.bool false) (w':=y4) rfl (by rfl) (by simp [go_sem]) ?_
       simp only [Act.put,sq];refine wpAnyIn_done (by kernel_rfl) ?_ _
       have HJ4:Hid (∃ pre,pre.map (·.1) = m.take (k + 1) ∧ J pre y4):=⟨_,hmp,hj⟩;have HK4:Hid (KpJ n₀ R w y4):=hkp;clear hj hkp hyr hR hmp
       gi_wp2
       go_wp2;go_roundw
       case rel => exact ⟨k + 1,hlt,rfl,HJ4,HK4⟩
       case measure => simp [intOf];omega
     · refine ⟨_,rfl,?_⟩
       simp only [Act.put,sq];refine wpAnyIn_lone 7 (by kernel_rfl) ?_
       refine wpOpIn_val (v:=.bool true) (w':=y4) rfl (by rfl) (by simp [go_sem]) ?_
       simp only [Act.put,sq];refine wpAnyIn_done (by kernel_rfl) ?_ _
       have HJ4:Hid (∃ pre,SpK m pre ∧ Jx pre y4):=⟨_,⟨k + 1,by rw [← HN.out];exact hlt,hmp⟩,hj⟩
       clear hj hyr hR hmp
       gi_wp2
       go_wp2;refine bodyPost_ret (results_none rfl _ _ _) rfl ?_;exact ⟨⟨_,rfl⟩,Or.inr HJ4.out⟩
   · skip
     have cx:=HCD.out _ H52.out;refine wpOpIn_val (v:=.slice av nv cv) (w':=y2.drew) rfl (by rfl) (by simp [go_sem,cx]) ?_
     clear cx;simp only [Act.put,sq];refine wpAnyIn_pairs 2 5 (by kernel_rfl) ?_ ?_
     · skip
       have cx:=HCK.out _ H52.out;refine wpOpIn_val (v:=.string sk) (w':=y2.drew) rfl (by rfl) (by simp [go_sem,cx]) ?_
       clear cx;simp only [Act.put,sq];refine wpAnyIn_lone 5 (by kernel_rfl) ?_
       refine wpOpIn_enter (f:=64) (args:=#[.slice av nv cv]) rfl (by rfl) (by simp [go_sem]) HCL.out ?_
       rintro e3 y3 ⟨v3,rfl,ow3,bl3⟩;obtain ⟨ab,nb,cb,hv3⟩:=isSl_form ow3.isSl;subst hv3;have H53:Hid (Blk y3 g5 [.string sk,.bool true,.slice av nv cv] 62):=H52.out.below bl3 H52.out.lt;have HOW:Hid (OwnB y3 y2.drew.heap.size (.slice ab nb cb) da ∧ Below y2.drew.heap.size y2.drew y3):=⟨ow3,bl3⟩;clear ow3 bl3;refine ⟨_,rfl,?_⟩;simp only [Act.put,sq];refine wpAnyIn_lone 6 (by kernel_rfl) ?_
       obtain ⟨pre,hmp,fn,tmps,assign,body,hyr,hR⟩:=HYD.out y3 ab nb cb HOW.out.1 HOW.out.2;refine wpOpIn_round rfl (by rfl) (by simp [go_sem,hyr]) hR ?_
       rintro e4 y4 (⟨rfl,hj,hkp⟩ | ⟨rfl,hj⟩)
       · refine ⟨_,rfl,?_⟩
         simp only [Act.put,sq];refine wpAnyIn_lone 7 (by kernel_rfl) ?_
         refine wpOpIn_val (v:=.bool false) (w':=y4) rfl (by rfl) (by simp [go_sem]) ?_
         simp only [Act.put,sq];refine wpAnyIn_done (by kernel_rfl) ?_ _
         have HJ4:Hid (∃ pre,pre.map (·.1) = m.take (k + 1) ∧ J pre y4):=⟨_,hmp,hj⟩;have HK4:Hid (KpJ n₀ R w y4):=hkp;clear hj hkp hyr hR hmp
         gi_wp2
         go_wp2;go_roundw
         case rel => exact ⟨k + 1,hlt,rfl,HJ4,HK4⟩
         case measure => simp [intOf];omega
       · refine ⟨_,rfl,?_⟩
         simp only [Act.put,sq];refine wpAnyIn_lone 7 (by kernel_rfl) ?_
         refine wpOpIn_val (v:=.bool true) (w':=y4) rfl (by rfl) (by simp [go_sem]) ?_
         simp only [Act.put,sq];refine wpAnyIn_done (by kernel_rfl) ?_ _
         have HJ4:Hid (∃ pre,SpK m pre ∧ Jx pre y4):=⟨_,⟨k + 1,by rw [← HN.out];exact hlt,hmp⟩,hj⟩
         clear hj hyr hR hmp
         gi_wp2
         go_wp2;refine bodyPost_ret (results_none rfl _ _ _) rfl ?_;exact ⟨⟨_,rfl⟩,Or.inr HJ4.out⟩
     · skip
       refine wpOpIn_enter (f:=64) (args:=#[.slice av nv cv]) rfl (by rfl) (by simp [go_sem]) HCL.out ?_
       rintro e3 y3 ⟨v3,rfl,ow3,bl3⟩;obtain ⟨ab,nb,cb,hv3⟩:=isSl_form ow3.isSl;subst hv3;have H53:Hid (Blk y3 g5 [.string sk,.bool true,.slice av nv cv] 62):=H52.out.below bl3 H52.out.lt;have HOW:Hid (OwnB y3 y2.drew.heap.size (.slice ab nb cb) da ∧ Below y2.drew.heap.size y2.drew y3):=⟨ow3,bl3⟩;clear ow3 bl3;refine ⟨_,rfl,?_⟩;simp only [Act.put,sq];refine wpAnyIn_lone 2 (by kernel_rfl) ?_
       have cx:=HCK.out _ H53.out;refine wpOpIn_val (v:=.string sk) (w':=y3) rfl (by rfl) (by simp [go_sem,cx]) ?_
       clear cx;simp only [Act.put,sq];refine wpAnyIn_lone 6 (by kernel_rfl) ?_
       obtain ⟨pre,hmp,fn,tmps,assign,body,hyr,hR⟩:=HYD.out y3 ab nb cb HOW.out.1 HOW.out.2;refine wpOpIn_round rfl (by rfl) (by simp [go_sem,hyr]) hR ?_
       rintro e4 y4 (⟨rfl,hj,hkp⟩ | ⟨rfl,hj⟩)
       · refine ⟨_,rfl,?_⟩
         simp only [Act.put,sq];refine wpAnyIn_lone 7 (by kernel_rfl) ?_
         refine wpOpIn_val (v:=.bool false) (w':=y4) rfl (by rfl) (by simp [go_sem]) ?_
         simp only [Act.put,sq];refine wpAnyIn_done (by kernel_rfl) ?_ _
         have HJ4:Hid (∃ pre,pre.map (·.1) = m.take (k + 1) ∧ J pre y4):=⟨_,hmp,hj⟩;have HK4:Hid (KpJ n₀ R w y4):=hkp;clear hj hkp hyr hR hmp
         gi_wp2
         go_wp2;go_roundw
         case rel => exact ⟨k + 1,hlt,rfl,HJ4,HK4⟩
         case measure => simp [intOf];omega
       · refine ⟨_,rfl,?_⟩
         simp only [Act.put,sq];refine wpAnyIn_lone 7 (by kernel_rfl) ?_
         refine wpOpIn_val (v:=.bool true) (w':=y4) rfl (by rfl) (by simp [go_sem]) ?_
         simp only [Act.put,sq];refine wpAnyIn_done (by kernel_rfl) ?_ _
         have HJ4:Hid (∃ pre,SpK m pre ∧ Jx pre y4):=⟨_,⟨k + 1,by rw [← HN.out];exact hlt,hmp⟩,hj⟩
         clear hj hyr hR hmp
         gi_wp2
         go_wp2;refine bodyPost_ret (results_none rfl _ _ _) rfl ?_;exact ⟨⟨_,rfl⟩,Or.inr HJ4.out⟩
end Go.Proofs.YtheincjkoefalaaGreatDoor
namespace Go.Proofs.YtheincjkoefalaaGreatDoor
open Go.RowKit
def RdV (t:TypeId) (w:World) (v:Value) (cs:List Value):Prop:=∃ ad cap,v = .slice ad cs.length cap ∧ cs.length ≤ cap ∧ (0 < cs.length → ∃ b off ar,ad = some ⟨b,off,none⟩ ∧ w.heap[b]? = some (.cells ar t (0,0)) ∧ ∀ (j:Nat) u,cs[j]? = some u → ar[off + j]? = some u)
def OwnR (t:TypeId) (w:World) (base:Nat) (v:Value) (cs:List Value):Prop:=w.ownsRow base t 1 v cs.length cs
theorem heap_lt {w:World} {b:Nat} {o:Obj} (h:w.heap[b]? = some o):b < w.heap.size:=(Array.getElem?_eq_some_iff.1 h).1
theorem RdV.nil (t:TypeId) (w:World):RdV t w (.slice none 0 0) []:=⟨none,0,rfl,Nat.le_refl _,fun h => by simp at h⟩
theorem RdV.form {t:TypeId} {w:World} {v:Value} {cs:List Value} (h:RdV t w v cs):∃ ad c,v = .slice ad cs.length c:=by
 obtain ⟨ad,cap,h1,_⟩:=h
 exact ⟨ad,cap,h1⟩
theorem RdV.at {t:TypeId} {w:World} {ad:Option Addr} {n c:Nat} {cs:List Value} (h:RdV t w (.slice ad n c) cs) {j:Nat} {u:Value} (hj:cs[j]? = some u):∃ b off,ad = some ⟨b,off,none⟩ ∧ w.cell? ⟨b,off + j,none⟩ = some u:=by
 obtain ⟨ad',cap,h1,h2,h3⟩:=h
 simp only [Value.slice.injEq] at h1
 obtain ⟨rfl,_,_⟩:=h1
 have hl:=(List.getElem?_eq_some_iff.1 hj).1
 obtain ⟨b,off,ar,h4,h5,h6⟩:=h3 (by omega)
 refine ⟨b,off,h4,?_⟩
 rw [cell_of_row w b (off + j) ar t (0,0) h5]
 exact h6 j u hj
theorem OwnR.nil (t:TypeId) (w:World) (base:Nat):OwnR t w base (.slice none 0 0) []:=World.ownsRow_nil _ _ _ _
theorem OwnR.rd {t:TypeId} {w:World} {base:Nat} {v:Value} {cs:List Value} (h:OwnR t w base v cs):RdV t w v cs:=by
 obtain ⟨h1,⟨rfl,h2⟩ | ⟨g,cap,cur,rfl,hg,hh,hc,hm,hs,ht⟩⟩:=h
 · have:cs = []:=List.eq_nil_of_length_eq_zero h2
   subst this;exact RdV.nil _ _
 · refine ⟨_,cap,rfl,hc,fun _ => ⟨g,0,cur,rfl,hh,fun j u hj => ?_⟩⟩
   have hl:=(List.getElem?_eq_some_iff.1 hj).1;rw [Nat.mul_one] at ht;rw [← ht,List.getElem?_take_of_lt hl] at hj
   simpa using hj
theorem OwnR.form {t:TypeId} {w:World} {base:Nat} {v:Value} {cs:List Value} (h:OwnR t w base v cs):∃ ad c,v = .slice ad cs.length c:=h.rd.form
theorem OwnR.lt {t:TypeId} {w:World} {base:Nat} {v:Value} {cs:List Value} (h:OwnR t w base v cs):∀ k,v.ownBlock = some k → base ≤ k ∧ k < w.heap.size:=fun k hk => World.ownsRow.lt h k hk
theorem OwnR.same {t:TypeId} {w w':World} {base:Nat} {v:Value} {cs:List Value} (h:OwnR t w base v cs) (hs:∀ (k:Nat) (ar:Array Value),w.heap[k]? = some (Obj.cells ar t (0,0)) → v.ownBlock = some k → w'.heap[k]? = w.heap[k]?):OwnR t w' base v cs:=by
 obtain ⟨h1,⟨rfl,h2⟩ | ⟨g,cap,cur,rfl,hg,hh,r⟩⟩:=h
 · exact ⟨h1,Or.inl ⟨rfl,h2⟩⟩
 · exact ⟨h1,Or.inr ⟨g,cap,cur,rfl,hg,by rw [hs g cur hh rfl];exact hh,r⟩⟩
theorem OwnR.below {t:TypeId} {w w':World} {base:Nat} {v:Value} {cs:List Value} (h:OwnR t w base v cs) (hb:Below w.heap.size w w'):OwnR t w' base v cs:=h.same (fun k _ hh _ => hb.block k (heap_lt hh))
theorem OwnR.mono {t:TypeId} {w:World} {base base':Nat} {v:Value} {cs:List Value} (h:OwnR t w base v cs) (hb:base' ≤ base):OwnR t w base' v cs:=by
 obtain ⟨h1,h2 | ⟨g,cap,cur,hv,hg,r⟩⟩:=h
 · exact ⟨h1,Or.inl h2⟩
 · exact ⟨h1,Or.inr ⟨g,cap,cur,hv,Nat.le_trans hb hg,r⟩⟩
theorem Tryz.infoStr:(Tryz.prog.info? 9).map (fun i => (i.zero,i.size,i.bytes)) = some (some (.string ⟨#[]⟩),1,16):=by kernel_rfl
theorem app_row (ts te:TypeId) (ht:Tryz.prog.underlying ts = some (.slice te)) (z:Value) (by_:Nat) (hinf:(Tryz.prog.info? te).map (fun i => (i.zero,i.size,i.bytes)) = some (some z,1,by_)) (hz:z.cells.size = 1) (hby:by_ ≤ 48) {o:Oper} {a:Act} {w:World} {K:Act → World → Prop} {Q:Exit → Act → World → Prop} (s x:Operand) (base:Nat) (v u:Value) (cs:List Value) (g:Nat)
 (hown:OwnR te w base v cs) (hb:Blk w g [u] te) (h1:u.oneCell' = true) (hlen:cs.length < 1000000) (hbase:base ≤ w.heap.size)
 (ho:o.op = .call { callee:=.builtin .append,args:=#[s,x],argTypes:=#[ts,ts] }) (hs:a.eval s = v) (hx:a.eval x = .slice (some ⟨g,0,none⟩) 1 1)
 (h:∀ v' w',OwnR te w' base v' (cs ++ [u]) → w.grownBy w' v.ownBlock → Below base w w' → K (a.put o.dst v') w'):o.wp Tryz.prog a w K Q:=by
 obtain ⟨i0,hi,hz0,hz1,hz2⟩:=info_parts hinf
 obtain ⟨v',w',hr,h2,h3,h4,h5⟩:=run_append_own_at (P:=Tryz.prog) w base ts o.type te i0 z 1 by_ ht hi hz0 hz1 hz2 hz (by decide) v cs.length cs hown ⟨g,0,none⟩ 1 1 [u] rfl (fun j q hj => by rw [Addr.add_mid,Nat.zero_add,hb.cell];exact hj) (fun q hq => by rw [List.mem_singleton.1 hq];exact h1) (by unfold maxLen;omega) (by have:=Nat.mul_le_mul (show cs.length + 1 ≤ 1000000 by omega) hby;omega) hbase
 unfold Oper.wp execOp
 simp only [ho,resolve,invoke,builtin,Sem.run_bind,Sem.run_pure,Result.andThen_ok,List.map_toArray,List.map_cons,List.map_nil,hs,hx,hr]
 refine h v' w' ?_ h3 ((Below.refl _ _).grown h3 hbase (fun k hk => (hown.lt k hk).1))
 unfold OwnR
 rw [List.length_append]
 exact h2
theorem wp_appK {o:Oper} {a:Act} {w:World} {K:Act → World → Prop} {Q:Exit → Act → World → Prop} (s x:Operand) (base:Nat) (v:Value) (u:ByteArray) (cs:List Value) (g:Nat)
 (hown:OwnR 9 w base v cs) (hb:Blk w g [.string u] 9) (hlen:cs.length < 1000000) (hbase:base ≤ w.heap.size)
 (ho:o.op = .call { callee:=.builtin .append,args:=#[s,x],argTypes:=#[40,40] }) (hs:a.eval s = v) (hx:a.eval x = .slice (some ⟨g,0,none⟩) 1 1)
 (h:∀ v' w',OwnR 9 w' base v' (cs ++ [.string u]) → w.grownBy w' v.ownBlock → Below base w w' → K (a.put o.dst v') w'):o.wp Tryz.prog a w K Q:=
 app_row 40 9 Tryz.underlying40 _ _ Tryz.infoStr rfl (by decide) s x base v _ cs g hown hb rfl hlen hbase ho hs hx h
theorem wpList_appK {ops:Array Oper} {rest:List Oper} {o:Oper} {a:Act} {w:World} {Q:Exit → Act → World → Prop} (s x:Operand) (base:Nat) (v:Value) (u:ByteArray) (cs:List Value) (g:Nat)
 (hown:OwnR 9 w base v cs) (hb:Blk w g [.string u] 9) (hlen:cs.length < 1000000) (hbase:base ≤ w.heap.size) (hgd:o.guard = none)
 (ho:o.op = .call { callee:=.builtin .append,args:=#[s,x],argTypes:=#[40,40] }) (hs:a.eval s = v) (hx:a.eval x = .slice (some ⟨g,0,none⟩) 1 1)
 (h:∀ v' w',OwnR 9 w' base v' (cs ++ [.string u]) → w.grownBy w' v.ownBlock → Below base w w' → wpList Tryz.prog ops Q rest (a.put o.dst v') w'):wpList Tryz.prog ops Q (o :: rest) a w:=
 wpList_plain hgd fun _ hK => wp_appK s x base v u cs g hown hb hlen hbase ho hs hx fun v' w' h2 h3 h4 => hK _ _ (h v' w' h2 h3 h4)
theorem wp_appT15 {o:Oper} {a:Act} {w:World} {K:Act → World → Prop} {Q:Exit → Act → World → Prop} (s x:Operand) (base:Nat) (v:Value) (u:Option Addr × Nat × Nat) (cs:List Value) (g:Nat)
 (hown:OwnR 23 w base v cs) (hb:Blk w g [mkS u] 23) (hlen:cs.length < 1000000) (hbase:base ≤ w.heap.size)
 (ho:o.op = .call { callee:=.builtin .append,args:=#[s,x],argTypes:=#[41,41] }) (hs:a.eval s = v) (hx:a.eval x = .slice (some ⟨g,0,none⟩) 1 1)
 (h:∀ v' w',OwnR 23 w' base v' (cs ++ [mkS u]) → w.grownBy w' v.ownBlock → Below base w w' → K (a.put o.dst v') w'):o.wp Tryz.prog a w K Q:=
 app_row 41 23 Tryz.underlying41 _ _ Tryz.infobsJ rfl (by decide) s x base v _ cs g hown hb rfl hlen hbase ho hs hx h
theorem wpList_appT15 {ops:Array Oper} {rest:List Oper} {o:Oper} {a:Act} {w:World} {Q:Exit → Act → World → Prop} (s x:Operand) (base:Nat) (v:Value) (u:Option Addr × Nat × Nat) (cs:List Value) (g:Nat)
 (hown:OwnR 23 w base v cs) (hb:Blk w g [mkS u] 23) (hlen:cs.length < 1000000) (hbase:base ≤ w.heap.size) (hgd:o.guard = none)
 (ho:o.op = .call { callee:=.builtin .append,args:=#[s,x],argTypes:=#[41,41] }) (hs:a.eval s = v) (hx:a.eval x = .slice (some ⟨g,0,none⟩) 1 1)
 (h:∀ v' w',OwnR 23 w' base v' (cs ++ [mkS u]) → w.grownBy w' v.ownBlock → Below base w w' → wpList Tryz.prog ops Q rest (a.put o.dst v') w'):wpList Tryz.prog ops Q (o :: rest) a w:=
 wpList_plain hgd fun _ hK => wp_appT15 s x base v u cs g hown hb hlen hbase ho hs hx fun v' w' h2 h3 h4 => hK _ _ (h v' w' h2 h3 h4)
theorem OwnB.toR {w:World} {base:Nat} {v:Value} {l:Bs} (h:OwnB w base v l):OwnR 5 w base v (cb l):=by unfold OwnR;rw [cb_len];exact h
theorem OwnR.toB {w:World} {base:Nat} {v:Value} {l:Bs} (h:OwnR 5 w base v (cb l)):OwnB w base v l:=by unfold OwnR at h;rw [cb_len] at h;exact h
end Go.Proofs.YtheincjkoefalaaGreatDoor
namespace Go.Proofs.YtheincjkoefalaaGreatDoor
open Go.RowKit Go.Shelf
attribute [local go_sem] Oper.semAt_some
def kyV (x:KvT):Value:=.string (strB x.1.1)
def txV (x:KvT):Value:=mkS x.2
structure KvR (W:World) (base:Nat) (vK vV:Value) (xs:List KvT):Prop where
 rk:OwnR 9 W base vK (xs.map kyV)
 rv:OwnR 23 W base vV (xs.map txV)
 ow:∀ x ∈ xs,OwnB W base (mkS x.2) x.1.2
theorem KvR.same {W Y:World} {base:Nat} {vK vV:Value} {xs:List KvT} (h:KvR W base vK vV xs) (hs:∀ k (ar:Array Value) (t:TypeId),W.heap[k]? = some (Obj.cells ar t (0,0)) → (t = 9 ∨ t = 23 ∨ t = 5) → base ≤ k → Y.heap[k]? = W.heap[k]?):KvR Y base vK vV xs:=
 ⟨h.rk.same (fun k ar hh e => hs k ar _ hh (Or.inl rfl) (h.rk.lt k e).1),h.rv.same (fun k ar hh e => hs k ar _ hh (Or.inr (Or.inl rfl)) (h.rv.lt k e).1),fun x hx => (((h.ow x hx).toR).same (fun k ar hh e => hs k ar _ hh (Or.inr (Or.inr rfl)) ((h.ow x hx).toR.lt k e).1)).toB⟩
theorem KvR.readsS {W:World} {base:Nat} {vK vV:Value} {xs:List KvT} (h:KvR W base vK vV xs):ReadsS W vK ((xs.map (·.1)).map (·.1)):=by
 obtain ⟨ad,cap,h1,h2,h3⟩:=h.rk.rd
 have hl:(xs.map kyV).length = ((xs.map (·.1)).map (·.1)).length:=by simp
 have hz:ad = none → cap = 0:=by
  obtain ⟨_,⟨e,_⟩ | ⟨g,c2,cur,e,_⟩⟩:=h.rk
  · rw [e] at h1;simp only [Value.slice.injEq] at h1;exact fun _ => h1.2.2.symm
  · rw [e] at h1;simp only [Value.slice.injEq] at h1;intro h;rw [h] at h1;cases h1.1
 refine ⟨ad,cap,by rw [← hl];exact h1,by rw [← hl];exact h2,hz,fun hp => ?_⟩
 obtain ⟨b,off,ar,e1,e2,e3⟩:=h3 (by rw [hl];exact hp)
 refine ⟨b,off,e1,fun j hj => ?_⟩
 rw [cell_of_row W b (off + j) ar _ (0,0) e2]
 refine e3 j _ ?_
 have hj2:j < xs.length:=by simpa using hj
 rw [List.getElem?_map,List.getElem?_eq_getElem hj2,List.getD_eq_getElem?_getD,List.getElem?_map,List.getElem?_map,List.getElem?_eq_getElem hj2]
 rfl
theorem KvR.readsL {W:World} {base:Nat} {vK vV:Value} {xs:List KvT} (h:KvR W base vK vV xs):ReadsL W vV ((xs.map (·.1)).map (·.2)):=by
 obtain ⟨ad,cap,h1,h2,h3⟩:=h.rv.rd
 have hl:(xs.map txV).length = ((xs.map (·.1)).map (·.2)).length:=by simp
 have hz:ad = none → cap = 0:=by
  obtain ⟨_,⟨e,_⟩ | ⟨g,c2,cur,e,_⟩⟩:=h.rv
  · rw [e] at h1;simp only [Value.slice.injEq] at h1;exact fun _ => h1.2.2.symm
  · rw [e] at h1;simp only [Value.slice.injEq] at h1;intro h;rw [h] at h1;cases h1.1
 refine ⟨ad,cap,by rw [← hl];exact h1,by rw [← hl];exact h2,hz,fun hp => ?_⟩
 obtain ⟨b,off,ar,e1,e2,e3⟩:=h3 (by rw [hl];exact hp)
 refine ⟨b,off,e1,fun j hj => ?_⟩
 have hj2:j < xs.length:=by simpa using hj
 refine ⟨mkS xs[j].2,?_,?_⟩
 · rw [cell_of_row W b (off + j) ar _ (0,0) e2]
   refine e3 j _ ?_;rw [List.getElem?_map,List.getElem?_eq_getElem hj2]
   rfl
 · rw [List.getD_eq_getElem?_getD,List.getElem?_map,List.getElem?_map,List.getElem?_eq_getElem hj2]
   exact (h.ow xs[j] (List.getElem_mem _)).reads
theorem build_s1 (f:Operand → Value) (o:Oper) (x:Operand) (s:ByteArray) (hx:f x = .string s) (ho:o.op = .buildSlice 40 1 #[(0,x)]) (w:World):(execOp f o).run Tryz.prog w = .ok (.value (.slice (some ⟨w.heap.size,0,none⟩) 1 1)) (w.alloc (.cells [.string s].toArray 9)):=by
 unfold execOp
 rw [ho]
 simp only [List.map_toArray,List.map_cons,List.map_nil,hx]
 kernel_rfl
structure AlG (v1:World) (gs g1 g2 g3 g4:Nat) (ks ts:List Value) (os:List KvT) (c1 c2 vK vV:Value) (W:World):Prop where
 b1:Blk W g1 [.pointer (some ⟨gs,0,none⟩)] 36
 b2:Blk W g2 [.slice none 0 0,.slice none 0 0] 43
 b3:Blk W g3 [.bool false] 4
 b4:Blk W g4 [c1,c2] 43
 rk:OwnR 9 W v1.heap.size vK ks
 rv:OwnR 23 W v1.heap.size vV ts
 ow:∀ x ∈ os,OwnB W v1.heap.size (mkS x.2) x.1.2
 mv:Mut (fun k => k = g4) v1 W
 n1:g1 ≠ g4
 n2:g2 ≠ g4
 n3:g3 ≠ g4
abbrev AlI (v1:World) (gs g1 g2 g3 g4:Nat) (xs:List KvT) (vK vV:Value) (W:World):Prop:=AlG v1 gs g1 g2 g3 g4 (xs.map kyV) (xs.map txV) xs vK vV vK vV W
def AlJ (v1:World) (gs g1 g2 g3 g4:Nat) (xs:List KvT) (W:World):Prop:=∃ vK vV,AlI v1 gs g1 g2 g3 g4 xs vK vV W
theorem OwnR.neH {t e:TypeId} {w:World} {base g:Nat} {v:Value} {cs:List Value} {ar:Array Value} (h:OwnR t w base v cs) (hb:w.heap[g]? = some (Obj.cells ar e (0,0))) (he:e ≠ t):v.ownBlock ≠ some g:=fun e1 => by
 obtain ⟨_,⟨rfl,_⟩ | ⟨g2,cap,cur,rfl,_,hh,_⟩⟩:=h
 · cases e1
 · simp [Value.ownBlock] at e1
   rw [e1,hb] at hh;simp only [Option.some.injEq,Obj.cells.injEq] at hh;exact he hh.2.1
section
variable {v1:World} {gs g1 g2 g3 g4:Nat} {ks ts:List Value} {os:List KvT} {c1 c2 vK vV:Value} {X Y:World}
theorem AlG.move (h:AlG v1 gs g1 g2 g3 g4 ks ts os c1 c2 vK vV X) (hc:∀ (k:Nat) (ar:Array Value) (t:TypeId),X.heap[k]? = some (Obj.cells ar t (0,0)) → Y.heap[k]? = X.heap[k]?) (hm:Mut (fun k => k = g4) v1 Y):AlG v1 gs g1 g2 g3 g4 ks ts os c1 c2 vK vV Y:=
 ⟨blk_same h.b1 (hc _ _ _ h.b1),blk_same h.b2 (hc _ _ _ h.b2),blk_same h.b3 (hc _ _ _ h.b3),blk_same h.b4 (hc _ _ _ h.b4),h.rk.same (fun k ar hh _ => hc k ar _ hh),h.rv.same (fun k ar hh _ => hc k ar _ hh),fun x hx => ((h.ow x hx).toR.same (fun k ar hh _ => hc k ar _ hh)).toB,hm,h.n1,h.n2,h.n3⟩
theorem AlG.own {row:Option Nat} (h:AlG v1 gs g1 g2 g3 g4 ks ts os c1 c2 vK vV X) (hg:X.grownBy Y row) (hr:∀ x,row = some x → v1.heap.size ≤ x ∧ ∃ o:Obj,X.heap[x]? = some o ∧ o.isCells = false):AlG v1 gs g1 g2 g3 g4 ks ts os c1 c2 vK vV Y:=
 h.move (fun k ar t hh => hg.block k (Array.getElem?_eq_some_iff.1 hh).1 (fun e => by
  obtain ⟨_,o,ho,hn⟩:=hr k e.symm
  rw [hh] at ho
  cases ho
  cases hn)) ⟨hg.os.trans h.mv.os,hg.tape.trans h.mv.tape,hg.output.trans h.mv.output,Nat.le_trans h.mv.size hg.size,fun k hk hn => (hg.block k (Nat.lt_of_lt_of_le hk h.mv.size) (fun e => by have:=(hr k e.symm).1;omega)).trans (h.mv.block k hk hn)⟩
theorem AlG.new (h:AlG v1 gs g1 g2 g3 g4 ks ts os c1 c2 vK vV X) (hb:Below X.heap.size X Y):AlG v1 gs g1 g2 g3 g4 ks ts os c1 c2 vK vV Y:=
 h.own (row:=none) ⟨hb.os,hb.tape,hb.output,hb.size,fun k hk _ => hb.block k hk⟩ (fun x e => by cases e)
theorem AlG.appK {vK':Value} {ks':List Value} (h:AlG v1 gs g1 g2 g3 g4 ks ts os c1 c2 vK vV X) (hr:OwnR 9 Y v1.heap.size vK' ks') (hg:X.grownBy Y vK.ownBlock):AlG v1 gs g1 g2 g3 g4 ks' ts os c1 c2 vK' vV Y:=by
 have hc:∀ (k:Nat) (ar:Array Value) (t:TypeId),X.heap[k]? = some (Obj.cells ar t (0,0)) → t ≠ 9 → Y.heap[k]? = X.heap[k]?:=fun k ar t hh ht => hg.block k (Array.getElem?_eq_some_iff.1 hh).1 (fun e => h.rk.neH hh ht e.symm)
 exact ⟨blk_same h.b1 (hc _ _ _ h.b1 (by decide)),blk_same h.b2 (hc _ _ _ h.b2 (by decide)),blk_same h.b3 (hc _ _ _ h.b3 (by decide)),blk_same h.b4 (hc _ _ _ h.b4 (by decide)),hr,h.rv.same (fun k ar hh _ => hc k ar _ hh (by decide)),fun x hx => ((h.ow x hx).toR.same (fun k ar hh _ => hc k ar _ hh (by decide))).toB,⟨hg.os.trans h.mv.os,hg.tape.trans h.mv.tape,hg.output.trans h.mv.output,Nat.le_trans h.mv.size hg.size,fun k hk hn => (hg.block k (Nat.lt_of_lt_of_le hk h.mv.size) (fun e => by have:=(h.rk.lt k e.symm).1;omega)).trans (h.mv.block k hk hn)⟩,h.n1,h.n2,h.n3⟩
theorem AlG.appV {vV':Value} {ts':List Value} (h:AlG v1 gs g1 g2 g3 g4 ks ts os c1 c2 vK vV X) (hr:OwnR 23 Y v1.heap.size vV' ts') (hg:X.grownBy Y vV.ownBlock):AlG v1 gs g1 g2 g3 g4 ks ts' os c1 c2 vK vV' Y:=by
 have hc:∀ (k:Nat) (ar:Array Value) (t:TypeId),X.heap[k]? = some (Obj.cells ar t (0,0)) → t ≠ 23 → Y.heap[k]? = X.heap[k]?:=fun k ar t hh ht => hg.block k (Array.getElem?_eq_some_iff.1 hh).1 (fun e => h.rv.neH hh ht e.symm)
 exact ⟨blk_same h.b1 (hc _ _ _ h.b1 (by decide)),blk_same h.b2 (hc _ _ _ h.b2 (by decide)),blk_same h.b3 (hc _ _ _ h.b3 (by decide)),blk_same h.b4 (hc _ _ _ h.b4 (by decide)),h.rk.same (fun k ar hh _ => hc k ar _ hh (by decide)),hr,fun x hx => ((h.ow x hx).toR.same (fun k ar hh _ => hc k ar _ hh (by decide))).toB,⟨hg.os.trans h.mv.os,hg.tape.trans h.mv.tape,hg.output.trans h.mv.output,Nat.le_trans h.mv.size hg.size,fun k hk hn => (hg.block k (Nat.lt_of_lt_of_le hk h.mv.size) (fun e => by have:=(h.rv.lt k e.symm).1;omega)).trans (h.mv.block k hk hn)⟩,h.n1,h.n2,h.n3⟩
theorem AlG.set {d1 d2:Value} (h:AlG v1 gs g1 g2 g3 g4 ks ts os c1 c2 vK vV X) (hb:Blk Y g4 [d1,d2] 43) (ho:Only g4 X Y):AlG v1 gs g1 g2 g3 g4 ks ts os d1 d2 vK vV Y:=by
 have hc:∀ (k:Nat) (ar:Array Value) (t:TypeId),X.heap[k]? = some (Obj.cells ar t (0,0)) → t ≠ 43 → Y.heap[k]? = X.heap[k]?:=fun k ar t hh ht => ho.block k (fun e => by
  have h4:=h.b4
  unfold Blk at h4
  rw [e,h4] at hh
  simp only [Option.some.injEq,Obj.cells.injEq] at hh
  exact ht hh.2.1.symm) (Array.getElem?_eq_some_iff.1 hh).1
 exact ⟨h.b1.only ho h.n1,h.b2.only ho h.n2,h.b3.only ho h.n3,hb,h.rk.same (fun k ar hh _ => hc k ar _ hh (by decide)),h.rv.same (fun k ar hh _ => hc k ar _ hh (by decide)),fun x hx => ((h.ow x hx).toR.same (fun k ar hh _ => hc k ar _ hh (by decide))).toB,h.mv.trans (fun _ _ e => e) (ho.mut (P:=fun k => k = g4) rfl),h.n1,h.n2,h.n3⟩
def Rl (v1:World) (g4:Nat) (X Y:World):Prop:=KeepsOthers X Y ∧ KpJ v1.heap.size (fun k => k = g4) X Y
theorem Rl.trans {Z:World} (h:Rl v1 g4 X Y) (k:Rl v1 g4 Y Z):Rl v1 g4 X Z:=⟨h.1.trans k.1,h.2.trans k.2⟩
theorem AlG.rlNew (h:AlG v1 gs g1 g2 g3 g4 ks ts os c1 c2 vK vV X) (hb:Below X.heap.size X Y):Rl v1 g4 X Y:=⟨⟨hb.size,fun k _ hk _ => (hb.block k (Array.getElem?_eq_some_iff.1 hk).1).trans hk⟩,KpJ.below hb h.mv.size⟩
theorem rl_row {t:TypeId} {v:Value} {cs:List Value} (h:OwnR t X v1.heap.size v cs) (hg:X.grownBy Y v.ownBlock) (hs:v1.heap.size ≤ X.heap.size):Rl v1 g4 X Y:=
 ⟨⟨hg.size,fun k o hk hn => (hg.block k (Array.getElem?_eq_some_iff.1 hk).1 (fun e => by
  obtain ⟨_,⟨rfl,_⟩ | ⟨g2,cap,cur,rfl,_,hh,_⟩⟩:=h
  · cases e
  · simp [Value.ownBlock] at e
    rw [e,hh] at hk
    cases hk
    cases hn)).trans hk⟩,⟨hg.os,hg.tape,hg.output,hg.size,fun k hk _ => hg.block k (Nat.lt_of_lt_of_le hk hs) (fun e => by have:=(h.lt k e.symm).1;omega)⟩⟩
theorem AlG.rlSet (h:AlG v1 gs g1 g2 g3 g4 ks ts os c1 c2 vK vV X) (ho:Only g4 X Y):Rl v1 g4 X Y:=
 ⟨⟨ho.size,fun k o hk hn => (ho.block k (fun e => by
  have h4:=h.b4
  unfold Blk at h4
  rw [e,h4] at hk
  cases hk
  cases hn) (Array.getElem?_eq_some_iff.1 hk).1).trans hk⟩,⟨ho.os,ho.tape,ho.output,ho.size,fun k hk hn => ho.block k hn (Nat.lt_of_lt_of_le hk h.mv.size)⟩⟩
end
theorem wpSeq_buildS1 {ops:Array Oper} {Q:Exit → Act → World → Prop} {rest:List Oper} {o:Oper} {a:Act} {w:World} (x:Operand) (s:ByteArray) (hx:a.eval x = .string s) (ho:o.op = .buildSlice 40 1 #[(0,x)]) (hw:Region.wanted o (yielded ops a.tmps) = true)
 (h:∀ g w',NewR [.string s] 9 w g w' → wpList Tryz.prog ops Q rest (a.put o.dst (.slice (some ⟨g,0,none⟩) 1 1)) w'):wpList Tryz.prog ops Q (o :: rest) a w:=
 wpSeq_val _ _ hw (build_s1 _ o x s hx ho w) (h _ _ (NewR.of _ _ w))
theorem build_tt1 (f:Operand → Value) (o:Oper) (x:Operand) (u:Option Addr × Nat × Nat) (hx:f x = mkS u) (ho:o.op = .buildSlice 41 1 #[(0,x)]) (w:World):(execOp f o).run Tryz.prog w = .ok (.value (.slice (some ⟨w.heap.size,0,none⟩) 1 1)) (w.alloc (.cells [mkS u].toArray 23)):=by
 unfold execOp
 rw [ho]
 simp only [List.map_toArray,List.map_cons,List.map_nil,hx]
 kernel_rfl
theorem wpSeq_buildTT {ops:Array Oper} {Q:Exit → Act → World → Prop} {rest:List Oper} {o:Oper} {a:Act} {w:World} (x:Operand) (u:Option Addr × Nat × Nat) (hx:a.eval x = mkS u) (ho:o.op = .buildSlice 41 1 #[(0,x)]) (hw:Region.wanted o (yielded ops a.tmps) = true)
 (h:∀ g w',NewR [mkS u] 23 w g w' → wpList Tryz.prog ops Q rest (a.put o.dst (.slice (some ⟨g,0,none⟩) 1 1)) w'):wpList Tryz.prog ops Q (o :: rest) a w:=
 wpSeq_val _ _ hw (build_tt1 _ o x u hx ho w) (h _ _ (NewR.of _ _ w))
theorem ownB_own {n₀:Nat}:OwnFrom n₀ (fun (x:KvT) X => OwnB X n₀ (mkS x.2) x.1.2):=fun x X Y row h hg hr =>
 (h.toR.same (fun k ar hh _ => hg.block k (Array.getElem?_eq_some_iff.1 hh).1 (fun e => by
   obtain ⟨_,o,ho,hn⟩:=hr k e.symm;rw [hh] at ho
   cases ho
   cases hn))).toB
theorem wpSeq_allocK {ops:Array Oper} {Q:Exit → Act → World → Prop} {rest:List Oper} {o:Oper} {a:Act} {w:World} (ho:o.op = .alloc 43) (hw:Region.wanted o (yielded ops a.tmps) = true)
 (h:∀ g w',NewR [.slice none 0 0,.slice none 0 0] 43 w g w' → wpList Tryz.prog ops Q rest (a.put o.dst (.pointer (some ⟨g,0,none⟩))) w'):wpList Tryz.prog ops Q (o :: rest) a w:=
 wpSeq_val _ _ hw (by unfold execOp;rw [ho];kernel_rfl) (h _ _ (NewR.of _ _ w))
theorem wpSeq_allocBo {ops:Array Oper} {Q:Exit → Act → World → Prop} {rest:List Oper} {o:Oper} {a:Act} {w:World} (ho:o.op = .alloc 4) (hw:Region.wanted o (yielded ops a.tmps) = true)
 (h:∀ g w',NewR [.bool false] 4 w g w' → wpList Tryz.prog ops Q rest (a.put o.dst (.pointer (some ⟨g,0,none⟩))) w'):wpList Tryz.prog ops Q (o :: rest) a w:=
 wpSeq_val _ _ hw (by unfold execOp;rw [ho];kernel_rfl) (h _ _ (NewR.of _ _ w))
theorem one_keys (a b:Option Addr) (n c m d:Nat):∀ v ∈ [Value.slice a n c,.slice b m d],v.oneCell' = true:=by
 intro v hv
 simp at hv
 rcases hv with rfl | rfl <;> rfl
theorem build_k0 (f:Operand → Value) (o:Oper) (ho:o.op = .build 43 #[]) (w:World):(execOp f o).run Tryz.prog w = .ok (.value (.agg [.slice none 0 0,.slice none 0 0].toArray)) w:=by
 unfold execOp
 rw [ho]
 kernel_rfl
theorem wpSeq_buildK0 {ops:Array Oper} {Q:Exit → Act → World → Prop} {rest:List Oper} {o:Oper} {a:Act} {w:World} (ho:o.op = .build 43 #[]) (hw:Region.wanted o (yielded ops a.tmps) = true)
 (h:wpList Tryz.prog ops Q rest (a.put o.dst (.agg [.slice none 0 0,.slice none 0 0].toArray)) w):wpList Tryz.prog ops Q (o :: rest) a w:=
 wpSeq_val _ _ hw (build_k0 _ o ho w) h
theorem var_keys {w:World} {g:Nat} {x y:Value} (hb:Blk w g [x,y] 43):(loadVar 43 ⟨g,0,none⟩).run Tryz.prog w = .ok (.agg [x,y].toArray) w:=
 run_loadVar_row (P:=Tryz.prog) w g 43 43 [x,y].toArray (0,0) _ hb Tryz.underlying43 rfl (by rw [List.size_toArray];exact info_keys _ _)
theorem results_row_bool {fn:Func} {p u:Tmp} (h:fn.results = #[.cell p 43,.cell u 4]) (tmps:Array Value) (w:World) (g g3:Nat) (v:Value) (b:Bool) (hp:tmps.getD p undef = .pointer (some ⟨g,0,none⟩)) (hu:tmps.getD u undef = .pointer (some ⟨g3,0,none⟩)) (e1:(loadVar 43 ⟨g,0,none⟩).run Tryz.prog w = .ok v w) (e2:w.cell? ⟨g3,0,none⟩ = some (.bool b)) :
 (results fn tmps).run Tryz.prog w = .ok (.tuple #[v,.bool b]) w:=by
 have hp':tmps[p]?.getD undef = .pointer (some ⟨g,0,none⟩):=by simpa using hp
 have hu':tmps[u]?.getD undef = .pointer (some ⟨g3,0,none⟩):=by simpa using hu
 have e3:(loadVar 4 ⟨g3,0,none⟩).run Tryz.prog w = .ok (.bool b) w:=by simp [go_sem,e2]
 simp [results,h,hp',hu',asAddr,e1,e3]
theorem notNil15 (g:Nat) (w:World):(binOp .eql 70 (.func (.func 66) #[] #[.pointer (some ⟨g,0,none⟩)]) .nilFunc).run Tryz.prog w = .ok (.bool false) w:=by kernel_rfl
theorem rowP_rdp {W:World} {base:Nat} {v:Value} {ps:List (ActT × Value)} (h:W.ownsRow base 62 3 v ps.length (rowP ps)):RdP W v ps:=by
 obtain ⟨h1,h2⟩:=h
 rcases h2 with ⟨rfl,h0⟩ | ⟨g,cap,cur,rfl,hg,hh,hc,hm,hs,ht⟩
 · exact ⟨none,0,by rw [h0],fun h => absurd h (by omega)⟩
 · refine ⟨_,cap,rfl,fun _ => ⟨g,0,rfl,fun j p hp i u hu => ?_⟩⟩
   have hr:=rowP_at ps j i p u hp hu;have hi:j * 3 + i < (rowP ps).length:=(List.getElem?_eq_some_iff.1 hr).1;rw [rowP_len] at hi;rw [cell_of_row W g (0 + j * 3 + i) cur _ (0,0) hh,Nat.zero_add];rw [← ht,List.getElem?_take_of_lt hi] at hr
   simpa using hr
theorem all15_any {w:World} {gs gm n:Nat} {lv:Value} {V:Bs → Value} {m:KM} (hsb:Blk w gs [lv,.map (some gm)] 99) (hm:MapM w gm n V m) (htx:∀ s t,getM m s = some t → Reads w (V s) t ∧ t.length ≤ 1048576) (hml:m.length < 1000000) :
 Calls Tryz.prog 31 #[.pointer (some ⟨gs,0,none⟩)] w fun e w' => ∃ vK vV xs,e = .returned (.tuple #[.agg [vK,vV].toArray,.bool true]) ∧ xs.map (·.1) = m ∧ KvR w' w.heap.size vK vV xs ∧ Below w.heap.size w w':=by
 have HSB:Hid (Blk w gs [lv,.map (some gm)] 99):=hsb
 have HM:Hid (MapM w gm n V m):=hm
 have HTX:Hid (∀ s t,getM m s = some t → Reads w (V s) t ∧ t.length ≤ 1048576):=htx
 have HML:Hid (m.length < 1000000):=hml
 clear hsb hm htx hml
 refine (callsIn_wide (n:=4)).1 ?_
 refine callsIn_of_wp_marks Tryz.func31 rfl trivial ?_ rfl
 simp only [Tryz.ntmps31,List.size_toArray,List.length_cons,List.length_nil,Nat.reduceAdd,Nat.reduceSub,Array.replicate_succ,Array.replicate_zero,List.push_toArray,List.append_toArray,List.nil_append,List.cons_append]
 refine wpIn_wide.2 ?_
 obtain ⟨tk0,tk1,tk2,tk3,tk4,tk5,tk6⟩:=sqk7
 go_wp2_with (first
  | (clear tk0;with_reducible refine wpSeq_box1 36 (.tmp 0) (.pointer (some ⟨gs,0,none⟩)) rfl ?_ ?_ ?_ ?_
     · rfl
     · rfl
     · rfl
     intro g1 y1 nn;have HB1:Hid (Blk y1 g1 [.pointer (some ⟨gs,0,none⟩)] 36):=nn.blk;have HW1:Hid (Below w.heap.size w y1 ∧ w.heap.size ≤ g1):=⟨nn.below,nn.ge⟩;clear nn)
  | (clear tk1;with_reducible refine wpSeq_allocK ?_ ?_ ?_
     · rfl
     · rfl
     intro g2 y2 nn;have HB2:Hid (Blk y2 g2 [.slice none 0 0,.slice none 0 0] 43):=nn.blk;replace HB1:Hid (Blk y2 g1 [.pointer (some ⟨gs,0,none⟩)] 36):=HB1.out.below nn.below HB1.out.lt;have HW2:Hid (Below w.heap.size w y2 ∧ w.heap.size ≤ g2):=⟨HW1.out.1.trans (nn.below.mono HW1.out.1.size),Nat.le_trans HW1.out.1.size nn.ge⟩;clear nn)
  | (clear tk2;with_reducible refine wpSeq_allocBo ?_ ?_ ?_
     · rfl
     · rfl
     intro g3 y3 nn;have HB3:Hid (Blk y3 g3 [.bool false] 4):=nn.blk;replace HB1:Hid (Blk y3 g1 [.pointer (some ⟨gs,0,none⟩)] 36):=HB1.out.below nn.below HB1.out.lt;replace HB2:Hid (Blk y3 g2 [.slice none 0 0,.slice none 0 0] 43):=HB2.out.below nn.below HB2.out.lt;have HW3:Hid (Below w.heap.size w y3 ∧ w.heap.size ≤ g3):=⟨HW2.out.1.trans (nn.below.mono HW2.out.1.size),Nat.le_trans HW2.out.1.size nn.ge⟩;clear nn)
  | (clear tk3;with_reducible refine wpSeq_buildK0 ?_ ?_ ?_
     · rfl
     · rfl)
  | (clear tk4;with_reducible refine wpSeq_allocK ?_ ?_ ?_
     · rfl
     · rfl
     intro g4 y4 nn;have HB4:Hid (Blk y4 g4 [.slice none 0 0,.slice none 0 0] 43):=nn.blk;have HNE:Hid (g2 < g4):=by show _ < _;have h1:=HB2.out.lt;have h2:=nn.ge;omega
     replace HB1:Hid (Blk y4 g1 [.pointer (some ⟨gs,0,none⟩)] 36):=HB1.out.below nn.below HB1.out.lt;replace HB2:Hid (Blk y4 g2 [.slice none 0 0,.slice none 0 0] 43):=HB2.out.below nn.below HB2.out.lt;replace HB3:Hid (Blk y4 g3 [.bool false] 4):=HB3.out.below nn.below HB3.out.lt;have HW4b:Hid (Below w.heap.size w y4 ∧ w.heap.size ≤ g4):=⟨HW3.out.1.trans (nn.below.mono HW3.out.1.size),Nat.le_trans HW3.out.1.size nn.ge⟩;clear nn)
  | (clear tk5;with_reducible refine wpSeq_storeRow 43 (.tmp 4) (.tmp 8) g4 [.slice none 0 0,.slice none 0 0] [.slice none 0 0,.slice none 0 0] HB4.out rfl (info_keys _ _) (one_keys _ _ _ _ _ _) ?_ ?_ ?_ ?_ ?_
     · rfl
     · rfl
     · rfl
     · rfl
     intro y5 sr;have n1:g1 ≠ g4:=HB1.out.neT HB4.out (by decide)
     have n3:g3 ≠ g4:=HB3.out.neT HB4.out (by decide)
     have n2:g2 ≠ g4:=by have:=HNE.out;omega
     replace HB1:Hid (Blk y5 g1 [.pointer (some ⟨gs,0,none⟩)] 36):=HB1.out.only sr.only n1;replace HB2:Hid (Blk y5 g2 [.slice none 0 0,.slice none 0 0] 43):=HB2.out.only sr.only n2;replace HB3:Hid (Blk y5 g3 [.bool false] 4):=HB3.out.only sr.only n3;replace HB4:Hid (Blk y5 g4 [.slice none 0 0,.slice none 0 0] 43):=sr.blk;have HW5:Hid (Below w.heap.size w y5):=HW4b.out.1.trans (sr.only.below HW4b.out.2 HW4b.out.1.size);have c1:y5.cell? ⟨g1,0,none⟩ = some (.pointer (some ⟨gs,0,none⟩)):=HB1.out.cell 0;clear sr n1 n2 n3)
  | (clear tk6;go_at_call 34;refine (sAll_any (HSB.out.below HW5.out HSB.out.lt) (HM.out.same (HW5.out.block gm HM.out.lt)) HML.out).mono ?_;rintro e6 v1 ⟨gl,vr,rfl,hbl,how,hb6,hg6⟩
     replace HB1:Hid (Blk v1 g1 [.pointer (some ⟨gs,0,none⟩)] 36):=HB1.out.below hb6 HB1.out.lt;replace HB2:Hid (Blk v1 g2 [.slice none 0 0,.slice none 0 0] 43):=HB2.out.below hb6 HB2.out.lt;replace HB3:Hid (Blk v1 g3 [.bool false] 4):=HB3.out.below hb6 HB3.out.lt;have HN4:Hid (g4 < y5.heap.size):=HB4.out.lt;replace HB4:Hid (Blk v1 g4 [.slice none 0 0,.slice none 0 0] 43):=HB4.out.below hb6 HB4.out.lt;have HBL:Hid (Blk v1 gl [vr] 22 ∧ v1.ownsRow y5.heap.size 62 3 vr m.length (rowP (setP V m)) ∧ y5.heap.size ≤ gl):=⟨hbl,how,hg6⟩;replace HW5:=sqt HW5 hb6;have hnn:=fun W => notNil15 gl W
     clear hbl how hb6 hg6 c1))
 have HV0:Hid (AlI v1 gs g1 g2 g3 g4 [] (.slice none 0 0) (.slice none 0 0) v1):=⟨HB1.out,HB2.out,HB3.out,HB4.out,OwnR.nil _ _ _,OwnR.nil _ _ _,(fun x hx => by cases hx),Mut.refl _ _,HB1.out.neT HB4.out (by decide),(by have:=HNE.out;omega),HB3.out.neT HB4.out (by decide)⟩
 have HGS:Hid (∀ W,Mut (fun k => k = g4) v1 W → Blk W gs [lv,.map (some gm)] 99 ∧ MapM W gm n V m):=fun W h => by
  have h1:=HSB.out.lt
  have h2:=HM.out.lt
  have h3:=HW4b.out.2
  have h4:=HW5.out.size
  exact ⟨h.blk (HSB.out.below HW5.out h1) (fun e => by omega),(HM.out.same (HW5.out.block gm h2)).same (h.block gm (by omega) (fun e => by omega))⟩
 have HST:Hid (∀ W,KpJ v1.heap.size (fun k => k = g4) v1 W → RdP W vr (setP V m) ∧ ∀ p ∈ setP V m,Reads W p.2 p.1.data):=fun W h => by
  have hmu:Mut (fun k => k = g4) v1 W:=h.mut
  refine ⟨?_,fun p hp => ?_⟩
  · have hr:RdP v1 vr (setP V m):=rowP_rdp (by rw [setP_len];exact HBL.out.2.1)
    obtain ⟨ad,cap,e1,e2⟩:=id hr;refine ⟨ad,cap,e1,fun hp => ?_⟩
    obtain ⟨b,off,e3,e4⟩:=e2 hp;refine ⟨b,off,e3,fun j p hj => range_mut (e4 j p hj) hmu (fun e => ?_)⟩
    have hc:=e4 j p hj 0 _ rfl;rw [e,World.cell?,HB4.out] at hc;have hlt:∀ k,vr.ownBlock = some k → y5.heap.size ≤ k:=fun k hk => (World.ownsRow.lt HBL.out.2.1 k hk).1
    have:=hlt b (by rw [e1,e3];rfl)
    have h4:=HN4.out;omega
  · obtain ⟨q,hq,e⟩:=List.mem_map.1 hp
    have h1:=(HTX.out q.1 q.2 ((getM_mem HM.out.up _ _).2 hq)).1;rw [← e];show Reads W (V q.1) q.2;exact h1.below (HW5.out.trans (hmu.below HW5.out.size (fun k e => by rw [e];exact HW4b.out.2)))
 have HSL:Hid (∀ p ∈ setP V m,isSl p.2 = true ∧ p.1.data.length ≤ 1048576):=fun p hp => by
  obtain ⟨q,hq,e⟩:=List.mem_map.1 hp
  have h1:=(getM_mem HM.out.up _ _).2 hq
  rw [← e]
  exact ⟨HM.out.sl q.1 (by rw [h1];rfl),(HTX.out q.1 q.2 h1).2⟩
 have HLT:Hid (gl < v1.heap.size ∧ ¬ (gl = g4)):=⟨HBL.out.1.lt,fun e => by have h1:=HBL.out.2.2;have h2:=HN4.out;omega⟩
 refine (wpIn_wide (n:=4)).1 ?_
 refine range_good (α:=KvT) (by omega) (gf:=66) (lb:=#[.pointer (some ⟨gl,0,none⟩)]) rfl (enters_of Tryz.func66 (by kernel_rfl) rfl)
  (all_stops 3 (n₀:=v1.heap.size) (R:=fun k => k = g4) v1 (Nat.le_refl _) HBL.out.1 HLT.out HST.out HSL.out HML.out)
  KpJ.trans (fun W l o o' h1 h2 h3 h4 => KpJ.put (w:=v1) (Nat.le_refl _) W l o o' h1 h2 h3 h4) (Below.refl _ _) (fun _ => rfl)
  (AlJ v1 gs g1 g2 g3 g4) (fun _ _ _ => False)
  (fun s X Y row hs hg hr => by
    obtain ⟨vK,vV,h1⟩:=hs;exact ⟨vK,vV,h1.own hg hr⟩)
  (fun c s X Y row hs hg hr => hs)
  ownB_own
  ⟨_,_,HV0.out⟩
  (fun x => { tmps:=#[.pointer (some ⟨gs,0,none⟩),.pointer (some ⟨g1,0,none⟩),.pointer (some ⟨g2,0,none⟩),.pointer (some ⟨g3,0,none⟩),.pointer (some ⟨g4,0,none⟩),.func (.func 66) #[] #[.pointer (some ⟨gl,0,none⟩)],.string (strB x.1.1),mkS x.2,.agg #[.slice none 0 0,.slice none 0 0],.pointer (some ⟨gs,0,none⟩),.func (.func 66) #[] #[.pointer (some ⟨gl,0,none⟩)],.func (.func 66) #[] #[.pointer (some ⟨gl,0,none⟩)],.bool false,undef,.func (.func 66) #[] #[.pointer (some ⟨gl,0,none⟩)],.string (strB x.1.1),mkS x.2,undef,undef,undef,undef,undef,undef,undef,undef,undef,undef,undef,undef,undef,undef,undef,undef,undef,undef,undef,undef],defers:=[] }) ?assign ?body ?done ?stop
 case assign =>
  intro l z W K hK
  gi_wp2
  exact hK
 case body =>
  rintro lab pre x W ⟨vK,vV,hi⟩ ⟨kk,hkk,hmk⟩ hgx
  obtain ⟨aK,cK,hvK⟩:=hi.rk.form
  obtain ⟨aV,cV,hvV⟩:=hi.rv.form
  obtain ⟨N,HN⟩:=sqn (pre.length)
  rw [List.length_map,← HN.out] at hvK hvV
  subst hvK
  subst hvV
  have hN:N < m.length:=by
   have h1:=congrArg List.length hmk;rw [List.length_map,List.length_append,List.length_take] at h1;have h2:=HN.out;simp at h1;omega
  have HI:Hid (AlI v1 gs g1 g2 g3 g4 pre (.slice aK N cK) (.slice aV N cV) W):=hi
  have HGX:Hid (OwnB W v1.heap.size (mkS x.2) x.1.2):=hgx
  obtain ⟨MM,HMM⟩:=sqn (m.length)
  have HLN:Hid (Calls Tryz.prog 36 #[.pointer (some ⟨gs,0,none⟩)] W.drew fun e w' => e = .returned (.int .i64 (MM:Int)) ∧ w' = W.drew):=by
   rw [HMM.out];obtain ⟨h1,h2⟩:=HGS.out W.drew hi.mv.drew;exact sLen_any h1 h2
  have HQ1:Hid (N ≤ MM):=by show _ ≤ _;have:=HMM.out;omega
  have HNN:Hid (N < 1000000):=by show _ < _;have:=HML.out;omega
  clear hi hgx hmk hkk hN
  gi_wp2_with fail
  refine wpIn_round_held (S:=fun wx => Blk wx g4 [.slice aK N cK,.slice aV N cV] 43 ∧ Blk wx g1 [.pointer (some ⟨gs,0,none⟩)] 36) (by kernel_rfl) (by kernel_rfl) (by rintro ⟨_,_,h⟩;exact h) ⟨HI.out.b4.drew,HI.out.b1.drew⟩ ?_
  intro hS
  refine tkc 0 (.pointer (some ⟨g4,0,none⟩)) rfl hS ?_
  simp only [Act.put,sq]
  refine tka 1 (.slice aK N cK) rfl (fun wx hx => by (have cx:wx.cell? ⟨g4,0,none⟩ = some (.slice aK N cK):=hx.1.cell 0;simp [go_sem,cx])) hS ?_
  simp only [Act.put,sq]
  refine tkc 2 (.int .i64 (N:Int)) rfl hS ?_
  simp only [Act.put,sq]
  refine tka 3 (.pointer (some ⟨gs,0,none⟩)) rfl (fun wx hx => by (have cx:wx.cell? ⟨g1,0,none⟩ = some (.pointer (some ⟨gs,0,none⟩)):=hx.2.cell 0;simp [go_sem,cx])) hS ?_
  simp only [Act.put,sq]
  refine wpAnyH_enter 4 (by kernel_rfl) rfl (by rfl) (f:=36) (args:=#[.pointer (some ⟨gs,0,none⟩)]) (by simp [go_sem]) HLN.out ?_
  rintro e0 W2 ⟨rfl,rfl⟩
  refine ⟨_,rfl,hS,?_⟩
  simp only [Act.put,sq]
  refine tka 5 (.bool false) rfl (fun wx hx => by simp [go_sem];exact HQ1.out) hS ?_
  simp only [Act.put,sq]
  refine wpAnyH_done (by kernel_rfl) ?_ _
  replace HI:Hid (AlI v1 gs g1 g2 g3 g4 pre (.slice aK N cK) (.slice aV N cV) W.drew):=HI.out.own (row:=none) ⟨rfl,rfl,rfl,Nat.le_refl _,fun _ _ _ => rfl⟩ (fun x e => by cases e)
  have HGX1:Hid (OwnB W.drew v1.heap.size (mkS x.2) x.1.2):=HGX.out
  have HRL:Hid (Rl v1 g4 W W.drew):=⟨⟨Nat.le_refl _,fun _ _ h _ => h⟩,⟨rfl,rfl,rfl,Nat.le_refl _,fun _ _ _ => rfl⟩⟩
  clear hS HLN HGX
  generalize W.drew = X at *
  obtain ⟨sk,HSK⟩:=sqn (strB x.1.1)
  have c4:X.cell? ⟨g4,0,none⟩ = some (.slice aK N cK):=HI.out.b4.cell 0
  repeat (first | refine wpIn_round_list (by kernel_rfl) (by rintro ⟨_,_,h⟩;exact h) ?_ | gi_step)
  obtain ⟨ta0,ta1⟩:=sqk2
  go_wp2_with (first
   | (clear ta0;with_reducible refine wpSeq_buildS1 (.tmp 26) (strB x.1.1) ?_ ?_ ?_ ?_
      · rfl
      · rfl
      · rfl
      intro g5 X1 nn;have HB5:Hid (Blk X1 g5 [.string (strB x.1.1)] 9):=nn.blk;have HI1:Hid (AlI v1 gs g1 g2 g3 g4 pre (.slice aK N cK) (.slice aV N cV) X1):=HI.out.new nn.below;have HRL1:Hid (Rl v1 g4 W X1 ∧ OwnB X1 v1.heap.size (mkS x.2) x.1.2):=⟨HRL.out.trans (HI.out.rlNew nn.below),HGX1.out.below nn.below (Nat.le_refl _)⟩;clear nn c4)
   | (clear ta1;with_reducible refine wpList_appK (.tmp 25) (.tmp 27) v1.heap.size (.slice aK N cK) (strB x.1.1) (pre.map kyV) g5 HI1.out.rk HB5.out (by rw [List.length_map,← HN.out];exact HNN.out) HI1.out.mv.size ?_ ?_ ?_ ?_ ?_
      · rfl
      · rfl
      · rfl
      · rfl
      intro vK2 X2 hr2 hg2 hb2;obtain ⟨aK2,cK2,hv2⟩:=hr2.form;have hl2:(pre.map kyV ++ [Value.string (strB x.1.1)]).length = N + 1:=by rw [List.length_append,List.length_map,← HN.out];rfl
      rw [hl2] at hv2;subst hv2
      have HI2:Hid (AlG v1 gs g1 g2 g3 g4 ((pre ++ [x]).map kyV) (pre.map txV) pre (.slice aK N cK) (.slice aV N cV) (.slice aK2 (N + 1) cK2) (.slice aV N cV) X2):=by
       refine HI1.out.appK ?_ hg2;rw [List.map_append];exact hr2
      have HRL2:Hid (Rl v1 g4 W X2 ∧ OwnB X2 v1.heap.size (mkS x.2) x.1.2):=⟨HRL1.out.1.trans (rl_row HI1.out.rk hg2 HI1.out.mv.size),(HRL1.out.2.toR.same (fun k ar hh _ => hg2.block k (Array.getElem?_eq_some_iff.1 hh).1 (fun e => HI1.out.rk.neH hh (by decide) e.symm))).toB⟩
      have c5:X2.cell? ⟨g4,0,none⟩ = some (.slice aK N cK):=HI2.out.b4.cell 0;have d5:X2.frozen? ⟨g4,0,none⟩ = false:=HI2.out.b4.frozen 0;clear hr2 hg2 hb2 hl2))
  clear c5 d5
  obtain ⟨X3,HX3⟩:∃ y,Hid (y = X2.setCell ⟨g4,0,none⟩ (.slice aK2 (N + 1) cK2)):=⟨_,rfl⟩
  rw [← HX3.out]
  have ho3:Only g4 X2 X3:=by rw [HX3.out];exact Only.setCell (Only.refl _ _) _ _
  have HI3:Hid (AlG v1 gs g1 g2 g3 g4 ((pre ++ [x]).map kyV) (pre.map txV) pre (.slice aK2 (N + 1) cK2) (.slice aV N cV) (.slice aK2 (N + 1) cK2) (.slice aV N cV) X3):=HI2.out.set (by rw [HX3.out];exact HI2.out.b4.set 0 _) ho3
  have HRL3:Hid (Rl v1 g4 W X3 ∧ OwnB X3 v1.heap.size (mkS x.2) x.1.2):=⟨HRL2.out.1.trans (HI2.out.rlSet ho3),(HRL2.out.2.toR.same (fun k ar hh _ => ho3.block k (fun e => by
   have h4:=HI2.out.b4;unfold Blk at h4;rw [e,h4] at hh;simp only [Option.some.injEq,Obj.cells.injEq] at hh;exact absurd hh.2.1 (by decide)) (Array.getElem?_eq_some_iff.1 hh).1)).toB⟩
  clear ho3 HX3
  have c4:X3.cell? ⟨g4,1,none⟩ = some (.slice aV N cV):=HI3.out.b4.cell 1
  repeat (first | refine wpIn_round_list (by kernel_rfl) (by rintro ⟨_,_,h⟩;exact h) ?_ | gi_step)
  obtain ⟨tb0,tb1⟩:=sqk2
  go_wp2_with (first
   | (clear tb0;with_reducible refine wpSeq_buildTT (.tmp 32) x.2 ?_ ?_ ?_ ?_
      · rfl
      · rfl
      · rfl
      intro g6 X4 nn;have HB6:Hid (Blk X4 g6 [mkS x.2] 23):=nn.blk;have HI4:Hid (AlG v1 gs g1 g2 g3 g4 ((pre ++ [x]).map kyV) (pre.map txV) pre (.slice aK2 (N + 1) cK2) (.slice aV N cV) (.slice aK2 (N + 1) cK2) (.slice aV N cV) X4):=HI3.out.new nn.below;have HRL4:Hid (Rl v1 g4 W X4 ∧ OwnB X4 v1.heap.size (mkS x.2) x.1.2):=⟨HRL3.out.1.trans (HI3.out.rlNew nn.below),HRL3.out.2.below nn.below (Nat.le_refl _)⟩;clear nn c4)
   | (clear tb1;with_reducible refine wpList_appT15 (.tmp 31) (.tmp 33) v1.heap.size (.slice aV N cV) x.2 (pre.map txV) g6 HI4.out.rv HB6.out (by rw [List.length_map,← HN.out];exact HNN.out) HI4.out.mv.size ?_ ?_ ?_ ?_ ?_
      · rfl
      · rfl
      · rfl
      · rfl
      intro vV2 X5 hr2 hg2 hb2;obtain ⟨aV2,cV2,hv2⟩:=hr2.form;have hl2:(pre.map txV ++ [mkS x.2]).length = N + 1:=by rw [List.length_append,List.length_map,← HN.out];rfl
      rw [hl2] at hv2;subst hv2;have HO5:Hid (OwnB X5 v1.heap.size (mkS x.2) x.1.2):=(HRL4.out.2.toR.same (fun k ar hh _ => hg2.block k (Array.getElem?_eq_some_iff.1 hh).1 (fun e => HI4.out.rv.neH hh (by decide) e.symm))).toB
      have HI5:Hid (AlG v1 gs g1 g2 g3 g4 ((pre ++ [x]).map kyV) ((pre ++ [x]).map txV) (pre ++ [x]) (.slice aK2 (N + 1) cK2) (.slice aV N cV) (.slice aK2 (N + 1) cK2) (.slice aV2 (N + 1) cV2) X5):=by
       have h:=HI4.out.appV (ts':=(pre ++ [x]).map txV) (by rw [List.map_append];exact hr2) hg2
       exact ⟨h.b1,h.b2,h.b3,h.b4,h.rk,h.rv,fun y hy => (List.mem_append.1 hy).elim (h.ow y) (fun hy => by rw [List.mem_singleton.1 hy];exact HO5.out),h.mv,h.n1,h.n2,h.n3⟩
      have HRL5:Hid (Rl v1 g4 W X5):=HRL4.out.1.trans (rl_row HI4.out.rv hg2 HI4.out.mv.size);have c5:X5.cell? ⟨g4,1,none⟩ = some (.slice aV N cV):=HI5.out.b4.cell 1;have d5:X5.frozen? ⟨g4,1,none⟩ = false:=HI5.out.b4.frozen 1;clear hr2 hg2 hb2 hl2))
  clear c5 d5
  repeat gi_step
  obtain ⟨X6,HX6⟩:∃ y,Hid (y = X5.setCell ⟨g4,1,none⟩ (.slice aV2 (N + 1) cV2)):=⟨_,rfl⟩
  rw [← HX6.out]
  have ho6:Only g4 X5 X6:=by rw [HX6.out];exact Only.setCell (Only.refl _ _) _ _
  have hI6:=HI5.out.set (Y:=X6) (d1:=.slice aK2 (N + 1) cK2) (d2:=.slice aV2 (N + 1) cV2) (by rw [HX6.out];exact HI5.out.b4.set 1 _) ho6
  have hR6:=HRL5.out.trans (HI5.out.rlSet ho6)
  exact ⟨hR6.1,hR6.2,_,_,hI6⟩
 case done =>
  rintro Dd xs W hD hxs ⟨vK,vV,hi⟩ hK
  obtain ⟨aK,cK,hvK⟩:=hi.rk.form
  obtain ⟨aV,cV,hvV⟩:=hi.rv.form
  obtain ⟨N,HN⟩:=sqn (xs.length)
  rw [List.length_map,← HN.out] at hvK hvV
  subst hvK
  subst hvV
  have HI:Hid (AlI v1 gs g1 g2 g3 g4 xs (.slice aK N cK) (.slice aV N cV) W):=hi
  have HKD:Hid (W.heap[Dd]? = some (.deferred (some []))):=hK
  have HKG:Hid (v1.heap.size ≤ Dd):=hD
  have HXS:Hid (xs.map (·.1) = m):=hxs
  have H23:Hid (g2 ≠ g3 ∧ g3 ≠ g2):=⟨hi.b2.neT hi.b3 (by decide),hi.b3.neT hi.b2 (by decide)⟩
  clear hi hK hD hxs hnn
  gi_wp2_with fail
  obtain ⟨tc0,tc1⟩:=sqk2
  go_wp2_with (first
   | (clear tc0;with_reducible refine wpSeq_loadW 43 (.tmp 4) g4 0 [.slice aK N cK,.slice aV N cV] _ (Blk.range HI.out.b4) Tryz.underlying43 rfl (info_keys _ _) ?_ ?_ ?_ ?_
      · rfl
      · rfl
      · rfl)
   | (clear tc1;with_reducible refine wpSeq_storeRow 43 (.tmp 2) (.tmp 36) g2 [.slice none 0 0,.slice none 0 0] [.slice aK N cK,.slice aV N cV] HI.out.b2 rfl (info_keys _ _) (one_keys _ _ _ _ _ _) ?_ ?_ ?_ ?_ ?_
      · rfl
      · rfl
      · rfl
      · rfl
      intro W2 sr;have HB2:Hid (Blk W2 g2 [.slice aK N cK,.slice aV N cV] 43 ∧ Only g2 W W2):=⟨sr.blk,sr.only⟩;have HB3b:Hid (Blk W2 g3 [.bool false] 4):=HI.out.b3.only sr.only H23.out.2;have c3:W2.cell? ⟨g3,0,none⟩ = some (.bool false):=HB3b.out.cell 0;have d3:W2.frozen? ⟨g3,0,none⟩ = false:=HB3b.out.frozen 0;clear sr))
  clear c3 d3
  obtain ⟨W4,HW4⟩:∃ y,Hid (y = W2.setCell ⟨g3,0,none⟩ (.bool true)):=⟨_,rfl⟩
  rw [← HW4.out]
  have ho4:Only g3 W2 W4:=by rw [HW4.out];exact Only.setCell (Only.refl _ _) _ _
  have hb3:Blk W4 g3 [.bool true] 4:=by rw [HW4.out];exact HB3b.out.set 0 _
  have hb2:Blk W4 g2 [.slice aK N cK,.slice aV N cV] 43:=HB2.out.1.only ho4 H23.out.1
  have hlt:Dd < W.heap.size:=(Array.getElem?_eq_some_iff.1 HKD.out).1
  have hk2:W2.heap[Dd]? = some (.deferred (some [])):=by
   rw [HB2.out.2.block Dd (fun e => by have h:=HI.out.b2;unfold Blk at h;rw [← e,HKD.out] at h;cases h) hlt]
   exact HKD.out
  have hk4:W4.heap[Dd]? = some (.deferred (some [])):=by
   rw [ho4.block Dd (fun e => by have h:=HB3b.out;unfold Blk at h;rw [← e,hk2] at h;cases h) (Array.getElem?_eq_some_iff.1 hk2).1]
   exact hk2
  refine ⟨by simp,.inl ⟨_,_,rfl,run_takeDeferred hk4,?_⟩⟩
  have hgp:=grownBy_putObj' W4 Dd (.deferred none)
  have hc3:=(hb3.put hk4 rfl (o':=.deferred none)).cell 0
  have hv2:=var_keys (hb2.put hk4 rfl (o':=.deferred none))
  have hbw:Below w.heap.size w (W4.putObj Dd (.deferred none)):=by
   have h1:=HW2.out;have h3:=HW3.out;have h4:=HW4b.out;have h5:=HW5.out;have hs:=Nat.le_trans h5.size HI.out.mv.size;have e1:Below w.heap.size w W:=h5.trans (HI.out.mv.below h5.size (fun k e => by rw [e];exact h4.2))
   have e2:Below w.heap.size w W2:=e1.trans (HB2.out.2.below h1.2 hs);have e3:Below w.heap.size w W4:=e2.trans (ho4.below h3.2 e2.size);exact ⟨hgp.os.trans e3.os,hgp.tape.trans e3.tape,hgp.output.trans e3.output,Nat.le_trans e3.size hgp.size,fun k hk => (hgp.block k (Nat.lt_of_lt_of_le hk e3.size) (fun e => by cases e;have:=HKG.out;have:=h5.size;omega)).trans (e3.block k hk)⟩
  have hkv:KvR (W4.putObj Dd (.deferred none)) w.heap.size (.slice aK N cK) (.slice aV N cV) xs:=by
   have hi:=HI.out;have h0:KvR W w.heap.size (.slice aK N cK) (.slice aV N cV) xs:=⟨hi.rk.mono HW5.out.size,hi.rv.mono HW5.out.size,fun x hx => ownB_low (hi.ow x hx) HW5.out.size⟩
   refine h0.same (fun k ar t hh ht _ => ?_)
   have hkl:=(Array.getElem?_eq_some_iff.1 hh).1
   have n2:k ≠ g2:=fun e => by
    have h:=HI.out.b2;unfold Blk at h;rw [← e,hh] at h;simp only [Option.some.injEq,Obj.cells.injEq] at h
    rcases ht with ht | ht | ht <;> rw [ht] at h <;> exact absurd h.2.1 (by decide)
   have n3:k ≠ g3:=fun e => by
    have h:=HI.out.b3;unfold Blk at h;rw [← e,hh] at h;simp only [Option.some.injEq,Obj.cells.injEq] at h
    rcases ht with ht | ht | ht <;> rw [ht] at h <;> exact absurd h.2.1 (by decide)
   have e2:=HB2.out.2.block k n2 hkl;have l2:k < W2.heap.size:=Nat.lt_of_lt_of_le hkl HB2.out.2.size;have e4:=ho4.block k n3 l2;have l4:k < W4.heap.size:=Nat.lt_of_lt_of_le l2 ho4.size;have e5:=hgp.block k l4 (fun e => by cases e;rw [HKD.out] at hh;cases hh)
   exact e5.trans (e4.trans e2)
  refine ⟨.tuple #[.agg [.slice aK N cK,.slice aV N cV].toArray,.bool true],?_,_,_,xs,rfl,HXS.out,hkv,hbw⟩
  exact results_row_bool rfl _ _ g2 g3 _ true rfl rfl hv2 hc3
 case stop =>
  rintro Dd cc pre W hD hsp hf hK
  exact hf.elim
end Go.Proofs.YtheincjkoefalaaGreatDoor
namespace Go.Proofs.YtheincjkoefalaaGreatDoor
open Go.RowKit
theorem keyB2 {s:Bs} (h:s.length ≤ 9223372036854775807):keyOf Tryz.prog 9 (.string (strB s)) = some (litB s):=WideMaps.keyOf_string_mk Tryz.underlying9 (by rw [strB_size];unfold maxLen;omega)
theorem MapM.look2 {w:World} {gm n:Nat} {V:Bs → Value} {m:KM} (h:MapM w gm n V m) {s:Bs} (hs:s.length ≤ 9223372036854775807):(Instr.lookup 97 (.map (some gm)) (.string (strB s)) true).run Tryz.prog w = .ok (.tuple #[if (getM m s).isSome then V s else .slice none 0 0,.bool (getM m s).isSome]) w:=by
 obtain ⟨D,h1,h2,h3⟩:=h.ex
 obtain ⟨v,ps,hr,hv⟩:=h1.look_ok kSt Tryz.underlying97 (z:=.slice none 0 0) (by kernel_rfl) (slE_mk rfl) (keyB2 hs)
 obtain ⟨h4,h5⟩:=h3 s
 rw [h4] at hr
 by_cases c:(getM m s).isSome = true
 · rw [h5 c] at hv
   rw [slE_inv (h.sl s c) hv] at hr;rw [if_pos c];exact hr
 · have hf:Maps.has D (litB s) = false:=by rw [h4];simpa using c
   rw [Maps.atKey_of_not_has hf] at hv;rw [slE_inv rfl hv] at hr;rw [if_neg c];exact hr
theorem sGet2_any {w:World} {gs gm n:Nat} {lv:Value} {V:Bs → Value} {m:KM} (hsb:Blk w gs [lv,.map (some gm)] 99) (hm:MapM w gm n V m) (htx:∀ s t,getM m s = some t → Reads w (V s) t ∧ t.length ≤ 1048576) (s:Bs) (hs:s.length ≤ 9223372036854775807) :
 Calls Tryz.prog 32 #[.pointer (some ⟨gs,0,none⟩),.string (strB s)] w fun e w' => ∃ v',e = .returned (.tuple #[v',.bool (getM m s).isSome]) ∧ OwnB w' w.heap.size v' ((getM m s).getD []) ∧ Below w.heap.size w w':=by
 have c1:w.cell? ⟨gs,1,none⟩ = some (.map (some gm)):=hsb.cell 1
 have hk:=hm.look2 hs
 obtain ⟨sk,HSK⟩:=sqn (strB s)
 rw [← HSK.out] at hk ⊢
 cases e:getM m s with
 | none =>
  rw [e] at hk
  simp only [Option.isSome_none,Bool.false_eq_true,if_false] at hk
  have HBC:Hid (Calls Tryz.prog 64 #[.slice none 0 0] w fun e w' => ∃ v',e = .returned v' ∧ OwnB w' w.heap.size v' [] ∧ Below w.heap.size w w'):=bclone_any _ [] w (reads_nil13 w) (by decide)
  clear hsb hm htx e hs
  go_enter Tryz.func32,Tryz.ntmps32
  go_wp2_with (first
   | (go_at_call 64;refine (HBC.out).mono ?_;rintro e4 y4 ⟨v4,rfl,ow4,bl4⟩
      have HO:Hid (OwnB y4 w.heap.size v4 [] ∧ Below w.heap.size w y4):=⟨ow4,bl4⟩;clear ow4 bl4))
  refine bodyPost_ret (results_tmp2 rfl _ _ _) rfl ?_
  exact ⟨v4,rfl,HO.out.1,HO.out.2⟩
 | some t =>
  rw [e] at hk
  simp only [Option.isSome_some,if_true] at hk
  obtain ⟨hrd,hle⟩:=htx s t e
  obtain ⟨av,nv,cv,hvs⟩:=isSl_form (hm.sl s (by rw [e];rfl))
  have HBC:Hid (Calls Tryz.prog 64 #[.slice av nv cv] w fun e w' => ∃ v',e = .returned v' ∧ OwnB w' w.heap.size v' t ∧ Below w.heap.size w w'):=by rw [← hvs];exact bclone_any _ t w hrd (Nat.le_trans hle (by decide))
  rw [hvs] at hk
  clear hsb hm htx e hs hrd hle hvs
  go_enter Tryz.func32,Tryz.ntmps32
  go_wp2_with (first
   | (go_at_call 64;refine (HBC.out).mono ?_;rintro e4 y4 ⟨v4,rfl,ow4,bl4⟩
      have HO:Hid (OwnB y4 w.heap.size v4 t ∧ Below w.heap.size w y4):=⟨ow4,bl4⟩;clear ow4 bl4))
  refine bodyPost_ret (results_tmp2 rfl _ _ _) rfl ?_
  exact ⟨v4,rfl,HO.out.1,HO.out.2⟩
structure StR (w:World) (gs gm n:Nat) (lv:Value) (V:Bs → Value) (m:KM):Prop where
 sb:Blk w gs [lv,.map (some gm)] 99
 mp:MapM w gm n V m
 tx:∀ s t,getM m s = some t → Reads w (V s) t ∧ t.length ≤ 1048576
theorem StM.rd {w:World} {gs gd lg gm n:Nat} {P Q:Nat → Prop} {V:Bs → Value} {m:KM} {D:DkT} {J:JnT} (h:StM w gs gd lg gm n P Q V m D J):StR w gs gm n (.pointer (some ⟨lg,0,none⟩)) V m:=⟨h.sb,h.mp,fun s t ht => ⟨(h.tx s t ht).1.now,(h.tx s t ht).2⟩⟩
theorem StR.below {w w':World} {gs gm n:Nat} {lv:Value} {V:Bs → Value} {m:KM} (h:StR w gs gm n lv V m) (hb:Below w.heap.size w w'):StR w' gs gm n lv V m:=⟨h.sb.below hb h.sb.lt,h.mp.same (hb.block gm h.mp.lt),fun s t ht => ⟨(h.tx s t ht).1.below hb,(h.tx s t ht).2⟩⟩
theorem acts_rdp {w:World} {v:Value} {l:List ActT} (h:ReadsA w v l):∃ ps:List (ActT × Value),RdP w v ps ∧ ps.map (·.1) = l ∧ (∀ p ∈ ps,Reads w p.2 p.1.data) ∧ ∀ p ∈ ps,isSl p.2 = true:=by
 obtain ⟨ad,cap,h1,h2,h3,h4⟩:=h
 by_cases h0:0 < l.length
 case neg =>
  have:l = []:=List.eq_nil_of_length_eq_zero (by omega)
  subst this
  exact ⟨[],⟨ad,cap,h1,fun h => by simp at h⟩,rfl,(fun p hp => by cases hp),fun p hp => by cases hp⟩
 case pos =>
  obtain ⟨b,off,h5,h6⟩:=h4 h0
  have ex:∃ f:Nat → Value,∀ j,j < l.length → w.rangeAt b (off + j * 3) (actC (l.getD j ⟨[],false,[]⟩) (f j)) ∧ Reads w (f j) (l.getD j ⟨[],false,[]⟩).data:=
   ⟨fun j => if hj:j < l.length then Classical.choose (h6 j hj) else .slice none 0 0,fun j hj => by
    simp only [dif_pos hj];exact Classical.choose_spec (h6 j hj)⟩
  obtain ⟨f,hf⟩:=ex
  have hat:∀ j p,(l.mapIdx fun i a => (a,f i))[j]? = some p → j < l.length ∧ p = (l.getD j ⟨[],false,[]⟩,f j):=fun j p hp => by
   rw [List.getElem?_mapIdx] at hp
   by_cases hj:j < l.length
   · rw [List.getElem?_eq_getElem hj] at hp
     simp at hp
     exact ⟨hj,by rw [← hp,List.getD_eq_getElem?_getD,List.getElem?_eq_getElem hj];rfl⟩
   · rw [List.getElem?_eq_none (by omega)] at hp
     cases hp
  have hmem:∀ p ∈ (l.mapIdx fun i a => (a,f i)),Reads w p.2 p.1.data:=fun p hp => by
   obtain ⟨j,hj⟩:=List.getElem?_of_mem hp;obtain ⟨h7,rfl⟩:=hat j p hj;exact (hf j h7).2
  refine ⟨l.mapIdx fun i a => (a,f i),⟨ad,cap,by rw [List.length_mapIdx];exact h1,fun _ => ⟨b,off,h5,fun j p hp => ?_⟩⟩,?_,hmem,fun p hp => ?_⟩
  · obtain ⟨h7,rfl⟩:=hat j p hp
    exact (hf j h7).1
  · apply List.ext_getElem?
    intro j;rw [List.getElem?_map,List.getElem?_mapIdx]
    cases l[j]? <;> rfl
  · obtain ⟨a,n,c,e⟩:=(hmem p hp).form
    rw [e]
    rfl
def CellsV (w:World) (v:Value) (us:List Value):Prop:=∃ ad cap,v = .slice ad us.length cap ∧ us.length ≤ cap ∧ (ad = none → cap = 0) ∧ (0 < us.length → ∃ b off,ad = some ⟨b,off,none⟩ ∧ ∀ (j:Nat) u,us[j]? = some u → w.cell? ⟨b,off + j,none⟩ = some u)
theorem CellsV.below {w w':World} {v:Value} {us:List Value} (h:CellsV w v us) (hb:Below w.heap.size w w'):CellsV w' v us:=by
 obtain ⟨ad,cap,h1,h2,h3,h4⟩:=h
 refine ⟨ad,cap,h1,h2,h3,fun hp => ?_⟩
 obtain ⟨b,off,h5,h6⟩:=h4 hp
 exact ⟨b,off,h5,fun j u hj => (World.cell?_of_block (hb.block b (block_lt_of_cell (h6 j u hj)))).trans (h6 j u hj)⟩
theorem app_any (ts te:TypeId) (ht:Tryz.prog.underlying ts = some (.slice te)) (z:Value) (by_:Nat) (hinf:(Tryz.prog.info? te).map (fun i => (i.zero,i.size,i.bytes)) = some (some z,1,by_)) (hz:z.cells.size = 1) (hby:by_ ≤ 48) {o:Oper} {a:Act} {w:World} {K:Act → World → Prop} {Q:Exit → Act → World → Prop} (s x:Operand) (base:Nat) (v vx:Value) (cs us:List Value)
 (hown:OwnR te w base v cs) (hv:CellsV w vx us) (h1:∀ u ∈ us,u.oneCell' = true) (hlen:cs.length + us.length < 1000000) (hbase:base ≤ w.heap.size)
 (ho:o.op = .call { callee:=.builtin .append,args:=#[s,x],argTypes:=#[ts,ts] }) (hs:a.eval s = v) (hx:a.eval x = vx)
 (h:∀ v' w',OwnR te w' base v' (cs ++ us) → w.grownBy w' v.ownBlock → Below base w w' → K (a.put o.dst v') w'):o.wp Tryz.prog a w K Q:=by
 obtain ⟨i0,hi,hz0,hz1,hz2⟩:=info_parts hinf
 obtain ⟨ad,cap,rfl,hc,hn,hp⟩:=hv
 cases ad with
 | none =>
  have h0:us = []:=by
   cases us with
   | nil => rfl
   | cons u us => obtain ⟨b,off,e,_⟩:=hp (by simp);cases e
  subst h0
  rw [hn rfl] at hx
  have hrun:=run_append_owned_none (P:=Tryz.prog) (w:=w) base ts o.type te i0 1 ht hi v cs.length cs hown
  unfold Oper.wp execOp
  simp only [ho,resolve,invoke,builtin,Sem.run_bind,Sem.run_pure,Result.andThen_ok,List.map_toArray,List.map_cons,List.map_nil,hs,hx,List.length_nil,hrun]
  exact h v w (by rw [List.append_nil];exact hown) ⟨rfl,rfl,rfl,Nat.le_refl _,fun _ _ _ => rfl⟩ (Below.refl _ _)
 | some ad =>
  obtain ⟨v',w',hr,h2,h3,h4,h5⟩:=run_append_own_at (P:=Tryz.prog) w base ts o.type te i0 z 1 by_ ht hi hz0 hz1 hz2 hz (by decide) v cs.length cs hown ad us.length cap us (by omega) (fun j q hj => by
   obtain ⟨b,off,e,e2⟩:=hp (by have:=(List.getElem?_eq_some_iff.1 hj).1;omega)
   cases e
   rw [Addr.add_mid];exact e2 j q hj) h1 (by unfold maxLen;omega) (by have:=Nat.mul_le_mul (show cs.length + us.length ≤ 1000000 by omega) hby;omega) hbase
  unfold Oper.wp execOp
  simp only [ho,resolve,invoke,builtin,Sem.run_bind,Sem.run_pure,Result.andThen_ok,List.map_toArray,List.map_cons,List.map_nil,hs,hx,hr]
  refine h v' w' ?_ h3 ((Below.refl _ _).grown h3 hbase (fun k hk => (hown.lt k hk).1))
  unfold OwnR
  rw [List.length_append]
  exact h2
theorem cut_hi (ts te:TypeId) (ht:Tryz.prog.underlying ts = some (.slice te)) (hel:Tryz.prog.elem ts = te) (hsz:∀ w,(sizeOf te).run Tryz.prog w = .ok 1 w) (ad:Option Addr) (n c i:Nat) (hi:i ≤ n) (hc:n ≤ c) (f:Operand → Value) (o:Oper) (x y:Operand) (ho:o.op = .slice ts x none (some y) none) (hx:f x = .slice ad n c) (hy:f y = .int .i64 (i:Int)) (w:World) :
 (execOp f o).run Tryz.prog w = .ok (.value (.slice ad i c)) w:=by
 unfold execOp
 rw [ho]
 simp only [hx,hy,Option.map_some,Option.map_none,Sem.run_bind]
 rw [run_sliceAt_slice w ts _ _ _ _ (by rw [ht,hel]),run_slice_h w ts _ _ _ (by rw [ht,hel]) .i64 (i:Int) (by omega) (by omega)]
 rw [hel,hsz]
 simp only [Result.andThen_ok,sliced,Int.toNat_natCast,Nat.zero_mul,Nat.sub_zero]
 cases ad <;> simp [Addr.add]
def loV (ad:Option Addr) (n c i:Nat):Value:=.slice (if c = i then ad else ad.map (·.add i)) (n - i) (c - i)
theorem cut_lo (ts te:TypeId) (ht:Tryz.prog.underlying ts = some (.slice te)) (hel:Tryz.prog.elem ts = te) (hsz:∀ w,(sizeOf te).run Tryz.prog w = .ok 1 w) (ad:Option Addr) (n c i:Nat) (hi:i ≤ n) (_hc:n ≤ c) (f:Operand → Value) (o:Oper) (x y:Operand) (ho:o.op = .slice ts x (some y) none none) (hx:f x = .slice ad n c) (hy:f y = .int .i64 (i:Int)) (w:World) :
 (execOp f o).run Tryz.prog w = .ok (.value (loV ad n c i)) w:=by
 unfold execOp
 rw [ho]
 simp only [hx,hy,Option.map_some,Option.map_none,Sem.run_bind]
 rw [run_sliceAt_slice w ts _ _ _ _ (by rw [ht,hel]),run_slice_l w ts _ _ _ (by rw [ht,hel]) .i64 (i:Int) (by omega) (by omega)]
 rw [hel,hsz]
 simp only [Result.andThen_ok,sliced,Int.toNat_natCast,Nat.mul_one,loV,Sem.run_pure]
theorem CellsV.hi {w:World} {ad:Option Addr} {n c:Nat} {us:List Value} (h:CellsV w (.slice ad n c) us) {i:Nat} (hi:i ≤ us.length):CellsV w (.slice ad i c) (us.take i):=by
 obtain ⟨ad',cap,h1,h2,h3,h4⟩:=h
 simp only [Value.slice.injEq] at h1
 obtain ⟨rfl,_,rfl⟩:=h1
 have hl:(us.take i).length = i:=by rw [List.length_take];omega
 refine ⟨ad,c,by rw [hl],by rw [hl];omega,h3,fun hp => ?_⟩
 rw [hl] at hp
 obtain ⟨b,off,h5,h6⟩:=h4 (by omega)
 refine ⟨b,off,h5,fun j u hj => h6 j u ?_⟩
 have hlt:=(List.getElem?_eq_some_iff.1 hj).1
 rw [hl] at hlt
 rwa [List.getElem?_take_of_lt hlt] at hj
theorem CellsV.lo {w:World} {ad:Option Addr} {n c:Nat} {us:List Value} (h:CellsV w (.slice ad n c) us) {i:Nat} (hi:i ≤ us.length):CellsV w (loV ad n c i) (us.drop i):=by
 obtain ⟨ad',cap,h1,h2,h3,h4⟩:=h
 simp only [Value.slice.injEq] at h1
 obtain ⟨rfl,rfl,rfl⟩:=h1
 have hl:(us.drop i).length = us.length - i:=List.length_drop
 unfold loV
 refine ⟨_,_,by rw [hl],by rw [hl];omega,fun e => ?_,fun hp => ?_⟩
 · cases ad with
   | none => rw [h3 rfl];omega
   | some a => by_cases hc:c = i <;> simp [hc] at e
 · rw [hl] at hp
   obtain ⟨b,off,h5,h6⟩:=h4 (by omega)
   refine ⟨b,off + i,by rw [if_neg (by omega),h5];simp [Addr.add],fun j u hj => ?_⟩
   rw [List.getElem?_drop] at hj;rw [Nat.add_assoc];exact h6 _ u hj
def StaS (R:Nat → Prop) (w:World) (v:Value) (ks:List Bs):Prop:=
 ∃ ad cap,v = .slice ad ks.length cap ∧ ks.length ≤ cap ∧ (ad = none → cap = 0) ∧ (0 < ks.length → ∃ b off,ad = some ⟨b,off,none⟩ ∧ ¬ R b ∧ ∀ j,j < ks.length → w.cell? ⟨b,off + j,none⟩ = some (.string (strB (ks.getD j []))))
theorem StaS.now {R:Nat → Prop} {w:World} {v:Value} {ks:List Bs} (h:StaS R w v ks):ReadsS w v ks:=by
 obtain ⟨ad,cap,h1,h2,h3,h4⟩:=h
 exact ⟨ad,cap,h1,h2,h3,fun hp => by obtain ⟨b,off,h5,_,h6⟩:=h4 hp;exact ⟨b,off,h5,h6⟩⟩
theorem StaS.go {R R':Nat → Prop} {w w':World} {v:Value} {ks:List Bs} (h:StaS R w v ks) (m:Mut R w w') (hP:∀ k,k < w.heap.size → R' k → R k):StaS R' w' v ks:=by
 obtain ⟨ad,cap,h1,h2,h3,h4⟩:=h
 refine ⟨ad,cap,h1,h2,h3,fun hp => ?_⟩
 obtain ⟨b,off,h5,h6,h7⟩:=h4 hp
 refine ⟨b,off,h5,fun hb => h6 (hP b (block_lt_of_cell (h7 0 hp)) hb),fun j hj => ?_⟩
 rw [World.cell?_of_block (w:=w) (m.block b (block_lt_of_cell (h7 j hj)) h6)]
 exact h7 j hj
theorem StaS.nil (R:Nat → Prop) (w:World):StaS R w (.slice none 0 0) []:=⟨none,0,rfl,Nat.le_refl _,fun _ => rfl,fun h => by simp at h⟩
structure KyS (R:Nat → Prop) (w:World) (vK vV:Value) (m:KM):Prop where
 k:StaS R w vK (m.map (·.1))
 v:StaL R w vV (m.map (·.2))
theorem KyS.go {R R':Nat → Prop} {w w':World} {vK vV:Value} {m:KM} (h:KyS R w vK vV m) (mu:Mut R w w') (hP:∀ k,k < w.heap.size → R' k → R k):KyS R' w' vK vV m:=⟨h.k.go mu hP,h.v.go mu hP⟩
theorem KyS.below {R:Nat → Prop} {w w':World} {vK vV:Value} {m:KM} (h:KyS R w vK vV m) (hb:Below w.heap.size w w'):KyS R w' vK vV m:=h.go (mut_below hb R) (fun _ _ h => h)
theorem KyS.nil (R:Nat → Prop) (w:World):KyS R w (.slice none 0 0) (.slice none 0 0) []:=⟨StaS.nil R w,StaL.nil R w⟩
def strV (k:Bs):Value:=.string (strB k)
theorem KyS.rows {R:Nat → Prop} {w:World} {vK vV:Value} {m:KM} (h:KyS R w vK vV m):∃ us:List Value,us.length = m.length ∧ CellsV w vK (m.map fun p => strV p.1) ∧ CellsV w vV us ∧ (∀ u ∈ us,u.oneCell' = true) ∧ ∀ (j:Nat) u p,us[j]? = some u → m[j]? = some p → Sta R w (fun W => Reads W u p.2):=by
 obtain ⟨ad,cap,h1,h2,h3,h4⟩:=h.k
 obtain ⟨ad2,cap2,g1,g2,g3,g4⟩:=h.v
 have hk:CellsV w vK (m.map fun p => strV p.1):=by
  refine ⟨ad,cap,by simpa using h1,by simpa using h2,h3,fun hp => ?_⟩
  obtain ⟨b,off,h5,_,h6⟩:=h4 (by simpa using hp)
  refine ⟨b,off,h5,fun j u hj => ?_⟩
  rw [List.getElem?_map] at hj
  cases hm:m[j]? with
  | none => rw [hm] at hj;cases hj
  | some p =>
   rw [hm] at hj;have hlt:=(List.getElem?_eq_some_iff.1 hm).1;have h7:=h6 j (by simpa using hlt)
   rw [List.getD_eq_getElem?_getD,List.getElem?_map,hm] at h7;rw [h7,← hj]
   rfl
 by_cases h0:0 < m.length
 case neg =>
  have:m = []:=List.eq_nil_of_length_eq_zero (by omega)
  subst this
  exact ⟨[],rfl,hk,⟨ad2,cap2,by simpa using g1,by simp,g3,fun h => by simp at h⟩,(fun u hu => by cases hu),fun j u p hj => by cases hj⟩
 case pos =>
  obtain ⟨b,off,g5,_,g6⟩:=g4 (by simpa using h0)
  have ex:∃ f:Nat → Value,∀ j,j < m.length → w.cell? ⟨b,off + j,none⟩ = some (f j) ∧ Sta R w (fun W => Reads W (f j) ((m.map (·.2)).getD j [])):=
   ⟨fun j => if hj:j < (m.map (·.2)).length then Classical.choose (g6 j hj) else .slice none 0 0,fun j hj => by
    have hj2:j < (m.map (·.2)).length:=by simpa using hj
    simp only [dif_pos hj2];exact Classical.choose_spec (g6 j hj2)⟩
  obtain ⟨f,hf⟩:=ex
  have hat:∀ (j:Nat) u,((List.range m.length).map f)[j]? = some u → j < m.length ∧ u = f j:=fun j u hj => by
   have hlt:=(List.getElem?_eq_some_iff.1 hj).1;simp at hlt;rw [List.getElem?_map,List.getElem?_range hlt] at hj;exact ⟨hlt,by simpa using hj.symm⟩
  refine ⟨(List.range m.length).map f,by simp,hk,⟨ad2,cap2,by simpa using g1,by simpa using g2,g3,fun _ => ⟨b,off,g5,fun j u hj => ?_⟩⟩,fun u hu => ?_,fun j u p hj hp => ?_⟩
  · obtain ⟨h7,rfl⟩:=hat j u hj
    exact (hf j h7).1
  · obtain ⟨j,hj⟩:=List.getElem?_of_mem hu
    obtain ⟨h7,rfl⟩:=hat j u hj;obtain ⟨a,n,c,e⟩:=(hf j h7).2.now.form;rw [e]
    rfl
  · obtain ⟨h7,rfl⟩:=hat j u hj
    have h8:=(hf j h7).2;rw [List.getD_eq_getElem?_getD,List.getElem?_map,hp] at h8;exact h8
theorem KyS.of {R:Nat → Prop} {w:World} {base:Nat} {vK vV:Value} {m:KM} {us:List Value} (hR:∀ k,R k → k < base) (hk:OwnR 9 w base vK (m.map fun p => strV p.1)) (hv:OwnR 23 w base vV us) (hl:us.length = m.length) (hs:∀ (j:Nat) u p,us[j]? = some u → m[j]? = some p → Sta R w (fun W => Reads W u p.2)):KyS R w vK vV m:=by
 have form:∀ {t:TypeId} {v:Value} {cs:List Value},OwnR t w base v cs → ∃ ad cap,v = .slice ad cs.length cap ∧ cs.length ≤ cap ∧ (ad = none → cap = 0) ∧ (0 < cs.length → ∃ b,ad = some ⟨b,0,none⟩ ∧ ¬ R b ∧ ∀ (j:Nat) u,cs[j]? = some u → w.cell? ⟨b,0 + j,none⟩ = some u):=fun {t v cs} h => by
  have hrd:=h.rd
  obtain ⟨_,⟨rfl,h0⟩ | ⟨g,cap,cur,rfl,hg,hh,hc,hm,hz,ht⟩⟩:=h
  · exact ⟨none,0,by rw [h0],by omega,fun _ => rfl,fun h => by omega⟩
  · refine ⟨_,cap,rfl,hc,(fun e => by cases e),fun _ => ⟨g,rfl,fun hr => by have:=hR g hr;omega,fun j u hj => ?_⟩⟩
    obtain ⟨b,off,e1,e2⟩:=hrd.at hj
    cases e1
    exact e2
 refine ⟨?_,?_⟩
 · obtain ⟨ad,cap,h1,h2,h3,h4⟩:=form hk
   refine ⟨ad,cap,by simpa using h1,by simpa using h2,h3,fun hp => ?_⟩
   obtain ⟨b,h5,h6,h7⟩:=h4 (by simpa using hp)
   refine ⟨b,0,h5,h6,fun j hj => h7 j _ ?_⟩
   have hj2:j < m.length:=by simpa using hj
   rw [List.getElem?_map,List.getElem?_eq_getElem hj2,List.getD_eq_getElem?_getD,List.getElem?_map,List.getElem?_eq_getElem hj2]
   rfl
 · obtain ⟨ad,cap,h1,h2,h3,h4⟩:=form hv
   refine ⟨ad,cap,by rw [List.length_map,← hl];exact h1,by rw [List.length_map,← hl];exact h2,h3,fun hp => ?_⟩
   obtain ⟨b,h5,h6,h7⟩:=h4 (by rw [hl];simpa using hp)
   refine ⟨b,0,h5,h6,fun j hj => ?_⟩
   have hj2:j < m.length:=by simpa using hj
   have hj3:j < us.length:=by omega
   refine ⟨us[j],h7 j _ (List.getElem?_eq_getElem hj3),?_⟩;have h8:=hs j _ _ (List.getElem?_eq_getElem hj3) (List.getElem?_eq_getElem hj2);rw [List.getD_eq_getElem?_getD,List.getElem?_map,List.getElem?_eq_getElem hj2];exact h8
structure OnG (w:World) (g2 g3 g4 g7:Nat) (vK vV:Value) (ac ks ts:List Value) (c1 c2 vk vv:Value) (W:World):Prop where
 b2:Blk W g2 [vK,vV] 43
 b3:Blk W g3 ac 62
 b4:Blk W g4 [.slice none 0 0,.slice none 0 0] 43
 b7:Blk W g7 [c1,c2] 43
 rk:OwnR 9 W w.heap.size vk ks
 rv:OwnR 23 W w.heap.size vv ts
 bel:Below w.heap.size w W
 n2:g2 ≠ g7
 n4:g4 ≠ g7
 ge:w.heap.size ≤ g7
section
variable {w:World} {g2 g3 g4 g7:Nat} {vK vV:Value} {ac ks ts:List Value} {c1 c2 vk vv:Value} {X Y:World}
theorem OnG.new (h:OnG w g2 g3 g4 g7 vK vV ac ks ts c1 c2 vk vv X) (hb:Below X.heap.size X Y):OnG w g2 g3 g4 g7 vK vV ac ks ts c1 c2 vk vv Y:=
 ⟨h.b2.below hb h.b2.lt,h.b3.below hb h.b3.lt,h.b4.below hb h.b4.lt,h.b7.below hb h.b7.lt,h.rk.below hb,h.rv.below hb,h.bel.trans (hb.mono h.bel.size),h.n2,h.n4,h.ge⟩
theorem OnG.drew (h:OnG w g2 g3 g4 g7 vK vV ac ks ts c1 c2 vk vv X):OnG w g2 g3 g4 g7 vK vV ac ks ts c1 c2 vk vv X.drew:=h.new (Below.refl _ _).drew
theorem OnG.appK {vk':Value} {ks':List Value} (h:OnG w g2 g3 g4 g7 vK vV ac ks ts c1 c2 vk vv X) (hr:OwnR 9 Y w.heap.size vk' ks') (hg:X.grownBy Y vk.ownBlock):OnG w g2 g3 g4 g7 vK vV ac ks' ts c1 c2 vk' vv Y:=by
 have hc:∀ (k:Nat) (ar:Array Value) (t:TypeId),X.heap[k]? = some (Obj.cells ar t (0,0)) → t ≠ 9 → Y.heap[k]? = X.heap[k]?:=fun k ar t hh ht => hg.block k (Array.getElem?_eq_some_iff.1 hh).1 (fun e => h.rk.neH hh ht e.symm)
 exact ⟨blk_same h.b2 (hc _ _ _ h.b2 (by decide)),blk_same h.b3 (hc _ _ _ h.b3 (by decide)),blk_same h.b4 (hc _ _ _ h.b4 (by decide)),blk_same h.b7 (hc _ _ _ h.b7 (by decide)),hr,h.rv.same (fun k ar hh _ => hc k ar _ hh (by decide)),⟨hg.os.trans h.bel.os,hg.tape.trans h.bel.tape,hg.output.trans h.bel.output,Nat.le_trans h.bel.size hg.size,fun k hk => (hg.block k (Nat.lt_of_lt_of_le hk h.bel.size) (fun e => by have:=(h.rk.lt k e.symm).1;omega)).trans (h.bel.block k hk)⟩,h.n2,h.n4,h.ge⟩
theorem OnG.appV {vv':Value} {ts':List Value} (h:OnG w g2 g3 g4 g7 vK vV ac ks ts c1 c2 vk vv X) (hr:OwnR 23 Y w.heap.size vv' ts') (hg:X.grownBy Y vv.ownBlock):OnG w g2 g3 g4 g7 vK vV ac ks ts' c1 c2 vk vv' Y:=by
 have hc:∀ (k:Nat) (ar:Array Value) (t:TypeId),X.heap[k]? = some (Obj.cells ar t (0,0)) → t ≠ 23 → Y.heap[k]? = X.heap[k]?:=fun k ar t hh ht => hg.block k (Array.getElem?_eq_some_iff.1 hh).1 (fun e => h.rv.neH hh ht e.symm)
 exact ⟨blk_same h.b2 (hc _ _ _ h.b2 (by decide)),blk_same h.b3 (hc _ _ _ h.b3 (by decide)),blk_same h.b4 (hc _ _ _ h.b4 (by decide)),blk_same h.b7 (hc _ _ _ h.b7 (by decide)),h.rk.same (fun k ar hh _ => hc k ar _ hh (by decide)),hr,⟨hg.os.trans h.bel.os,hg.tape.trans h.bel.tape,hg.output.trans h.bel.output,Nat.le_trans h.bel.size hg.size,fun k hk => (hg.block k (Nat.lt_of_lt_of_le hk h.bel.size) (fun e => by have:=(h.rv.lt k e.symm).1;omega)).trans (h.bel.block k hk)⟩,h.n2,h.n4,h.ge⟩
theorem OnG.set {d1 d2:Value} (h:OnG w g2 g3 g4 g7 vK vV ac ks ts c1 c2 vk vv X) (hb:Blk Y g7 [d1,d2] 43) (ho:Only g7 X Y):OnG w g2 g3 g4 g7 vK vV ac ks ts d1 d2 vk vv Y:=by
 have hc:∀ (k:Nat) (ar:Array Value) (t:TypeId),X.heap[k]? = some (Obj.cells ar t (0,0)) → t ≠ 43 → Y.heap[k]? = X.heap[k]?:=fun k ar t hh ht => ho.block k (fun e => by
  have h4:=h.b7
  unfold Blk at h4
  rw [e,h4] at hh
  simp only [Option.some.injEq,Obj.cells.injEq] at hh
  exact ht hh.2.1.symm) (Array.getElem?_eq_some_iff.1 hh).1
 exact ⟨h.b2.only ho h.n2,blk_same h.b3 (hc _ _ _ h.b3 (by decide)),h.b4.only ho h.n4,hb,h.rk.same (fun k ar hh _ => hc k ar _ hh (by decide)),h.rv.same (fun k ar hh _ => hc k ar _ hh (by decide)),h.bel.trans (ho.below h.ge h.bel.size),h.n2,h.n4,h.ge⟩
end
theorem sz_str:∀ w,(sizeOf 9).run Tryz.prog w = .ok 1 w:=fun w => by kernel_rfl
theorem sz_byt:∀ w,(sizeOf 23).run Tryz.prog w = .ok 1 w:=fun w => by kernel_rfl
theorem el_strs:Tryz.prog.elem 40 = 9:=by kernel_rfl
theorem el_byts:Tryz.prog.elem 41 = 23:=by kernel_rfl
theorem str_one (m:KM):∀ u ∈ (m.map fun p => strV p.1),u.oneCell' = true:=fun u hu => by
 obtain ⟨p,_,rfl⟩:=List.mem_map.1 hu
 rfl
theorem pl_le (ks:List Bs) (key:Bs):plI ks key ≤ ks.length:=by
 unfold plI
 exact (List.takeWhile_sublist _).length_le
def AlS (R:Nat → Prop) (w:World) (us:List Value) (m:KM):Prop:=us.length = m.length ∧ ∀ (j:Nat) u p,us[j]? = some u → m[j]? = some p → Sta R w (fun W => Reads W u p.2)
theorem AlS.take {R:Nat → Prop} {w:World} {us:List Value} {m:KM} (h:AlS R w us m) (i:Nat):AlS R w (us.take i) (m.take i):=by
 refine ⟨by rw [List.length_take,List.length_take,h.1],fun j u p h1 h2 => ?_⟩
 have hj:j < i:=by have:=(List.getElem?_eq_some_iff.1 h1).1;rw [List.length_take] at this;omega
 rw [List.getElem?_take_of_lt hj] at h1 h2
 exact h.2 j u p h1 h2
theorem AlS.drop {R:Nat → Prop} {w:World} {us:List Value} {m:KM} (h:AlS R w us m) (i:Nat):AlS R w (us.drop i) (m.drop i):=by
 refine ⟨by rw [List.length_drop,List.length_drop,h.1],fun j u p h1 h2 => ?_⟩
 rw [List.getElem?_drop] at h1 h2
 exact h.2 _ u p h1 h2
theorem AlS.app {R:Nat → Prop} {w:World} {us vs:List Value} {m k:KM} (h:AlS R w us m) (h2:AlS R w vs k):AlS R w (us ++ vs) (m ++ k):=by
 refine ⟨by rw [List.length_append,List.length_append,h.1,h2.1],fun j u p e1 e2 => ?_⟩
 by_cases hj:j < us.length
 · rw [List.getElem?_append_left hj] at e1
   rw [List.getElem?_append_left (by rw [← h.1];exact hj)] at e2
   exact h.2 j u p e1 e2
 · rw [List.getElem?_append_right (by omega)] at e1
   rw [List.getElem?_append_right (by rw [← h.1];omega),← h.1] at e2
   exact h2.2 _ u p e1 e2
theorem AlS.one {R:Nat → Prop} {w:World} {u:Value} {p:Bs × Bs} (h:Sta R w (fun W => Reads W u p.2)):AlS R w [u] [p]:=⟨rfl,fun j v q e1 e2 => by
 cases j with
 | zero => simp at e1 e2;rw [← e1,← e2];exact h
 | succ j => simp at e1⟩
theorem AlS.nil (R:Nat → Prop) (w:World):AlS R w [] []:=⟨rfl,fun j u p h => by cases h⟩
theorem one_fin {R:Nat → Prop} {w W:World} {vk vv:Value} {ks ts:List Value} {m2:KM} (hR:∀ k,R k → k < w.heap.size) (hb:Below w.heap.size w W) (hk:OwnR 9 W w.heap.size vk ks) (hv:OwnR 23 W w.heap.size vv ts) (e1:ks = m2.map fun p => strV p.1) (hal:AlS R w ts m2):KyS R W vk vv m2:=
 KyS.of hR (by rw [← e1];exact hk) hv hal.1 (fun j u p h1 h2 => (hal.2 j u p h1 h2).below hb)
theorem var_keysr {w:World} {g:Nat} {x y:Value} (hb:Blk w g [x,y] 43) {fn:Func} {p:Tmp} (h:fn.results = #[.cell p 43]) (tmps:Array Value) (hp:tmps.getD p undef = .pointer (some ⟨g,0,none⟩)):(results fn tmps).run Tryz.prog w = .ok (.agg [x,y].toArray) w:=by
 have hp':tmps[p]?.getD undef = .pointer (some ⟨g,0,none⟩):=by simpa using hp
 simp [results,h,hp',asAddr,var_keys hb]
set_option linter.unusedSimpArgs false in
theorem oOne_any (R:Nat → Prop) (vK vV:Value) (m:KM) (a:ActT) (vd:Value) (w:World) (hR:∀ k,R k → k < w.heap.size) (hm:KyS R w vK vV m) (hup:Rise m) (hd:Sta R w (fun W => Reads W vd a.data)) (hl:m.length < 100000):Calls Tryz.prog 75 #[.agg [vK,vV].toArray,.agg (actC a vd).toArray] w fun e w' => ∃ uK uV,e = .returned (.agg [uK,uV].toArray) ∧ KyS R w' uK uV (oneM m a) ∧ Below w.heap.size w w':=by
 obtain ⟨us,hul,hcK,hcV,hone,hsta⟩:=hm.rows
 obtain ⟨N,HN⟩:=sqn (m.length)
 obtain ⟨adK,cK,hvK,hk1,hk2,_⟩:=hm.k
 obtain ⟨adV,cV,hvV,hv1,hv2,_⟩:=hm.v
 rw [List.length_map,← HN.out] at hvK hvV hk1 hv1
 subst hvK
 subst hvV
 obtain ⟨ax,nx,cx,hvd⟩:=hd.now.form
 subst hvd
 obtain ⟨i,HPI⟩:=sqn (plI (m.map (·.1)) a.key)
 obtain ⟨pb,HPB⟩:=sqn (plB (m.map (·.1)) a.key)
 have HPL:Hid (∀ W,Below w.heap.size w W → Calls Tryz.prog 85 #[.agg [.slice adK N cK,.slice adV N cV].toArray,.string (strB a.key)] W fun e w' => e = .returned (.tuple #[.int .i64 (i:Int),.bool pb]) ∧ Below W.heap.size W w'):=fun W hb => by
  rw [HPI.out,HPB.out]
  exact oPlace_any _ _ _ a.key W ((hm.k.now).below hb) (by rw [List.length_map];omega)
 have HCUT:Hid (oneM m a = m.take i ++ ((if a.set then [(a.key,a.data)] else []) ++ m.drop (if pb = true then i + 1 else i))):=by
  show _ = _
  rw [HPI.out,HPB.out]
  exact oneM_cut hup a
 have hile:i ≤ N:=by rw [HPI.out,HN.out];have:=pl_le (m.map (·.1)) a.key;rw [List.length_map] at this;exact this
 have hile2:pb = true → i + 1 ≤ N:=fun h => by
  rw [HPB.out] at h
  have:=plB_lt h
  rw [List.length_map] at this
  rw [HPI.out,HN.out]
  omega
 have hax:KyS R w (.slice adK N cK) (.slice adV N cV) m:=hm
 obtain ⟨sk,HSK⟩:=sqn (strB a.key)
 obtain ⟨st,HST⟩:=sqn (a.set)
 rw [show actC a (.slice ax nx cx) = [.string (strB a.key),.bool a.set,.slice ax nx cx] from rfl]
 rw [← HSK.out] at HPL ⊢
 rw [← HST.out] at HCUT ⊢
 obtain ⟨i2,HI2⟩:=sqn (if pb = true then i + 1 else i)
 rw [← HI2.out] at HCUT
 have hi2:i2 ≤ N:=by rw [HI2.out];split;exact hile2 (by assumption);exact hile
 have HRX:Hid (∀ W,Below w.heap.size w W → CellsV W (.slice adK N cK) (m.map fun p => strV p.1) ∧ CellsV W (.slice adV N cV) us):=fun W hb => ⟨hcK.below hb,hcV.below hb⟩
 have HRW:Hid ((∀ u ∈ us,u.oneCell' = true) ∧ (∀ (j:Nat) u p,us[j]? = some u → m[j]? = some p → Sta R w (fun W => Reads W u p.2)) ∧ Sta R w (fun W => Reads W (.slice ax nx cx) a.data) ∧ ∀ k,R k → k < w.heap.size):=⟨hone,hsta,hd,hR⟩
 have HCP:Hid (N ≤ cK ∧ N ≤ cV):=⟨hk1,hv1⟩
 have HLN:Hid (m.length < 100000 ∧ us.length = m.length):=⟨hl,hul⟩
 have HIL:Hid (i ≤ N ∧ i2 ≤ N):=⟨hile,hi2⟩
 have HIU:Hid ((i ≤ (m.map fun p => strV p.1).length ∧ i ≤ us.length) ∧ i2 ≤ (m.map fun p => strV p.1).length ∧ i2 ≤ us.length):=by rw [List.length_map,hul,← HN.out];exact ⟨⟨hile,hile⟩,hi2,hi2⟩
 have HFA:Hid (pb = true → IntKind.i64.wrap ((i:Int) + 1) = (i2:Int)):=fun h => by
  have h1:=HI2.out
  rw [if_pos h] at h1
  have h2:=HLN.out.1
  have h3:=HN.out
  have h4:=HIL.out.2
  rw [h1,IntKind.wrap_i64]
  omega
 have HFB:Hid (pb = false → i = i2):=fun h => by have h1:=HI2.out;rw [h] at h1;exact (by simpa using h1.symm)
 clear hm hup hd hl hR hul hcK hcV hone hsta hk1 hk2 hv1 hv2 hile hile2 hi2
 go_enter Tryz.func75,Tryz.ntmps75
 obtain ⟨tk0,tk1,tk2,tk3,tk4,tk5,tk6,tk7⟩:=sqk8
 go_upto_region 3 with (first
  | (clear tk0;with_reducible refine wpSeq_boxW 43 (.tmp 0) [.slice adK N cK,.slice adV N cV] ?_ ?_ ?_ ?_
     · rfl
     · rfl
     · rfl
     intro g2 x1 nn;have H2:Hid (Blk x1 g2 [.slice adK N cK,.slice adV N cV] 43):=nn.blk;have HB:Hid (Below w.heap.size w x1):=nn.below;clear nn)
  | (clear tk1;with_reducible refine wpSeq_boxW 62 (.tmp 1) [.string sk,.bool st,.slice ax nx cx] ?_ ?_ ?_ ?_
     · rfl
     · rfl
     · rfl
     intro g3 x2 nn;have H3:Hid (Blk x2 g3 [.string sk,.bool st,.slice ax nx cx] 62):=nn.blk;replace H2:Hid (Blk x2 g2 [.slice adK N cK,.slice adV N cV] 43):=H2.out.below nn.below H2.out.lt;replace HB:Hid (Below w.heap.size w x2):=HB.out.trans (nn.below.mono HB.out.size);clear nn)
  | (clear tk2;with_reducible refine wpSeq_allocK ?_ ?_ ?_
     · rfl
     · rfl
     intro g4 x3 nn;have H4:Hid (Blk x3 g4 [.slice none 0 0,.slice none 0 0] 43):=nn.blk;have H4G:Hid (w.heap.size ≤ g4):=Nat.le_trans HB.out.size nn.ge;replace H2:Hid (Blk x3 g2 [.slice adK N cK,.slice adV N cV] 43):=H2.out.below nn.below H2.out.lt;replace H3:Hid (Blk x3 g3 [.string sk,.bool st,.slice ax nx cx] 62):=H3.out.below nn.below H3.out.lt;replace HB:Hid (Below w.heap.size w x3):=HB.out.trans (nn.below.mono HB.out.size);have c3:x3.cell? ⟨g3,0,none⟩ = some (.string sk):=H3.out.cell 0;clear nn)
  | (clear tk3;with_reducible refine wpSeq_loadW 43 (.tmp 2) g2 0 [.slice adK N cK,.slice adV N cV] _ (Blk.range H2.out) Tryz.underlying43 rfl (info_keys _ _) ?_ ?_ ?_ ?_
     · rfl
     · rfl
     · rfl)
  | (clear tk4;go_at_call 85;refine (HPL.out _ HB.out).mono ?_;rintro e4 x4 ⟨rfl,bl⟩
     replace H2:Hid (Blk x4 g2 [.slice adK N cK,.slice adV N cV] 43):=H2.out.below bl H2.out.lt;replace H3:Hid (Blk x4 g3 [.string sk,.bool st,.slice ax nx cx] 62):=H3.out.below bl H3.out.lt;replace H4:Hid (Blk x4 g4 [.slice none 0 0,.slice none 0 0] 43):=H4.out.below bl H4.out.lt;replace HB:=sqt HB bl;clear bl c3)
  | (clear tk5;with_reducible refine wpSeq_buildK0 ?_ ?_ ?_
     · rfl
     · rfl)
  | (clear tk6;with_reducible refine wpSeq_allocK ?_ ?_ ?_
     · rfl
     · rfl
     intro g7 x5 nn;have H7:Hid (Blk x5 g7 [.slice none 0 0,.slice none 0 0] 43 ∧ Below x4.heap.size x4 x5 ∧ x4.heap.size ≤ g7):=⟨nn.blk,nn.below,nn.ge⟩;clear nn)
  | (clear tk7;with_reducible refine wpSeq_storeRow 43 (.tmp 7) (.tmp 15) g7 [.slice none 0 0,.slice none 0 0] [.slice none 0 0,.slice none 0 0] H7.out.1 rfl (info_keys _ _) (one_keys _ _ _ _ _ _) ?_ ?_ ?_ ?_ ?_
     · rfl
     · rfl
     · rfl
     · rfl
     intro y0 sr;have hb7:Below x4.heap.size x4 y0:=H7.out.2.1.trans (sr.only.below H7.out.2.2 H7.out.2.1.size);have HI:Hid (OnG w g2 g3 g4 g7 (.slice adK N cK) (.slice adV N cV) [.string sk,.bool st,.slice ax nx cx] [] [] (.slice none 0 0) (.slice none 0 0) (.slice none 0 0) (.slice none 0 0) y0):=⟨H2.out.below hb7 H2.out.lt,H3.out.below hb7 H3.out.lt,H4.out.below hb7 H4.out.lt,sr.blk,OwnR.nil _ _ _,OwnR.nil _ _ _,HB.out.trans (hb7.mono HB.out.size),(by have h1:=H2.out.lt;have h2:=H7.out.2.2;omega),(by have h1:=H4.out.lt;have h2:=H7.out.2.2;omega),Nat.le_trans HB.out.size H7.out.2.2⟩
     have HG4:Hid (w.heap.size ≤ g4):=H4G.out;clear sr hb7))
 clear H2 H3 H4 H7 HB HPL H4G
 refine wp_region_held_drew (S:=fun wx => Blk wx g2 [.slice adK N cK,.slice adV N cV] 43) (by kernel_rfl) HI.out.b2.drew ?_
 intro hS
 refine tkc 0 (.pointer (some ⟨g7,0,none⟩)) rfl hS ?_
 simp only [Act.put,sq]
 refine tkc 2 (.pointer (some ⟨g2,0,none⟩)) rfl hS ?_
 simp only [Act.put,sq]
 refine tka 3 (.slice adK N cK) rfl (fun wx hx => by (have cx:wx.cell? ⟨g2,0,none⟩ = some (.slice adK N cK):=hx.cell 0;simp [go_sem,cx])) hS ?_
 simp only [Act.put,sq]
 refine tkc 4 (.int .i64 (i:Int)) rfl hS ?_
 simp only [Act.put,sq]
 refine tka 5 (.slice adK i cK) rfl (fun wx hx => by exact cut_hi 40 9 Tryz.underlying40 el_strs sz_str adK N cK i HIL.out.1 HCP.out.1 _ _ (.tmp 19) (.tmp 20) rfl rfl rfl _) hS ?_
 simp only [Act.put,sq]
 have cq:y0.drew.cell? ⟨g7,0,none⟩ = some (.slice none 0 0):=HI.out.drew.b7.cell 0
 refine wpAnyH_step 1 (.slice none 0 0) y0.drew (by kernel_rfl) rfl (by rfl) (by simp [go_sem,cq]) hS ?_
 clear cq
 simp only [Act.put,sq]
 refine wpAnyH_law 6 (by kernel_rfl) rfl (by rfl) (app_any 40 9 Tryz.underlying40 _ _ Tryz.infoStr rfl (by decide) (.tmp 17) (.tmp 21) w.heap.size (.slice none 0 0) (.slice adK i cK) (([]:List Value)) ((m.map fun p => strV p.1).take i) HI.out.drew.rk (CellsV.hi (HRX.out _ HI.out.drew.bel).1 HIU.out.1.1) (fun u hu => str_one m u (List.mem_of_mem_take hu)) (by have h1:=HLN.out;simp [List.length_take];omega) HI.out.bel.size rfl rfl rfl ?_)
 intro v3 z3 hr3 hg3 _
 obtain ⟨a3,c3,hv3⟩:=hr3.form
 obtain ⟨n3,hw3⟩:∃ n,v3 = .slice a3 n c3:=⟨_,hv3⟩
 clear hv3
 subst hw3
 have hI3:=HI.out.drew.appK hr3 hg3
 refine ⟨hI3.b2,?_⟩
 simp only [Act.put,sq]
 refine tkc 7 (.pointer (some ⟨g7,0,none⟩)) rfl hI3.b2 ?_
 simp only [Act.put,sq]
 have cz:z3.cell? ⟨g7,0,none⟩ = some (.slice none 0 0):=hI3.b7.cell 0
 have dz:z3.frozen? ⟨g7,0,none⟩ = false:=hI3.b7.frozen 0
 obtain ⟨y3,HX3⟩:∃ y,Hid (y = z3.setCell ⟨g7,0,none⟩ (.slice a3 n3 c3)):=⟨_,rfl⟩
 have ho3:Only g7 z3 y3:=by rw [HX3.out];exact Only.setCell (Only.refl _ _) _ _
 have hJ3:=hI3.set (Y:=y3) (d1:=.slice a3 n3 c3) (d2:=.slice none 0 0) (by rw [HX3.out];exact hI3.b7.set 0 _) ho3
 refine wpAnyH_skip 8 y3 (by kernel_rfl) rfl (by rfl) (by rw [HX3.out];simp [go_sem,cz,dz]) hJ3.b2 ?_
 simp only [Act.put,sq]
 refine wpAnyH_done (by kernel_rfl) ?_ _
 clear hS cz dz hr3 hg3 ho3 HX3 hI3
 replace HI:=Hid.mk' hJ3
 clear hJ3
 go_upto_region 4 with fail
 refine wp_region_held_drew (S:=fun wx => Blk wx g2 [.slice adK N cK,.slice adV N cV] 43) (by kernel_rfl) HI.out.b2.drew ?_
 intro hS
 refine tkc 0 (.pointer (some ⟨g7,1,none⟩)) rfl hS ?_
 simp only [Act.put,sq]
 refine tkc 2 (.pointer (some ⟨g2,1,none⟩)) rfl hS ?_
 simp only [Act.put,sq]
 refine tka 3 (.slice adV N cV) rfl (fun wx hx => by (have cx:wx.cell? ⟨g2,1,none⟩ = some (.slice adV N cV):=hx.cell 1;simp [go_sem,cx])) hS ?_
 simp only [Act.put,sq]
 refine tkc 4 (.int .i64 (i:Int)) rfl hS ?_
 simp only [Act.put,sq]
 refine tka 5 (.slice adV i cV) rfl (fun wx hx => by exact cut_hi 41 23 Tryz.underlying41 el_byts sz_byt adV N cV i HIL.out.1 HCP.out.2 _ _ (.tmp 27) (.tmp 28) rfl rfl rfl _) hS ?_
 simp only [Act.put,sq]
 have cq:y3.drew.cell? ⟨g7,1,none⟩ = some (.slice none 0 0):=HI.out.drew.b7.cell 1
 refine wpAnyH_step 1 (.slice none 0 0) y3.drew (by kernel_rfl) rfl (by rfl) (by simp [go_sem,cq]) hS ?_
 clear cq
 simp only [Act.put,sq]
 refine wpAnyH_law 6 (by kernel_rfl) rfl (by rfl) (app_any 41 23 Tryz.underlying41 _ _ Tryz.infobsJ rfl (by decide) (.tmp 25) (.tmp 29) w.heap.size (.slice none 0 0) (.slice adV i cV) (([]:List Value)) (us.take i) HI.out.drew.rv (CellsV.hi (HRX.out _ HI.out.drew.bel).2 HIU.out.1.2) (fun u hu => HRW.out.1 u (List.mem_of_mem_take hu)) (by have h1:=HLN.out;simp [List.length_take];omega) HI.out.bel.size rfl rfl rfl ?_)
 intro v4 z4 hr4 hg4 _
 obtain ⟨a4,c4,hv4⟩:=hr4.form
 obtain ⟨n4,hw4⟩:∃ n,v4 = .slice a4 n c4:=⟨_,hv4⟩
 clear hv4
 subst hw4
 have hI4:=HI.out.drew.appV hr4 hg4
 refine ⟨hI4.b2,?_⟩
 simp only [Act.put,sq]
 refine tkc 7 (.pointer (some ⟨g7,1,none⟩)) rfl hI4.b2 ?_
 simp only [Act.put,sq]
 have cz:z4.cell? ⟨g7,1,none⟩ = some (.slice none 0 0):=hI4.b7.cell 1
 have dz:z4.frozen? ⟨g7,1,none⟩ = false:=hI4.b7.frozen 1
 obtain ⟨y4,HX4⟩:∃ y,Hid (y = z4.setCell ⟨g7,1,none⟩ (.slice a4 n4 c4)):=⟨_,rfl⟩
 have ho4:Only g7 z4 y4:=by rw [HX4.out];exact Only.setCell (Only.refl _ _) _ _
 have hJ4:=hI4.set (Y:=y4) (d1:=.slice a3 n3 c3) (d2:=.slice a4 n4 c4) (by rw [HX4.out];exact hI4.b7.set 1 _) ho4
 refine wpAnyH_skip 8 y4 (by kernel_rfl) rfl (by rfl) (by rw [HX4.out];simp [go_sem,cz,dz]) hJ4.b2 ?_
 simp only [Act.put,sq]
 refine wpAnyH_done (by kernel_rfl) ?_ _
 clear hS cz dz hr4 hg4 ho4 HX4 hI4
 replace HI:=Hid.mk' hJ4
 clear hJ4
 have HAL:Hid (AlS R w us m):=⟨HLN.out.2,HRW.out.2.1⟩
 cases st
 · skip
   have c5:y4.cell? ⟨g3,1,none⟩ = some (.bool false):=HI.out.b3.cell 1
   go_upto_region 8 with fail
   clear c5
   cases pb
   all_goals (
    try (have f9:=HFA.out rfl)
    go_upto_region 10 with fail
    try clear f9
    refine wp_region_held_drew (S:=fun wx => Blk wx g2 [.slice adK N cK,.slice adV N cV] 43) (by kernel_rfl) HI.out.b2.drew ?_
    intro hS;refine tkc 0 (.pointer (some ⟨g7,0,none⟩)) rfl hS ?_;simp only [Act.put,sq];refine tkc 2 (.pointer (some ⟨g2,0,none⟩)) rfl hS ?_;simp only [Act.put,sq];refine tka 3 (.slice adK N cK) rfl (fun wx hx => by (have cx:wx.cell? ⟨g2,0,none⟩ = some (.slice adK N cK):=hx.cell 0;simp [go_sem,cx])) hS ?_
    simp only [Act.put,sq];refine tka 4 (.int .i64 (i2:Int)) rfl (fun wx hx => by first | (simp [go_sem];done) | (simp [go_sem];rw [HFB.out rfl])) hS ?_
    simp only [Act.put,sq];refine tka 5 (loV adK N cK i2) rfl (fun wx hx => by exact cut_lo 40 9 Tryz.underlying40 el_strs sz_str adK N cK i2 HIL.out.2 HCP.out.1 _ _ (.tmp 54) (.tmp 55) rfl rfl rfl _) hS ?_
    simp only [Act.put,sq];have cq:y4.drew.cell? ⟨g7,0,none⟩ = some (.slice a3 n3 c3):=HI.out.drew.b7.cell 0;refine wpAnyH_step 1 (.slice a3 n3 c3) y4.drew (by kernel_rfl) rfl (by rfl) (by simp [go_sem,cq]) hS ?_
    clear cq;simp only [Act.put,sq];refine wpAnyH_law 6 (by kernel_rfl) rfl (by rfl) (app_any 40 9 Tryz.underlying40 _ _ Tryz.infoStr rfl (by decide) (.tmp 52) (.tmp 56) w.heap.size (.slice a3 n3 c3) (loV adK N cK i2) ((([]:List Value) ++ ((m.map fun p => strV p.1).take i))) ((m.map fun p => strV p.1).drop i2) HI.out.drew.rk (CellsV.lo (HRX.out _ HI.out.drew.bel).1 HIU.out.2.1) (fun u hu => str_one m u (List.mem_of_mem_drop hu)) (by have h1:=HLN.out;simp [List.length_take,List.length_drop];omega) HI.out.bel.size rfl rfl rfl ?_)
    intro v10 z10 hr10 hg10 _;obtain ⟨a10,c10,hv10⟩:=hr10.form;obtain ⟨n10,hw10⟩:∃ n,v10 = .slice a10 n c10:=⟨_,hv10⟩;clear hv10;subst hw10;have hI10:=HI.out.drew.appK hr10 hg10;refine ⟨hI10.b2,?_⟩;simp only [Act.put,sq];refine tkc 7 (.pointer (some ⟨g7,0,none⟩)) rfl hI10.b2 ?_;simp only [Act.put,sq];have cz:z10.cell? ⟨g7,0,none⟩ = some (.slice a3 n3 c3):=hI10.b7.cell 0;have dz:z10.frozen? ⟨g7,0,none⟩ = false:=hI10.b7.frozen 0;obtain ⟨y10,HX10⟩:∃ y,Hid (y = z10.setCell ⟨g7,0,none⟩ (.slice a10 n10 c10)):=⟨_,rfl⟩;have ho10:Only g7 z10 y10:=by rw [HX10.out];exact Only.setCell (Only.refl _ _) _ _
    have hJ10:=hI10.set (Y:=y10) (d1:=.slice a10 n10 c10) (d2:=.slice a4 n4 c4) (by rw [HX10.out];exact hI10.b7.set 0 _) ho10
    refine wpAnyH_skip 8 y10 (by kernel_rfl) rfl (by rfl) (by rw [HX10.out];simp [go_sem,cz,dz]) hJ10.b2 ?_
    simp only [Act.put,sq];refine wpAnyH_done (by kernel_rfl) ?_ _
    clear hS cz dz hr10 hg10 ho10 HX10 hI10;replace HI:=Hid.mk' hJ10;clear hJ10
    go_upto_region 11 with fail
    refine wp_region_held_drew (S:=fun wx => Blk wx g2 [.slice adK N cK,.slice adV N cV] 43) (by kernel_rfl) HI.out.b2.drew ?_
    intro hS;refine tkc 0 (.pointer (some ⟨g7,1,none⟩)) rfl hS ?_;simp only [Act.put,sq];refine tkc 2 (.pointer (some ⟨g2,1,none⟩)) rfl hS ?_;simp only [Act.put,sq];refine tka 3 (.slice adV N cV) rfl (fun wx hx => by (have cx:wx.cell? ⟨g2,1,none⟩ = some (.slice adV N cV):=hx.cell 1;simp [go_sem,cx])) hS ?_
    simp only [Act.put,sq];refine tka 4 (.int .i64 (i2:Int)) rfl (fun wx hx => by first | (simp [go_sem];done) | (simp [go_sem];rw [HFB.out rfl])) hS ?_
    simp only [Act.put,sq];refine tka 5 (loV adV N cV i2) rfl (fun wx hx => by exact cut_lo 41 23 Tryz.underlying41 el_byts sz_byt adV N cV i2 HIL.out.2 HCP.out.2 _ _ (.tmp 62) (.tmp 63) rfl rfl rfl _) hS ?_
    simp only [Act.put,sq];have cq:y10.drew.cell? ⟨g7,1,none⟩ = some (.slice a4 n4 c4):=HI.out.drew.b7.cell 1;refine wpAnyH_step 1 (.slice a4 n4 c4) y10.drew (by kernel_rfl) rfl (by rfl) (by simp [go_sem,cq]) hS ?_
    clear cq;simp only [Act.put,sq];refine wpAnyH_law 6 (by kernel_rfl) rfl (by rfl) (app_any 41 23 Tryz.underlying41 _ _ Tryz.infobsJ rfl (by decide) (.tmp 60) (.tmp 64) w.heap.size (.slice a4 n4 c4) (loV adV N cV i2) ((([]:List Value) ++ (us.take i))) (us.drop i2) HI.out.drew.rv (CellsV.lo (HRX.out _ HI.out.drew.bel).2 HIU.out.2.2) (fun u hu => HRW.out.1 u (List.mem_of_mem_drop hu)) (by have h1:=HLN.out;simp [List.length_take,List.length_drop];omega) HI.out.bel.size rfl rfl rfl ?_)
    intro v11 z11 hr11 hg11 _;obtain ⟨a11,c11,hv11⟩:=hr11.form;obtain ⟨n11,hw11⟩:∃ n,v11 = .slice a11 n c11:=⟨_,hv11⟩;clear hv11;subst hw11;have hI11:=HI.out.drew.appV hr11 hg11;refine ⟨hI11.b2,?_⟩;simp only [Act.put,sq];refine tkc 7 (.pointer (some ⟨g7,1,none⟩)) rfl hI11.b2 ?_;simp only [Act.put,sq];have cz:z11.cell? ⟨g7,1,none⟩ = some (.slice a4 n4 c4):=hI11.b7.cell 1;have dz:z11.frozen? ⟨g7,1,none⟩ = false:=hI11.b7.frozen 1;obtain ⟨y11,HX11⟩:∃ y,Hid (y = z11.setCell ⟨g7,1,none⟩ (.slice a11 n11 c11)):=⟨_,rfl⟩;have ho11:Only g7 z11 y11:=by rw [HX11.out];exact Only.setCell (Only.refl _ _) _ _
    have hJ11:=hI11.set (Y:=y11) (d1:=.slice a10 n10 c10) (d2:=.slice a11 n11 c11) (by rw [HX11.out];exact hI11.b7.set 1 _) ho11
    refine wpAnyH_skip 8 y11 (by kernel_rfl) rfl (by rfl) (by rw [HX11.out];simp [go_sem,cz,dz]) hJ11.b2 ?_
    simp only [Act.put,sq];refine wpAnyH_done (by kernel_rfl) ?_ _
    clear hS cz dz hr11 hg11 ho11 HX11 hI11;replace HI:=Hid.mk' hJ11;clear hJ11;obtain ⟨tc0,tc1⟩:=sqk2
    go_wp2_with (first
     | (clear tc0;with_reducible refine wpSeq_loadW 43 (.tmp 7) g7 0 [.slice a10 n10 c10,.slice a11 n11 c11] _ (Blk.range HI.out.b7) Tryz.underlying43 rfl (info_keys _ _) ?_ ?_ ?_ ?_
        · rfl
        · rfl
        · rfl)
     | (clear tc1;with_reducible refine wpSeq_storeRow 43 (.tmp 4) (.tmp 67) g4 [.slice none 0 0,.slice none 0 0] [.slice a10 n10 c10,.slice a11 n11 c11] HI.out.b4 rfl (info_keys _ _) (one_keys _ _ _ _ _ _) ?_ ?_ ?_ ?_ ?_
        · rfl
        · rfl
        · rfl
        · rfl
        intro y12 sr;have HF:Hid (Blk y12 g4 [.slice a10 n10 c10,.slice a11 n11 c11] 43 ∧ Only g4 y11 y12):=⟨sr.blk,sr.only⟩;clear sr))
    refine bodyPost_ret (var_keysr HF.out.1 rfl _ rfl) rfl ?_
    have hc:∀ (k:Nat) (ar:Array Value) (t:TypeId),y11.heap[k]? = some (Obj.cells ar t (0,0)) → t ≠ 43 → y12.heap[k]? = y11.heap[k]?:=fun k ar t hh ht => HF.out.2.block k (fun e => by
     have h4:=HI.out.b4;unfold Blk at h4;rw [e,h4] at hh;simp only [Option.some.injEq,Obj.cells.injEq] at hh;exact ht hh.2.1.symm) (Array.getElem?_eq_some_iff.1 hh).1
    have hbw:Below w.heap.size w y12:=HI.out.bel.trans (HF.out.2.below HG4.out HI.out.bel.size);refine ⟨_,_,rfl,?_,hbw⟩;rw [HCUT.out];exact one_fin HRW.out.2.2.2 hbw (HI.out.rk.same (fun k ar hh _ => hc k ar _ hh (by decide))) (HI.out.rv.same (fun k ar hh _ => hc k ar _ hh (by decide))) (by simp [List.map_append,List.map_take,List.map_drop,strV]) (by simpa using (AlS.app (AlS.app (AlS.nil _ _) (HAL.out.take i)) (HAL.out.drop i2))))
 · skip
   have c5:y4.cell? ⟨g3,1,none⟩ = some (.bool true):=HI.out.b3.cell 1
   go_upto_region 6 with fail
   clear c5;have c6:y4.cell? ⟨g7,0,none⟩ = some (.slice a3 n3 c3):=HI.out.b7.cell 0;have c7:y4.cell? ⟨g3,0,none⟩ = some (.string sk):=HI.out.b3.cell 0;obtain ⟨ta0,ta1⟩:=sqk2
   go_upto_region 7 with (first
    | (clear ta0;with_reducible refine wpSeq_buildS1 (.tmp 37) sk ?_ ?_ ?_ ?_
       · rfl
       · rfl
       · rfl
       intro g8 x6 nn;have HB8:Hid (Blk x6 g8 [.string sk] 9):=nn.blk;replace HI:=Hid.mk' (HI.out.new nn.below);clear nn c6 c7)
    | (clear ta1;at_builtin;refine wpList_appK (.tmp 35) (.tmp 38) w.heap.size (.slice a3 n3 c3) sk (([]:List Value) ++ ((m.map fun p => strV p.1).take i)) g8 HI.out.rk HB8.out (by have h1:=HLN.out;simp [List.length_take];omega) HI.out.bel.size ?_ ?_ ?_ ?_ ?_
       · rfl
       · rfl
       · rfl
       · rfl
       intro v6 z6 hr6 hg6 hb6;obtain ⟨a6,c6,hv6⟩:=hr6.form;obtain ⟨n6,hw6⟩:∃ n,v6 = .slice a6 n c6:=⟨_,hv6⟩;clear hv6;subst hw6;replace HI:=Hid.mk' (HI.out.appK hr6 hg6);have e5:z6.cell? ⟨g7,0,none⟩ = some (.slice a3 n3 c3):=HI.out.b7.cell 0;have d5:z6.frozen? ⟨g7,0,none⟩ = false:=HI.out.b7.frozen 0;clear hr6 hg6 hb6))
   clear e5 d5;obtain ⟨y6,HY6⟩:∃ y,Hid (y = z6.setCell ⟨g7,0,none⟩ (.slice a6 n6 c6)):=⟨_,rfl⟩;rw [← HY6.out];replace HI:=Hid.mk' (HI.out.set (Y:=y6) (d1:=.slice a6 n6 c6) (d2:=.slice a4 n4 c4) (by rw [HY6.out];exact HI.out.b7.set 0 _) (by rw [HY6.out];exact Only.setCell (Only.refl _ _) _ _))
   clear HY6;have e6:y6.cell? ⟨g7,1,none⟩ = some (.slice a4 n4 c4):=HI.out.b7.cell 1;have e7:y6.cell? ⟨g3,2,none⟩ = some (.slice ax nx cx):=HI.out.b3.cell 2;obtain ⟨tb0,tb1⟩:=sqk2
   go_upto_region 8 with (first
    | (clear tb0;with_reducible refine wpSeq_buildTT (.tmp 44) (ax,nx,cx) ?_ ?_ ?_ ?_
       · rfl
       · rfl
       · rfl
       intro g9 x7 nn;have HB9:Hid (Blk x7 g9 [mkS (ax,nx,cx)] 23):=nn.blk;replace HI:=Hid.mk' (HI.out.new nn.below);clear nn e6 e7)
    | (clear tb1;at_builtin;refine wpList_appT15 (.tmp 42) (.tmp 45) w.heap.size (.slice a4 n4 c4) (ax,nx,cx) (([]:List Value) ++ (us.take i)) g9 HI.out.rv HB9.out (by have h1:=HLN.out;simp [List.length_take];omega) HI.out.bel.size ?_ ?_ ?_ ?_ ?_
       · rfl
       · rfl
       · rfl
       · rfl
       intro v7 z7 hr7 hg7 hb7;obtain ⟨a7,c7,hv7⟩:=hr7.form;obtain ⟨n7,hw7⟩:∃ n,v7 = .slice a7 n c7:=⟨_,hv7⟩;clear hv7;subst hw7;replace HI:=Hid.mk' (HI.out.appV hr7 hg7);have e5:z7.cell? ⟨g7,1,none⟩ = some (.slice a4 n4 c4):=HI.out.b7.cell 1;have d5:z7.frozen? ⟨g7,1,none⟩ = false:=HI.out.b7.frozen 1;clear hr7 hg7 hb7))
   clear e5 d5;obtain ⟨y7,HY7⟩:∃ y,Hid (y = z7.setCell ⟨g7,1,none⟩ (.slice a7 n7 c7)):=⟨_,rfl⟩;rw [← HY7.out];replace HI:=Hid.mk' (HI.out.set (Y:=y7) (d1:=.slice a6 n6 c6) (d2:=.slice a7 n7 c7) (by rw [HY7.out];exact HI.out.b7.set 1 _) (by rw [HY7.out];exact Only.setCell (Only.refl _ _) _ _))
   clear HY7
   cases pb
   all_goals (
    try (have f9:=HFA.out rfl)
    go_upto_region 10 with fail
    try clear f9
    refine wp_region_held_drew (S:=fun wx => Blk wx g2 [.slice adK N cK,.slice adV N cV] 43) (by kernel_rfl) HI.out.b2.drew ?_
    intro hS;refine tkc 0 (.pointer (some ⟨g7,0,none⟩)) rfl hS ?_;simp only [Act.put,sq];refine tkc 2 (.pointer (some ⟨g2,0,none⟩)) rfl hS ?_;simp only [Act.put,sq];refine tka 3 (.slice adK N cK) rfl (fun wx hx => by (have cx:wx.cell? ⟨g2,0,none⟩ = some (.slice adK N cK):=hx.cell 0;simp [go_sem,cx])) hS ?_
    simp only [Act.put,sq];refine tka 4 (.int .i64 (i2:Int)) rfl (fun wx hx => by first | (simp [go_sem];done) | (simp [go_sem];rw [HFB.out rfl])) hS ?_
    simp only [Act.put,sq];refine tka 5 (loV adK N cK i2) rfl (fun wx hx => by exact cut_lo 40 9 Tryz.underlying40 el_strs sz_str adK N cK i2 HIL.out.2 HCP.out.1 _ _ (.tmp 54) (.tmp 55) rfl rfl rfl _) hS ?_
    simp only [Act.put,sq];have cq:y7.drew.cell? ⟨g7,0,none⟩ = some (.slice a6 n6 c6):=HI.out.drew.b7.cell 0;refine wpAnyH_step 1 (.slice a6 n6 c6) y7.drew (by kernel_rfl) rfl (by rfl) (by simp [go_sem,cq]) hS ?_
    clear cq;simp only [Act.put,sq];refine wpAnyH_law 6 (by kernel_rfl) rfl (by rfl) (app_any 40 9 Tryz.underlying40 _ _ Tryz.infoStr rfl (by decide) (.tmp 52) (.tmp 56) w.heap.size (.slice a6 n6 c6) (loV adK N cK i2) (((([]:List Value) ++ ((m.map fun p => strV p.1).take i)) ++ [.string sk])) ((m.map fun p => strV p.1).drop i2) HI.out.drew.rk (CellsV.lo (HRX.out _ HI.out.drew.bel).1 HIU.out.2.1) (fun u hu => str_one m u (List.mem_of_mem_drop hu)) (by have h1:=HLN.out;simp [List.length_take,List.length_drop];omega) HI.out.bel.size rfl rfl rfl ?_)
    intro v10 z10 hr10 hg10 _;obtain ⟨a10,c10,hv10⟩:=hr10.form;obtain ⟨n10,hw10⟩:∃ n,v10 = .slice a10 n c10:=⟨_,hv10⟩;clear hv10;subst hw10;have hI10:=HI.out.drew.appK hr10 hg10;refine ⟨hI10.b2,?_⟩;simp only [Act.put,sq];refine tkc 7 (.pointer (some ⟨g7,0,none⟩)) rfl hI10.b2 ?_;simp only [Act.put,sq];have cz:z10.cell? ⟨g7,0,none⟩ = some (.slice a6 n6 c6):=hI10.b7.cell 0;have dz:z10.frozen? ⟨g7,0,none⟩ = false:=hI10.b7.frozen 0;obtain ⟨y10,HX10⟩:∃ y,Hid (y = z10.setCell ⟨g7,0,none⟩ (.slice a10 n10 c10)):=⟨_,rfl⟩;have ho10:Only g7 z10 y10:=by rw [HX10.out];exact Only.setCell (Only.refl _ _) _ _
    have hJ10:=hI10.set (Y:=y10) (d1:=.slice a10 n10 c10) (d2:=.slice a7 n7 c7) (by rw [HX10.out];exact hI10.b7.set 0 _) ho10
    refine wpAnyH_skip 8 y10 (by kernel_rfl) rfl (by rfl) (by rw [HX10.out];simp [go_sem,cz,dz]) hJ10.b2 ?_
    simp only [Act.put,sq];refine wpAnyH_done (by kernel_rfl) ?_ _
    clear hS cz dz hr10 hg10 ho10 HX10 hI10;replace HI:=Hid.mk' hJ10;clear hJ10
    go_upto_region 11 with fail
    refine wp_region_held_drew (S:=fun wx => Blk wx g2 [.slice adK N cK,.slice adV N cV] 43) (by kernel_rfl) HI.out.b2.drew ?_
    intro hS;refine tkc 0 (.pointer (some ⟨g7,1,none⟩)) rfl hS ?_;simp only [Act.put,sq];refine tkc 2 (.pointer (some ⟨g2,1,none⟩)) rfl hS ?_;simp only [Act.put,sq];refine tka 3 (.slice adV N cV) rfl (fun wx hx => by (have cx:wx.cell? ⟨g2,1,none⟩ = some (.slice adV N cV):=hx.cell 1;simp [go_sem,cx])) hS ?_
    simp only [Act.put,sq];refine tka 4 (.int .i64 (i2:Int)) rfl (fun wx hx => by first | (simp [go_sem];done) | (simp [go_sem];rw [HFB.out rfl])) hS ?_
    simp only [Act.put,sq];refine tka 5 (loV adV N cV i2) rfl (fun wx hx => by exact cut_lo 41 23 Tryz.underlying41 el_byts sz_byt adV N cV i2 HIL.out.2 HCP.out.2 _ _ (.tmp 62) (.tmp 63) rfl rfl rfl _) hS ?_
    simp only [Act.put,sq];have cq:y10.drew.cell? ⟨g7,1,none⟩ = some (.slice a7 n7 c7):=HI.out.drew.b7.cell 1;refine wpAnyH_step 1 (.slice a7 n7 c7) y10.drew (by kernel_rfl) rfl (by rfl) (by simp [go_sem,cq]) hS ?_
    clear cq;simp only [Act.put,sq];refine wpAnyH_law 6 (by kernel_rfl) rfl (by rfl) (app_any 41 23 Tryz.underlying41 _ _ Tryz.infobsJ rfl (by decide) (.tmp 60) (.tmp 64) w.heap.size (.slice a7 n7 c7) (loV adV N cV i2) (((([]:List Value) ++ (us.take i)) ++ [mkS (ax,nx,cx)])) (us.drop i2) HI.out.drew.rv (CellsV.lo (HRX.out _ HI.out.drew.bel).2 HIU.out.2.2) (fun u hu => HRW.out.1 u (List.mem_of_mem_drop hu)) (by have h1:=HLN.out;simp [List.length_take,List.length_drop];omega) HI.out.bel.size rfl rfl rfl ?_)
    intro v11 z11 hr11 hg11 _;obtain ⟨a11,c11,hv11⟩:=hr11.form;obtain ⟨n11,hw11⟩:∃ n,v11 = .slice a11 n c11:=⟨_,hv11⟩;clear hv11;subst hw11;have hI11:=HI.out.drew.appV hr11 hg11;refine ⟨hI11.b2,?_⟩;simp only [Act.put,sq];refine tkc 7 (.pointer (some ⟨g7,1,none⟩)) rfl hI11.b2 ?_;simp only [Act.put,sq];have cz:z11.cell? ⟨g7,1,none⟩ = some (.slice a7 n7 c7):=hI11.b7.cell 1;have dz:z11.frozen? ⟨g7,1,none⟩ = false:=hI11.b7.frozen 1;obtain ⟨y11,HX11⟩:∃ y,Hid (y = z11.setCell ⟨g7,1,none⟩ (.slice a11 n11 c11)):=⟨_,rfl⟩;have ho11:Only g7 z11 y11:=by rw [HX11.out];exact Only.setCell (Only.refl _ _) _ _
    have hJ11:=hI11.set (Y:=y11) (d1:=.slice a10 n10 c10) (d2:=.slice a11 n11 c11) (by rw [HX11.out];exact hI11.b7.set 1 _) ho11
    refine wpAnyH_skip 8 y11 (by kernel_rfl) rfl (by rfl) (by rw [HX11.out];simp [go_sem,cz,dz]) hJ11.b2 ?_
    simp only [Act.put,sq];refine wpAnyH_done (by kernel_rfl) ?_ _
    clear hS cz dz hr11 hg11 ho11 HX11 hI11;replace HI:=Hid.mk' hJ11;clear hJ11;obtain ⟨tc0,tc1⟩:=sqk2
    go_wp2_with (first
     | (clear tc0;with_reducible refine wpSeq_loadW 43 (.tmp 7) g7 0 [.slice a10 n10 c10,.slice a11 n11 c11] _ (Blk.range HI.out.b7) Tryz.underlying43 rfl (info_keys _ _) ?_ ?_ ?_ ?_
        · rfl
        · rfl
        · rfl)
     | (clear tc1;with_reducible refine wpSeq_storeRow 43 (.tmp 4) (.tmp 67) g4 [.slice none 0 0,.slice none 0 0] [.slice a10 n10 c10,.slice a11 n11 c11] HI.out.b4 rfl (info_keys _ _) (one_keys _ _ _ _ _ _) ?_ ?_ ?_ ?_ ?_
        · rfl
        · rfl
        · rfl
        · rfl
        intro y12 sr;have HF:Hid (Blk y12 g4 [.slice a10 n10 c10,.slice a11 n11 c11] 43 ∧ Only g4 y11 y12):=⟨sr.blk,sr.only⟩;clear sr))
    refine bodyPost_ret (var_keysr HF.out.1 rfl _ rfl) rfl ?_
    have hc:∀ (k:Nat) (ar:Array Value) (t:TypeId),y11.heap[k]? = some (Obj.cells ar t (0,0)) → t ≠ 43 → y12.heap[k]? = y11.heap[k]?:=fun k ar t hh ht => HF.out.2.block k (fun e => by
     have h4:=HI.out.b4;unfold Blk at h4;rw [e,h4] at hh;simp only [Option.some.injEq,Obj.cells.injEq] at hh;exact ht hh.2.1.symm) (Array.getElem?_eq_some_iff.1 hh).1
    have hbw:Below w.heap.size w y12:=HI.out.bel.trans (HF.out.2.below HG4.out HI.out.bel.size);refine ⟨_,_,rfl,?_,hbw⟩;rw [HCUT.out];exact one_fin HRW.out.2.2.2 hbw (HI.out.rk.same (fun k ar hh _ => hc k ar _ hh (by decide))) (HI.out.rv.same (fun k ar hh _ => hc k ar _ hh (by decide))) (by simp [List.map_append,List.map_take,List.map_drop,strV,HSK.out]) (by simpa using (AlS.app (AlS.app (AlS.app (AlS.nil _ _) (HAL.out.take i)) (AlS.one (p:=(a.key,a.data)) HRW.out.2.2.1)) (HAL.out.drop i2))))
def R2 (R:Nat → Prop) (a b:Nat):Nat → Prop:=fun k => R k ∨ k = a ∨ k = b
theorem sta_wide {R:Nat → Prop} {a b:Nat} {w W:World} {X:World → Prop} (h:Sta R w X) (hb:Below w.heap.size w W) (ha:w.heap.size ≤ a) (hb2:w.heap.size ≤ b):Sta (R2 R a b) W X:=h.go (mut_below hb R) (fun k hk hr => hr.elim id (fun e => absurd hk (by omega)))
theorem oDone_any (R:Nat → Prop) (vK vV v:Value) (m:KM) (ps:List (ActT × Value)) (w:World) (hR:∀ k,R k → k < w.heap.size) (hm:KyS R w vK vV m) (hup:Rise m) (hr:RdP w v ps) (hd:∀ p ∈ ps,Sta R w (fun W => Reads W p.2 p.1.data)) (hl:m.length + ps.length < 100000):Calls Tryz.prog 49 #[.agg [vK,vV].toArray,v] w fun e w' => ∃ uK uV,e = .returned (.agg [uK,uV].toArray) ∧ KyS R w' uK uV (doneM m (ps.map (·.1))) ∧ Below w.heap.size w w':=by
 obtain ⟨N,HN⟩:=sqn (ps.length)
 obtain ⟨ad,cp,hv⟩:=hr.form
 rw [← HN.out] at hv
 subst hv
 obtain ⟨a1,n1,c1,e1⟩:∃ a n c,vK = .slice a n c:=by obtain ⟨a,c,h,_⟩:=hm.k;exact ⟨a,_,c,h⟩
 obtain ⟨a2,n2,c2,e2⟩:∃ a n c,vV = .slice a n c:=by obtain ⟨a,c,h,_⟩:=hm.v;exact ⟨a,_,c,h⟩
 subst e1
 subst e2
 have HR:Hid (RdP w (.slice ad N cp) ps):=hr
 have HD:Hid ((∀ p ∈ ps,Sta R w (fun W => Reads W p.2 p.1.data)) ∧ (∀ k,R k → k < w.heap.size) ∧ m.length + ps.length < 100000 ∧ Rise m):=⟨hd,hR,hl,hup⟩
 have HM:Hid (KyS R w (.slice a1 n1 c1) (.slice a2 n2 c2) m):=hm
 clear hR hm hup hr hd hl
 go_enter Tryz.func49,Tryz.ntmps49
 obtain ⟨ta0,ta1⟩:=sqk2
 go_wp2_with (first
  | (clear ta0;with_reducible refine wpSeq_boxW 43 (.tmp 0) [.slice a1 n1 c1,.slice a2 n2 c2] ?_ ?_ ?_ ?_
     · rfl
     · rfl
     · rfl
     intro g2 x1 nn;have H2:Hid (Blk x1 g2 [.slice a1 n1 c1,.slice a2 n2 c2] 43):=nn.blk;have HB:Hid (Below w.heap.size w x1 ∧ w.heap.size ≤ g2):=⟨nn.below,nn.ge⟩;clear nn)
  | (clear ta1;with_reducible refine wpSeq_allocK ?_ ?_ ?_
     · rfl
     · rfl
     intro g4 x2 nn;have H4:Hid (Blk x2 g4 [.slice none 0 0,.slice none 0 0] 43):=nn.blk;have HNE:Hid (g2 ≠ g4 ∧ g4 ≠ g2):=by have h1:=H2.out.lt;have h2:=nn.ge;exact ⟨by omega,by omega⟩
     replace H2:Hid (Blk x2 g2 [.slice a1 n1 c1,.slice a2 n2 c2] 43):=H2.out.below nn.below H2.out.lt;have HG:Hid (w.heap.size ≤ g2 ∧ w.heap.size ≤ g4):=⟨HB.out.2,Nat.le_trans HB.out.1.size nn.ge⟩;have HBW:Hid (Below w.heap.size w x2):=HB.out.1.trans (nn.below.mono HB.out.1.size);clear nn HB))
 have HK0:Hid (KyS (R2 R g2 g4) x2 (.slice a1 n1 c1) (.slice a2 n2 c2) m):=HM.out.go (mut_below HBW.out R) (fun k hk hr => hr.elim id (fun e => absurd hk (by have:=HG.out;omega)))
 go_loopw [5] (fun i wr => ∃ k:Nat,k ≤ N ∧ i = .int .i64 (k:Int) ∧ Hid (∃ b1 k1 d1 b2 k2 d2,Blk wr g2 [.slice b1 k1 d1,.slice b2 k2 d2] 43 ∧ KyS (R2 R g2 g4) wr (.slice b1 k1 d1) (.slice b2 k2 d2) (doneM m ((ps.take k).map (·.1)))) ∧ Hid (Blk wr g4 [.slice none 0 0,.slice none 0 0] 43) ∧ Hid (Below w.heap.size w wr)) (fun i _ => N - (intOf i).toNat)
 case atStart => exact ⟨0,Nat.zero_le _,rfl,⟨_,_,_,_,_,_,H2.out,HK0.out⟩,H4,HBW⟩
 case round =>
  clear HK0 H2 H4 HBW
  obtain ⟨k,hk,rfl,HE,H4,HBW⟩:=hrel
  obtain ⟨b1,k1,d1,b2,k2,d2,hb2,hky⟩:=HE.out
  have H2:Hid (Blk wr g2 [.slice b1 k1 d1,.slice b2 k2 d2] 43):=hb2
  have HKY:Hid (KyS (R2 R g2 g4) wr (.slice b1 k1 d1) (.slice b2 k2 d2) (doneM m ((ps.take k).map (·.1)))):=hky
  clear hb2 hky HE
  by_cases hlt:k < N
  case neg =>
   obtain rfl:k = N:=by omega
   have hlk:¬ ((k:Int) < (k:Int)):=by omega
   obtain ⟨tb0,tb1⟩:=sqk2
   go_wp2_with (first
    | (clear tb0;with_reducible refine wpSeq_loadW 43 (.tmp 2) g2 0 [.slice b1 k1 d1,.slice b2 k2 d2] _ (Blk.range H2.out) Tryz.underlying43 rfl (info_keys _ _) ?_ ?_ ?_ ?_
       · rfl
       · rfl
       · rfl)
    | (clear tb1;with_reducible refine wpSeq_storeRow 43 (.tmp 4) (.tmp 18) g4 [.slice none 0 0,.slice none 0 0] [.slice b1 k1 d1,.slice b2 k2 d2] H4.out rfl (info_keys _ _) (one_keys _ _ _ _ _ _) ?_ ?_ ?_ ?_ ?_
       · rfl
       · rfl
       · rfl
       · rfl
       intro y9 sr;have HF:Hid (Blk y9 g4 [.slice b1 k1 d1,.slice b2 k2 d2] 43 ∧ Only g4 wr y9):=⟨sr.blk,sr.only⟩;clear sr))
   refine bodyPost_ret (var_keysr HF.out.1 rfl _ rfl) rfl ?_;refine ⟨_,_,rfl,?_,HBW.out.trans (HF.out.2.below HG.out.2 HBW.out.size)⟩;have h1:=HKY.out;rw [List.take_of_length_le (by rw [← HN.out];exact Nat.le_refl _)] at h1
   exact h1.go (HF.out.2.mut (P:=R2 R g2 g4) (Or.inr (Or.inr rfl))) (fun j _ h => Or.inl h)
  case pos =>
   obtain ⟨p,hp⟩:∃ p,ps[k]? = some p:=⟨_,List.getElem?_eq_getElem (by rw [← HN.out];exact hlt)⟩
   have hpm:=List.mem_of_getElem? hp;obtain ⟨b,off,e1,hrg⟩:=HR.out.at hp;subst e1
   have HTK:Hid (doneM m ((ps.take (k + 1)).map (·.1)) = oneM (doneM m ((ps.take k).map (·.1))) p.1):=by
    show _ = _;rw [List.take_add_one,hp,List.map_append];exact doneM_snoc _ _ _
   have HLE:Hid ((doneM m ((ps.take k).map (·.1))).length < 100000 ∧ Rise (doneM m ((ps.take k).map (·.1)))):=by
    have h1:=len_doneM ((ps.take k).map (·.1)) HD.out.2.2.2;rw [List.length_map,List.length_take] at h1;have h2:=HD.out.2.2.1;exact ⟨by omega,HD.out.2.2.2.done _⟩
   have HRG:Hid (∀ wx,Below w.heap.size w wx → wx.rangeAt b (off + k * 3) (actC p.1 p.2)):=fun wx hb => range_below hrg hb (block_lt_of_cell (hrg 0 _ rfl))
   have HDP:Hid (Sta R w (fun W => Reads W p.2 p.1.data)):=HD.out.1 p hpm
   have HLT:Hid (k < N):=hlt;have k3:(k:Int) < (N:Int):=by omega
   have f5:IntKind.i64.wrap ((k:Int) + 1) = (k:Int) + 1:=by have:=HD.out.2.2.1;have:=HN.out;rw [IntKind.wrap_i64];omega
   obtain ⟨ap,np,cpp,hvp⟩:=HDP.out.now.form;clear hrg hp hpm
   go_upto_region 4 with fail
   refine wp_region_held_drew (S:=fun wx => Below w.heap.size w wx) (by kernel_rfl) HBW.out.drew ?_
   intro hS;refine tkc 1 (.slice (some ⟨b,off,none⟩) N cp) rfl hS ?_;simp only [Act.put,sq];refine tkc 2 (.int .i64 (k:Int)) rfl hS ?_;simp only [Act.put,sq];refine tka 3 (.pointer (some ⟨b,off + k * 3,none⟩)) rfl (fun wx hx => by exact idxA b off N cp k HLT.out _ _ (.tmp 13) (.tmp 14) rfl rfl rfl _) hS ?_
   simp only [Act.put,sq];refine tka 4 (.agg (actC p.1 p.2).toArray) rfl (fun wx hx => by exact load_run 62 _ rfl _ _ rfl (actC p.1 p.2) _ (HRG.out wx hx) Tryz.underlying62 rfl (info_act15 _ _ _)) hS ?_
   simp only [Act.put,sq];refine wpAnyH_step 0 (.agg [.slice b1 k1 d1,.slice b2 k2 d2].toArray) wr.drew (by kernel_rfl) rfl (by rfl) (load_run 43 _ rfl _ _ rfl [.slice b1 k1 d1,.slice b2 k2 d2] _ (Blk.range H2.out.drew) Tryz.underlying43 rfl (info_keys _ _)) hS ?_
   simp only [Act.put,sq]
   refine wpAnyH_enter 5 (by kernel_rfl) rfl (by rfl) (f:=75) (args:=#[.agg [.slice b1 k1 d1,.slice b2 k2 d2].toArray,.agg (actC p.1 p.2).toArray]) (by simp [go_sem]) (oOne_any (R2 R g2 g4) _ _ _ p.1 p.2 wr.drew (fun j hj => by
    rcases hj with hj | hj | hj
    · exact Nat.lt_of_lt_of_le (HD.out.2.1 j hj) HBW.out.size
    · rw [hj];exact H2.out.lt
    · rw [hj];exact H4.out.lt) (HKY.out.below (Below.refl _ _).drew) HLE.out.2 (sta_wide HDP.out HBW.out.drew HG.out.1 HG.out.2) HLE.out.1) ?_
   rintro e5 y5 ⟨uK,uV,rfl,hk5,bl5⟩;obtain ⟨q1,q2,q3,f1⟩:∃ a n c,uK = .slice a n c:=by obtain ⟨a,c,h,_⟩:=hk5.k;exact ⟨a,_,c,h⟩
   obtain ⟨q4,q5,q6,f2⟩:∃ a n c,uV = .slice a n c:=by obtain ⟨a,c,h,_⟩:=hk5.v;exact ⟨a,_,c,h⟩
   subst f1;subst f2;have hb5:Below w.heap.size w y5:=HBW.out.drew.trans (bl5.mono HBW.out.drew.size);have h25:Blk y5 g2 [.slice b1 k1 d1,.slice b2 k2 d2] 43:=H2.out.drew.below bl5 H2.out.drew.lt;have h45:Blk y5 g4 [.slice none 0 0,.slice none 0 0] 43:=H4.out.drew.below bl5 H4.out.drew.lt;refine ⟨_,rfl,hb5,?_⟩;simp only [Act.put,sq];refine wpAnyH_storeRow 6 43 (.tmp 2) (.tmp 17) g2 [.slice b1 k1 d1,.slice b2 k2 d2] [.slice q1 q2 q3,.slice q4 q5 q6] h25 rfl (info_keys _ _) (one_keys _ _ _ _ _ _) (by kernel_rfl) rfl (by rfl) rfl rfl rfl ?_
   intro y6 sr;have hb6:Below w.heap.size w y6:=hb5.trans (sr.only.below HG.out.1 hb5.size);have H26:Hid (Blk y6 g2 [.slice q1 q2 q3,.slice q4 q5 q6] 43):=sr.blk;have H46:Hid (Blk y6 g4 [.slice none 0 0,.slice none 0 0] 43):=h45.only sr.only HNE.out.2
   have HK6:Hid (KyS (R2 R g2 g4) y6 (.slice q1 q2 q3) (.slice q4 q5 q6) (doneM m ((ps.take (k + 1)).map (·.1)))):=by
    rw [HTK.out];exact hk5.go (sr.only.mut (P:=R2 R g2 g4) (Or.inr (Or.inl rfl))) (fun _ _ h => h)
   have HB6:Hid (Below w.heap.size w y6):=hb6;refine ⟨hb6,?_⟩;clear sr hk5 hb5 hb6 h25 h45 bl5 hS;simp only [Act.put,sq];refine wpAnyH_done (by kernel_rfl) ?_ _
   go_wp2;go_roundw
   case rel => exact ⟨k + 1,HLT.out,rfl,⟨_,_,_,_,_,_,H26.out,HK6.out⟩,H46,HB6⟩
   case measure => simp [intOf];have:=HLT.out;omega
end Go.Proofs.YtheincjkoefalaaGreatDoor

/- Texts that the proof leans on, one behind the other: The walks of journal's next, Append and Restart, as they landed (layer 14). The walk of journal's Restart, as it landed (layer 14). Slices of texts that stay whatever blocks of P become; blazonref14.Append and Restart with them (layer 14). .. -/
import Derived.Test.YtheincjkoefalaaGreatDoorMzc
import Derived.Test.YtheincjkoefalaaGreatDoorMza
import Derived.Lib.Strings
import Derived.Shelf.Spec.SlicesInsertGrow
import Derived.Maps.AppendAt
import Derived.Defers
import Derived.Recover
import Derived.Laws.Pointers
set_option maxRecDepth 100000
set_option maxHeartbeats 16000000
namespace Go.Proofs.YtheincjkoefalaaGreatDoor
open Go.RowKit
def gN (gen:Nat):Nat:=(gen + 1) % 18446744073709551616
theorem gN_eq {gen:Nat} (h:gen + 1 < 18446744073709551616):gN gen = gen + 1:=Nat.mod_eq_of_lt h
theorem gN_lt (gen:Nat):gN gen < 18446744073709551616:=Nat.mod_lt _ (by decide)
theorem jNext_any {w:World} {gd lg:Nat} {P:Nat → Prop} {D:DkT} (hs k gen u:Nat) (vr v:Value) (l:List Bs) (hK:KOk w) (hdk:DkIs w gd P D) (hwt:D.wait = []) (hlb:Blk w lg (lgC gd hs 0 k gen vr u) 144) (hnp:¬ P lg) (hk1:k ≤ 1) (hs1:1 ≤ hs) (hs2:hs ≤ 50) (hfit:1 + secL l ≤ hs) (hst:Sta (Un P (fun x => x = lg)) w (fun W => ReadsL W v l)) :
 Calls Tryz.prog 92 #[.pointer (some ⟨lg,0,none⟩),v] w fun e w' => e = .returned (.int .i64 (runJ D (anewS hs (1 - k) (gN gen) l)).2) ∧ ∃ P',DkIs w' gd P' (runJ D (anewS hs (1 - k) (gN gen) l)).1 ∧ ((runJ D (anewS hs (1 - k) (gN gen) l)).2 = 0 → Blk w' lg (lgC gd hs 0 (1 - k) (gN gen) v (1 + secL l)) 144) ∧ Mut (Un P (fun x => x = lg)) w w' ∧ Grew w P P':=by
 obtain ⟨k1,HK1⟩:=sqn (1 - k)
 obtain ⟨g1,HG1⟩:=sqn (gN gen)
 have f1:IntKind.i64.wrap (1 - (k:Int)) = (k1:Int):=by rw [IntKind.wrap_i64];have:=HK1.out;omega
 have f2:IntKind.u64.wrap ((gen:Int) + 1) = (g1:Int):=by rw [IntKind.wrap_u64,HG1.out,gN];omega
 rw [← HK1.out,← HG1.out]
 obtain ⟨xX,HXX⟩:=sqn ((runJ D (anewS hs k1 g1 l)).2)
 have HC:Hid (∀ W,Below w.heap.size w W → Calls Tryz.prog 91 #[.pointer (some ⟨lg,0,none⟩),.int .i64 (k1:Int),.int .u64 (g1:Int),v] W fun e w' => e = .returned (.int .i64 xX) ∧ ∃ P',DkIs w' gd P' (runJ D (anewS hs k1 g1 l)).1 ∧ (xX = 0 → Blk w' lg (lgC gd hs 0 k1 g1 v (1 + secL l)) 144) ∧ Mut (Un P (fun x => x = lg)) w w' ∧ Grew w P P'):=fun W hW => by
  rw [HXX.out]
  refine (jBegin_any (w:=W) hs k gen u k1 g1 vr v l (hK.below hW hK.lt) (hdk.same14 (fun x hx => hW.block x (hdk.lt14 x hx))) hwt (hlb.below hW hlb.lt) hnp (by rw [HK1.out];omega) (by rw [HG1.out];exact gN_lt gen) hs1 hs2 hfit (hst.below hW)).mono ?_
  rintro e w' ⟨h1,P',h2,h3,h4,h5⟩
  exact ⟨h1,P',h2,h3,(mut_below hW _).trans (fun _ _ h => h) h4,fun x hx => (h5 x hx).imp id (fun h => Nat.le_trans hW.size h)⟩
 rw [← HXX.out]
 obtain ⟨ad,n,c,hv⟩:∃ a n c,v = .slice a n c:=by obtain ⟨a,c,hv,_⟩:=hst.now;exact ⟨_,_,_,hv⟩
 have HV:Hid (v = .slice ad n c):=hv
 have c4:w.drew.cell? ⟨lg,4,none⟩ = some (.int .i64 (k:Int)):=hlb.cell 4
 have c5:w.drew.cell? ⟨lg,5,none⟩ = some (.int .u64 (gen:Int)):=hlb.cell 5
 have HBD:Hid (Below w.heap.size w w.drew):=(Below.refl _ _).drew
 clear hK hdk hwt hlb hnp hk1 hs1 hs2 hfit hst hv
 go_enter Tryz.func92,Tryz.ntmps92
 go_upto_region 1 with fail
 refine wp_region_held_drew (S:=fun _ => True) (by kernel_rfl) trivial ?_
 intro _
 refine tkc 0 (.pointer (some ⟨lg,0,none⟩)) rfl trivial ?_
 simp only [Act.put,sq]
 refine tkc 1 (.pointer (some ⟨lg,0,none⟩)) rfl trivial ?_
 simp only [Act.put,sq]
 refine tkc 2 (.pointer (some ⟨lg,0,none⟩)) rfl trivial ?_
 simp only [Act.put,sq]
 refine tkc 3 (.pointer (some ⟨lg,4,none⟩)) rfl trivial ?_
 simp only [Act.put,sq]
 refine tkc 4 (.pointer (some ⟨lg,4,none⟩)) rfl trivial ?_
 simp only [Act.put,sq]
 refine tkc 7 (.pointer (some ⟨lg,0,none⟩)) rfl trivial ?_
 simp only [Act.put,sq]
 refine tkc 8 (.pointer (some ⟨lg,0,none⟩)) rfl trivial ?_
 simp only [Act.put,sq]
 refine tkc 9 (.pointer (some ⟨lg,4,none⟩)) rfl trivial ?_
 simp only [Act.put,sq]
 refine tkc 10 (.pointer (some ⟨lg,5,none⟩)) rfl trivial ?_
 simp only [Act.put,sq]
 refine tkc 13 (v) rfl trivial ?_
 simp only [Act.put,sq]
 refine wpAnyH_pair 5 11 (by kernel_rfl) ?_ ?_
 · refine wpOp_vl 5 (.int .i64 (k:Int)) w.drew (by rfl) (by rfl) (by simp [go_sem,c4]) ⟨trivial,?_⟩
   simp only [Act.put,sq];refine tka 6 (.int .i64 (k1:Int)) rfl (fun wx hx => by simp [go_sem,f1]) trivial ?_
   simp only [Act.put,sq];refine wpAnyH_step 11 (.int .u64 (gen:Int)) w.drew (by kernel_rfl) rfl (by rfl) (by simp [go_sem,c5]) trivial ?_
   simp only [Act.put,sq];refine tka 12 (.int .u64 (g1:Int)) rfl (fun wx hx => by simp [go_sem,f2]) trivial ?_
   simp only [Act.put,sq];refine wpAnyH_enter 14 (by kernel_rfl) rfl (by rfl) (f:=91) (args:=#[.pointer (some ⟨lg,0,none⟩),.int .i64 (k1:Int),.int .u64 (g1:Int),v]) (by simp [go_sem]) (HC.out _ HBD.out) ?_
   rintro e0 y1 ⟨rfl,h1⟩;refine ⟨_,rfl,trivial,?_⟩;simp only [Act.put,sq];refine tkc 15 (.int .i64 xX) rfl trivial ?_;simp only [Act.put,sq];refine wpAnyH_done (by kernel_rfl) ?_ _
   go_wp2;go_ret;exact ⟨rfl,h1⟩
 · refine wpOp_vl 11 (.int .u64 (gen:Int)) w.drew (by rfl) (by rfl) (by simp [go_sem,c5]) ⟨trivial,?_⟩
   simp only [Act.put,sq];refine tka 12 (.int .u64 (g1:Int)) rfl (fun wx hx => by simp [go_sem,f2]) trivial ?_
   simp only [Act.put,sq];refine wpAnyH_step 5 (.int .i64 (k:Int)) w.drew (by kernel_rfl) rfl (by rfl) (by simp [go_sem,c4]) trivial ?_
   simp only [Act.put,sq];refine tka 6 (.int .i64 (k1:Int)) rfl (fun wx hx => by simp [go_sem,f1]) trivial ?_
   simp only [Act.put,sq];refine wpAnyH_enter 14 (by kernel_rfl) rfl (by rfl) (f:=91) (args:=#[.pointer (some ⟨lg,0,none⟩),.int .i64 (k1:Int),.int .u64 (g1:Int),v]) (by simp [go_sem]) (HC.out _ HBD.out) ?_
   rintro e0 y1 ⟨rfl,h1⟩;refine ⟨_,rfl,trivial,?_⟩;simp only [Act.put,sq];refine tkc 15 (.int .i64 xX) rfl trivial ?_;simp only [Act.put,sq];refine wpAnyH_done (by kernel_rfl) ?_ _
   go_wp2;go_ret;exact ⟨rfl,h1⟩
structure LgM (w:World) (lg gd n:Nat) (vr:Value) (us:List Value) (J:JnT):Prop where
 lb:Blk w lg (lgC gd (n / 2) 0 J.k J.gen vr (1 + secL J.l)) 144
 tx:TxJ 0 vr us J.l w
def lgQ (lg:Nat) (vr:Value) (us:List Value):Nat → Prop:=fun k => k = lg ∨ vr.ownBlock = some k ∨ ∃ u ∈ us,u.ownBlock = some k
def LgJ (w:World) (lg:Nat) (Q:Nat → Prop) (gd n:Nat) (J:JnT):Prop:=∃ vr us,LgM w lg gd n vr us J ∧ Q = lgQ lg vr us
theorem LgM.lt {w:World} {lg gd n:Nat} {vr:Value} {us:List Value} {J:JnT} (h:LgM w lg gd n vr us J):∀ k,lgQ lg vr us k → k < w.heap.size:=fun k hk => by
 rcases hk with rfl | hk | ⟨u,hu,hk⟩
 · exact h.lb.lt
 · exact (h.tx.own.lt k hk).2
 · obtain ⟨i,hi,rfl⟩:=List.getElem_of_mem hu
   exact ((h.tx.good i _ (List.getElem?_eq_getElem hi)).ltJ k hk).2
theorem TxJ.sameQ {base:Nat} {v:Value} {us:List Value} {xs:List Bs} {w w':World} (h:TxJ base v us xs w) (hs:w.heap.size ≤ w'.heap.size) (hv:∀ k,v.ownBlock = some k → w'.heap[k]? = w.heap[k]?) (hu:∀ u ∈ us,∀ k,u.ownBlock = some k → w'.heap[k]? = w.heap[k]?):TxJ base v us xs w':=
 ⟨h.own.same hv,h.len,fun j u hj => (h.good j u hj).sameJ (hu u (List.mem_of_getElem? hj)),Nat.le_trans h.ge hs⟩
theorem LgM.same {w w':World} {lg gd n:Nat} {vr:Value} {us:List Value} {J:JnT} (h:LgM w lg gd n vr us J) (hs:w.heap.size ≤ w'.heap.size) (hq:∀ k,lgQ lg vr us k → w'.heap[k]? = w.heap[k]?):LgM w' lg gd n vr us J:=
 ⟨blk_same h.lb (hq lg (Or.inl rfl)),h.tx.sameQ hs (fun k hk => hq k (Or.inr (Or.inl hk))) (fun u hu k hk => hq k (Or.inr (Or.inr ⟨u,hu,hk⟩)))⟩
theorem ownB_ne_lg {w:World} {base lg:Nat} {u:Value} {t:Bs} {cs:List Value} (h:OwnB w base u t) (hb:Blk w lg cs 144):u.ownBlock ≠ some lg:=fun e => by
 rcases h with ⟨_,⟨rfl,_⟩ | ⟨g2,cap2,cur2,rfl,_,hh2,_⟩⟩
 · cases e
 have e2:g2 = lg:=by simpa [Value.ownBlock] using e
 unfold Blk at hb
 rw [← e2,hh2] at hb
 simp only [Option.some.injEq,Obj.cells.injEq] at hb
 exact absurd hb.2.1 (by decide)
theorem ownX_ne_lg {w:World} {base lg:Nat} {v:Value} {us:List Value} {cs:List Value} (h:OwnX w base v us) (hb:Blk w lg cs 144):v.ownBlock ≠ some lg:=fun e => by
 rcases h with ⟨_,⟨rfl,_⟩ | ⟨g2,cap2,cur2,rfl,_,hh2,_⟩⟩
 · cases e
 have e2:g2 = lg:=by simpa [Value.ownBlock] using e
 unfold Blk at hb
 rw [← e2,hh2] at hb
 simp only [Option.some.injEq,Obj.cells.injEq] at hb
 exact absurd hb.2.1 (by decide)
theorem DkIs.typ {w:World} {g:Nat} {P:Nat → Prop} {D:DkT} (h:DkIs w g P D):∀ k,P k → ∃ cs t,w.heap[k]? = some (.cells cs t (0,0)) ∧ t ≠ 23 ∧ t ≠ 5 ∧ t ≠ 144:=by
 obtain ⟨gs,vw,fu,lf,hm,rfl⟩:=h
 intro k hk
 rcases hk with rfl | rfl | hk
 · exact ⟨_,_,hm.me,by decide,by decide,by decide⟩
 · exact ⟨_,_,hm.sf,by decide,by decide,by decide⟩
 · rcases hm.wt with ⟨_,⟨e,_⟩ | ⟨g2,cap2,cur2,e,_,hh2,_⟩⟩
   · rw [e] at hk;cases hk
   · rw [e] at hk
     have e2:g2 = k:=by simpa [Value.ownBlock] using hk
     rw [← e2];exact ⟨_,_,hh2,by decide,by decide,by decide⟩
theorem pk_ap {w:World} {gd lg n:Nat} {P:Nat → Prop} {D:DkT} {vr:Value} {us:List Value} {J:JnT} (hd:DkIs w gd P D) (hm:LgM w lg gd n vr us J):∀ z,lgQ lg vr us z → ¬ P z:=fun z hz hp => by
 obtain ⟨cs,t,h1,h2,h3,h4⟩:=hd.typ z hp
 rcases hz with rfl | hz | ⟨u,hu,hz⟩
 · have hb:=hm.lb
   unfold Blk at hb;rw [h1] at hb;simp only [Option.some.injEq,Obj.cells.injEq] at hb;exact h4 hb.2.1
 · rcases hm.tx.own with ⟨_,⟨rfl,_⟩ | ⟨g2,cap2,cur2,rfl,_,hh2,_⟩⟩
   · cases hz
   have e2:g2 = z:=by simpa [Value.ownBlock] using hz
   rw [e2,h1] at hh2;simp only [Option.some.injEq,Obj.cells.injEq] at hh2;exact h2 hh2.2.1
 · obtain ⟨i,hi,rfl⟩:=List.getElem_of_mem hu
   rcases hm.tx.good i _ (List.getElem?_eq_getElem hi) with ⟨_,⟨e,_⟩ | ⟨g2,cap2,cur2,e,_,hh2,_⟩⟩
   · rw [e] at hz;cases hz
   rw [e] at hz;have e2:g2 = z:=by simpa [Value.ownBlock] using hz
   rw [e2,h1] at hh2;simp only [Option.some.injEq,Obj.cells.injEq] at hh2;exact h3 hh2.2.1
theorem run_err:∀ (L:List (Option (Nat × Bs))) (D:DkT),okD D → (∀ p,some p ∈ L → p.1 < sizeD D ∧ p.2.length = 64) → (runJ D L).2 = 0 ∨ (runJ D L).2 = 14
 | [],_,_,_ => Or.inl rfl
 | some p :: L,D,hd,h => by
  have hp:=h p (List.mem_cons_self ..)
  have hh:¬ (hasD D (p.1:Int) = false):=by rw [hasD_not];exact fun e => e ⟨by omega,by omega⟩
  have e:putX13 D (p.1:Int) p.2 = 0 ∨ putX13 D (p.1:Int) p.2 = 14:=by
   unfold putX13
   by_cases h1:D.down = true
   · rw [if_pos h1];exact Or.inr rfl
   rw [if_neg h1,if_neg hh,if_neg (by rw [hp.2];decide)]
   by_cases h2:D.left = 0
   · rw [if_pos h2];exact Or.inr rfl
   · rw [if_neg h2];exact Or.inl rfl
  rw [runJ]
  by_cases h1:putX13 D (p.1:Int) p.2 = 0
  · rw [if_pos h1]
    exact run_err L _ (hd.put _ _) (fun q hq => by rw [show sizeD (putD13 D (p.1:Int) p.2) = sizeD D by rw [sizeD,size_put];rfl];exact h q (List.mem_cons_of_mem _ hq))
  · rw [if_neg h1];exact e
 | none :: L,D,hd,h => by
  have e:syncX13 D = 0 ∨ syncX13 D = 14:=by
   unfold syncX13
   split
   · exact Or.inr rfl
   split
   · exact Or.inr rfl
   · exact Or.inl rfl
  rw [runJ]
  by_cases h1:syncX13 D = 0
  · rw [if_pos h1]
    exact run_err L _ hd.sync (fun q hq => by rw [size_sync hd];exact h q (List.mem_cons_of_mem _ hq))
  · rw [if_neg h1];exact e
theorem room_iff {hs u n:Nat} (h0:0 < n) (h1:n ≤ 1048576) (hu:u ≤ hs) (hh:hs < 10000):min 1048576 (64 * (hs - u) - 57) < n ↔ hs < u + secR n:=by
 unfold secR
 omega
theorem Sta.weak {P Q:Nat → Prop} {w:World} {X:World → Prop} (h:Sta P w X) (hq:∀ k,k < w.heap.size → Q k → P k):Sta Q w X:=fun w' m => h w' ⟨m.os,m.tape,m.output,m.size,fun k hk hn => m.block k hk (fun h2 => hn (hq k hk h2))⟩
theorem lg_set {w:World} {lg gd hs k gen u:Nat} {fl:Int} {vr:Value} (v:Value) (h:Blk w lg (lgC gd hs fl k gen vr u) 144):Blk (w.setCell ⟨lg,6,none⟩ v) lg (lgC gd hs fl k gen v u) 144:=h.set 6 v
theorem lg_setU {w:World} {lg gd hs k gen u:Nat} {fl:Int} {vr:Value} (u':Nat) (h:Blk w lg (lgC gd hs fl k gen vr u) 144):Blk (w.setCell ⟨lg,7,none⟩ (.int .i64 (u':Int))) lg (lgC gd hs fl k gen vr u') 144:=h.set 7 _
theorem jAppend_any {w:World} {gd lg:Nat} {P Q:Nat → Prop} {D:DkT} {J:JnT} (v:Value) (x:Bs) (hK:KOk w) (hp:Pk LgJ w gd lg P Q D J) (hok:okJ D J) (hxl:x.length ≤ 100000) (hst:Sta (Un P Q) w (fun W => Reads W v x)) :
 Calls Tryz.prog 79 #[.pointer (some ⟨lg,0,none⟩),v] w fun e w' => e = .returned (.int .i64 (appX J D x)) ∧ ∃ P' Q',DkIs w' gd P' (appD J D x) ∧ Mut (Un P Q) w w' ∧ Grew w (Un P Q) (Un P' Q') ∧ (appX J D x ≠ 14 → Pk LgJ w' gd lg P' Q' (appD J D x) (appJ J D x)):=by
 obtain ⟨vr,us,hm,hQ⟩:=id hp.lg
 obtain ⟨nx,HNX⟩:=sqn (x.length)
 obtain ⟨ax,cx,hv⟩:∃ a c,v = .slice a nx c:=by obtain ⟨a,c,hv,_⟩:=hst.now;rw [← HNX.out] at hv;exact ⟨a,c,hv⟩
 subst hv
 obtain ⟨hs,HHS⟩:=sqn (sizeD D / 2)
 obtain ⟨u,HU⟩:=sqn (1 + secL J.l)
 obtain ⟨k,HKK⟩:=sqn (J.k)
 obtain ⟨gen,HGN⟩:=sqn (J.gen)
 obtain ⟨kn,HKN⟩:=sqn (J.l.length)
 obtain ⟨xa,xc,hvr⟩:=hm.tx.form
 rw [← HKN.out] at hvr
 subst hvr
 have hlb:=hm.lb
 rw [← HHS.out,← HU.out,← HKK.out,← HGN.out] at hlb
 have HLB:Hid (Blk w lg (lgC gd hs 0 k gen (.slice xa kn xc) u) 144):=hlb
 have HTX:Hid (TxJ 0 (.slice xa kn xc) us J.l w):=hm.tx
 have HDK:Hid (DkIs w gd P D):=hp.dk
 have HQQ:Hid (Q = lgQ lg (.slice xa kn xc) us):=hQ
 have HAP:Hid (∀ k,Q k → ¬ P k):=hp.ap
 have HK:Hid (KOk w):=hK
 have HRD:Hid (Sta (Un P Q) w (fun W => Reads W (.slice ax nx cx) x)):=hst
 have HPP:Hid (Pk LgJ w gd lg P Q D J):=hp
 have hfit:=hok.fit
 have hsl:=sizeL_ge J.l
 rw [sizeL_eq] at hsl
 have hhd:hsD D = hs:=HHS.out.symm
 rw [hhd,← HU.out] at hfit
 have HBD:Hid (u ≤ hs ∧ hs ≤ 50 ∧ k ≤ 1 ∧ gen < 18446744073709551616 ∧ kn < 1000 ∧ nx ≤ 100000 ∧ 4 ≤ hs ∧ D.wait = [] ∧ sizeD D ≤ 100):=⟨hfit,by have h1:=HHS.out;have h2:=hok.hi;omega,by rw [HKK.out];exact hok.k1,by have h1:=hok.g2;rw [HGN.out];omega,by have h1:=HKN.out;have h2:=HU.out;have h3:=hok.hi;have h4:=HHS.out;omega,by rw [HNX.out];exact hxl,by have h1:=HHS.out;have h2:=hok.lo;omega,hok.wt,hok.hi⟩
 have HCK:Hid (∀ W,Below w.heap.size w W → Calls Tryz.prog 100 #[.slice ax nx cx] W fun e w' => e = .returned (.int .i64 (chkX x)) ∧ w' = W):=fun W hW => jCheck_any _ x W (hst.now.below hW)
 have HEE:Hid (appE J D x = if chkX x = 1 then 1 else if hs < u + secR nx then 13 else 0):=by show _ = _;rw [appE,hhd,HU.out,HNX.out]
 clear hK hok hxl hst hm hQ hlb hfit hhd hp hsl
 obtain ⟨cc,HCC⟩:=sqn (chkX x)
 rw [← HCC.out] at HCK HEE
 have HCO:Hid (cc = 0 ∨ cc = 1):=by rw [HCC.out];exact chk_or x
 by_cases hc1:cc = 1
 case pos =>
  subst hc1
  have hE:appE J D x = 1:=by rw [HEE.out,if_pos rfl]
  have hX:appX J D x = 1:=by rw [appX,if_neg (by rw [hE];decide),hE]
  have hD:appD J D x = D:=by rw [appD,if_neg (by rw [hE];decide)]
  have hJ:appJ J D x = J:=by rw [appJ,if_neg (by rw [hE];decide)]
  rw [hX,hD,hJ]
  clear hE hX hD hJ
  go_enter Tryz.func79,Tryz.ntmps79
  have tk0:Hid True:=trivial
  go_wp2_with (first
   | (clear tk0;go_at_call 100;refine (HCK.out _ (Below.refl _ _)).mono ?_;rintro e0 y1 ⟨rfl,hy1⟩;subst hy1))
  go_ret
  refine ⟨rfl,P,Q,HPP.out.dk,Mut.refl _ _,Grew.refl _ _,?_⟩
  first | exact fun _ => HPP.out | exact HPP.out
 obtain rfl:cc = 0:=HCO.out.elim id (fun h => absurd h hc1)
 have HNN:Hid (0 < nx ∧ nx ≤ 1048576):=by
  have h:=HCC.out.symm
  unfold chkX at h
  by_cases h3:x.length = 0 ∨ 1048576 < x.length
  · rw [if_pos h3] at h;cases h
  · rw [← HNX.out] at h3
    exact ⟨by omega,by omega⟩
 obtain ⟨rm,HRM⟩:=sqn (min 1048576 (64 * (hs - u) - 57))
 have HRO:Hid (∀ W,Blk W lg (lgC gd hs 0 k gen (.slice xa kn xc) u) 144 → Calls Tryz.prog 78 #[.pointer (some ⟨lg,0,none⟩)] W fun e w' => e = .returned (.int .i64 (rm:Int)) ∧ Below W.heap.size W w'):=fun W hW => by
  rw [HRM.out]
  exact jRoom_any hW HBD.out.1 (by have:=HBD.out;omega)
 have HRI:Hid (rm < nx ↔ hs < u + secR nx):=by rw [HRM.out];exact room_iff HNN.out.1 HNN.out.2 HBD.out.1 (by have:=HBD.out;omega)
 by_cases hno:hs < u + secR nx
 case pos =>
  have hE:appE J D x = 13:=by rw [HEE.out,if_neg (by decide),if_pos hno]
  have hX:appX J D x = 13:=by rw [appX,if_neg (by rw [hE];decide),hE]
  have hD:appD J D x = D:=by rw [appD,if_neg (by rw [hE];decide)]
  have hJ:appJ J D x = J:=by rw [appJ,if_neg (by rw [hE];decide)]
  rw [hX,hD,hJ]
  have q1:(rm:Int) < (nx:Int):=by have:=HRI.out.2 hno;omega
  clear hE hX hD hJ hno hc1
  go_enter Tryz.func79,Tryz.ntmps79
  obtain ⟨tk0,tk1⟩:=sqk2
  go_wp2_with (first
   | (clear tk0;go_at_call 100;refine (HCK.out _ (Below.refl _ _)).mono ?_;rintro e0 y1 ⟨rfl,hy1⟩;subst hy1)
   | (clear tk1;go_at_call 78;refine (HRO.out _ HLB.out).mono ?_;rintro e0 y2 ⟨rfl,hz⟩
      have HBW:Hid (Below y1.heap.size y1 y2):=hz;clear hz))
  go_ret
  have hpk:Pk LgJ y2 gd lg P Q D J:=⟨HPP.out.dk.same14 (fun x hx => HBW.out.block x (HPP.out.dk.lt14 x hx)),by
   obtain ⟨vr,us,hm,hQ⟩:=HPP.out.lg;exact ⟨vr,us,hm.same HBW.out.size (fun x hx => HBW.out.block x (hm.lt x hx)),hQ⟩,HPP.out.ap⟩
  refine ⟨rfl,P,Q,hpk.dk,mut_below HBW.out _,Grew.refl _ _,?_⟩
  first | exact fun _ => hpk | exact hpk
 case neg =>
  have hE:appE J D x = 0:=by rw [HEE.out,if_neg (by decide),if_neg hno]
  have q1:¬ ((rm:Int) < (nx:Int)):=by have:=(not_congr HRI.out).2 hno;omega
  obtain ⟨sx,HSX⟩:=sqn (secR nx)
  obtain ⟨at_,HAT⟩:=sqn (k * hs + u)
  obtain ⟨kh,HKH⟩:=sqn (k * hs)
  obtain ⟨rb,HRB⟩:=sqn (recB gen kn x)
  obtain ⟨rl,HRL⟩:=sqn (rb.length)
  have HRL2:Hid (rl = 64 * sx):=by show _ = _;rw [HRL.out,HRB.out,len_recB,HSX.out,HNX.out]
  have hkh:kh ≤ hs:=by rw [HKH.out];rcases Nat.le_one_iff_eq_zero_or_eq_one.1 HBD.out.2.2.1 with e | e <;> rw [e] <;> omega
  have HSB:Hid (u + sx ≤ hs ∧ at_ ≤ 100 ∧ at_ = kh + u ∧ kh ≤ 50):=⟨by rw [HSX.out];omega,by have h1:=HBD.out;have h2:=HAT.out;have h3:=HKH.out;omega,by rw [HAT.out,HKH.out],by have:=HBD.out;omega⟩
  have HSG:Hid (appS (hsD D) J.k J.gen J.l x = (secsOf at_ sx rb).map some ++ [none]):=by
   show _ = _;rw [appS,show hsD D = hs from HHS.out.symm,← HKK.out,← HGN.out,← HKN.out,← HU.out,← HAT.out,← HNX.out,← HSX.out,← HRB.out]
  obtain ⟨DX,xX,HX⟩:∃ D2 z,Hid (runJ D ((secsOf at_ sx rb).map some ++ [none]) = (D2,z)):=⟨(runJ D ((secsOf at_ sx rb).map some ++ [none])).1,(runJ D ((secsOf at_ sx rb).map some ++ [none])).2,rfl⟩
  have hX:appX J D x = xX:=by rw [appX,if_pos hE,HSG.out,HX.out]
  have hD:appD J D x = DX:=by rw [appD,if_pos hE,HSG.out,HX.out]
  have hJ:appJ J D x = ⟨J.k,J.gen,J.l ++ [x]⟩:=by rw [appJ,if_pos hE]
  have HOKD:Hid (okD D):=by obtain ⟨_,_,_,_,hm,_⟩:=HDK.out;exact hm.ok
  have HER:Hid ((xX = 0 ∨ xX = 14) ∧ sizeD DX = sizeD D):=by
   have h1:=run_err ((secsOf at_ sx rb).map some ++ [none]) D HOKD.out (fun p hp => by
    rw [List.mem_append] at hp
    rcases hp with hp | hp
    · rw [List.mem_map] at hp
      obtain ⟨q,hq,e⟩:=hp
      cases e
      exact secs_mem (n:=sizeD D) sx at_ rb (by rw [← HRL.out,HRL2.out]) (by have h2:=HSB.out;have h3:=HHS.out;have h4:=HKH.out;have h5:=hkh;omega) p hq
    · simp at hp)
   have h2:=(run_size ((secsOf at_ sx rb).map some ++ [none]) D HOKD.out).1;rw [HX.out] at h1 h2;exact ⟨h1,h2⟩
  rw [hX,hD,hJ]
  have f1:IntKind.u64.wrap (kn:Int) = (kn:Int):=uJ (by have:=HBD.out;omega)
  have f2:IntKind.i64.wrap ((k:Int) * (hs:Int)) = (kh:Int):=mJ HKH.out (by have:=HBD.out;omega)
  have f3:IntKind.i64.wrap ((kh:Int) + (u:Int)) = (at_:Int):=aJ HSB.out.2.2.1 (by have:=HSB.out;omega)
  obtain ⟨u2,HU2⟩:=sqn (u + sx)
  have f4:IntKind.i64.wrap ((u:Int) + (sx:Int)) = (u2:Int):=aJ HU2.out (by have h1:=HU2.out;have h2:=HSB.out;have h3:=HBD.out;omega)
  have HLT:Hid (∀ k,Un P Q k → k < w.heap.size):=fun k hk => hk.elim (HDK.out.lt14 k) (fun h => by
   obtain ⟨vr,us,hm,hQ⟩:=HPP.out.lg;rw [hQ] at h;exact hm.lt k h)
  have HQL:Hid (Q lg):=by rw [HQQ.out];exact Or.inl rfl
  have HUN:Hid (∀ k,Un P (fun z => z = lg) k → Un P Q k):=fun k hk => hk.elim Or.inl (fun e => Or.inr (by rw [e];exact HQL.out))
  have HNP:Hid (¬ P lg):=HAP.out lg HQL.out
  clear hE hX hD hJ hno hc1 hkh HEE HRI
  go_enter Tryz.func79,Tryz.ntmps79
  obtain ⟨tk0,tk1⟩:=sqk2
  go_upto_region 6 with (first
   | (clear tk0;go_at_call 100;refine (HCK.out _ (Below.refl _ _)).mono ?_;rintro e0 y1 ⟨rfl,hy1⟩;subst hy1)
   | (clear tk1;go_at_call 78;refine (HRO.out _ HLB.out).mono ?_;rintro e0 y2 ⟨rfl,hz⟩
      have HBW:Hid (Below y1.heap.size y1 y2):=hz;clear hz))
  have HD2:Hid (Below y1.heap.size y1 y2.drew):=HBW.out.drew
  have HL2:Hid (Blk y2.drew lg (lgC gd hs 0 k gen (.slice xa kn xc) u) 144):=HLB.out.below HD2.out HLB.out.lt
  refine wp_region_held_drew (S:=fun wx => Blk wx lg (lgC gd hs 0 k gen (.slice xa kn xc) u) 144) (by kernel_rfl) HL2.out ?_
  intro hS
  refine tkc 0 (.pointer (some ⟨lg,0,none⟩)) rfl hS ?_
  simp only [Act.put,sq]
  refine tkc 1 (.pointer (some ⟨lg,0,none⟩)) rfl hS ?_
  simp only [Act.put,sq]
  refine tkc 2 (.pointer (some ⟨lg,4,none⟩)) rfl hS ?_
  simp only [Act.put,sq]
  refine tkc 3 (.pointer (some ⟨lg,5,none⟩)) rfl hS ?_
  simp only [Act.put,sq]
  refine tka 4 (.int .u64 (gen:Int)) rfl (fun wx hx => by (have c0:wx.cell? ⟨lg,5,none⟩ = some (.int .u64 (gen:Int)):=hx.cell 5;simp [go_sem,c0])) hS ?_
  simp only [Act.put,sq]
  refine tkc 5 (.pointer (some ⟨lg,0,none⟩)) rfl hS ?_
  simp only [Act.put,sq]
  refine tkc 6 (.pointer (some ⟨lg,0,none⟩)) rfl hS ?_
  simp only [Act.put,sq]
  refine tkc 7 (.pointer (some ⟨lg,4,none⟩)) rfl hS ?_
  simp only [Act.put,sq]
  refine tkc 8 (.pointer (some ⟨lg,6,none⟩)) rfl hS ?_
  simp only [Act.put,sq]
  refine tka 9 (.slice xa kn xc) rfl (fun wx hx => by (have c0:wx.cell? ⟨lg,6,none⟩ = some (.slice xa kn xc):=hx.cell 6;simp [go_sem,c0])) hS ?_
  simp only [Act.put,sq]
  refine tkc 10 (.int .i64 (kn:Int)) rfl hS ?_
  simp only [Act.put,sq]
  refine tka 11 (.int .u64 (kn:Int)) rfl (fun wx hx => by simp [go_sem,f1]) hS ?_
  simp only [Act.put,sq]
  refine tkc 12 (.slice ax nx cx) rfl hS ?_
  simp only [Act.put,sq]
  refine wpAnyH_enter 13 (by kernel_rfl) rfl (by rfl) (f:=101) (args:=#[.int .u64 (gen:Int),.int .u64 (kn:Int),.slice ax nx cx]) (by simp [go_sem]) (jRecord_own gen kn HBD.out.2.2.2.1 (by have:=HBD.out;omega) _ x (by rw [← HNX.out];have:=HBD.out;omega) _ (HK.out.below HD2.out HK.out.lt) (HRD.out.now.below HD2.out)) ?_
  rintro e0 y3 ⟨v3,rfl,ho3,hz3⟩
  rw [← HRB.out] at ho3
  obtain ⟨a3,c3,hv3⟩:=ownB_form ho3
  rw [← HRL.out] at hv3
  subst hv3
  replace hS:Blk y3 lg (lgC gd hs 0 k gen (.slice xa kn xc) u) 144:=HL2.out.below hz3 HL2.out.lt
  refine ⟨_,rfl,hS,?_⟩
  simp only [Act.put,sq]
  refine tkc 14 (.slice a3 rl c3) rfl hS ?_
  simp only [Act.put,sq]
  refine wpAnyH_done (by kernel_rfl) ?_ _
  have HB3:Hid (Below y1.heap.size y1 y3):=HD2.out.trans (hz3.mono HD2.out.size)
  have HO3:Hid (Sta (Un P Q) y3 (fun W => Reads W (.slice a3 rl c3) rb)):=(ho3.st (P:=Un P Q) (fun z hz => Nat.lt_of_lt_of_le (HLT.out z hz) HD2.out.size))
  clear hS ho3 hz3 HL2 HD2 HBW
  go_upto_region 7 with fail
  have HD4:Hid (Below y1.heap.size y1 y3.drew):=HB3.out.drew
  have HL4:Hid (Blk y3.drew lg (lgC gd hs 0 k gen (.slice xa kn xc) u) 144):=HLB.out.below HD4.out HLB.out.lt
  have HPC:Hid (Calls Tryz.prog 102 #[.pointer (some ⟨lg,0,none⟩),.int .i64 (at_:Int),.slice a3 rl c3] y3.drew fun e w' => e = .returned (.int .i64 xX) ∧ ∃ P',DkIs w' gd P' DX ∧ Blk w' lg (lgC gd hs xX k gen (.slice xa kn xc) u) 144 ∧ Mut (Un P (fun z => z = lg)) y3.drew w' ∧ Grew y3.drew P P'):=by
   have h1:=jPut_any (w:=y3.drew) (gd:=gd) (lg:=lg) (P:=P) (D:=D) hs k gen u at_ sx (.slice xa kn xc) (.slice a3 rl c3) rb (HDK.out.same14 (fun z hz => HD4.out.block z (HDK.out.lt14 z hz))) HL4.out HNP.out (by rw [← HRL.out,HRL2.out]) (by have h2:=HSB.out;have h3:=HBD.out;omega) HSB.out.2.1 (by rw [HBD.out.2.2.2.2.2.2.2.1];show 0 + sx ≤ 200;have h2:=HSB.out;have h3:=HBD.out;omega) ((HO3.out.below ((Below.refl _ _).drew)).weak (fun z _ h => HUN.out z h))
   rw [HX.out] at h1;exact h1
  refine wp_region_held_drew (S:=fun wx => wx.cell? ⟨lg,4,none⟩ = some (.int .i64 (k:Int)) ∧ wx.cell? ⟨lg,2,none⟩ = some (.int .i64 (hs:Int)) ∧ wx.cell? ⟨lg,7,none⟩ = some (.int .i64 (u:Int))) (by kernel_rfl) ⟨HL4.out.cell 4,HL4.out.cell 2,HL4.out.cell 7⟩ ?_
  intro hS
  refine tkc 0 (.pointer (some ⟨lg,0,none⟩)) rfl hS ?_
  simp only [Act.put,sq]
  refine tkc 1 (.pointer (some ⟨lg,0,none⟩)) rfl hS ?_
  simp only [Act.put,sq]
  refine tkc 2 (.pointer (some ⟨lg,0,none⟩)) rfl hS ?_
  simp only [Act.put,sq]
  refine tkc 3 (.pointer (some ⟨lg,4,none⟩)) rfl hS ?_
  simp only [Act.put,sq]
  refine tkc 4 (.pointer (some ⟨lg,4,none⟩)) rfl hS ?_
  simp only [Act.put,sq]
  refine tka 5 (.int .i64 (k:Int)) rfl (fun wx hx => by simp [go_sem,hx.1]) hS ?_
  simp only [Act.put,sq]
  refine tkc 6 (.pointer (some ⟨lg,0,none⟩)) rfl hS ?_
  simp only [Act.put,sq]
  refine tkc 7 (.pointer (some ⟨lg,0,none⟩)) rfl hS ?_
  simp only [Act.put,sq]
  refine tkc 8 (.pointer (some ⟨lg,2,none⟩)) rfl hS ?_
  simp only [Act.put,sq]
  refine tka 9 (.int .i64 (hs:Int)) rfl (fun wx hx => by simp [go_sem,hx.2.1]) hS ?_
  simp only [Act.put,sq]
  refine tka 10 (.int .i64 (kh:Int)) rfl (fun wx hx => by simp [go_sem,f2]) hS ?_
  simp only [Act.put,sq]
  refine tkc 11 (.pointer (some ⟨lg,0,none⟩)) rfl hS ?_
  simp only [Act.put,sq]
  refine tkc 12 (.pointer (some ⟨lg,0,none⟩)) rfl hS ?_
  simp only [Act.put,sq]
  refine tkc 13 (.pointer (some ⟨lg,4,none⟩)) rfl hS ?_
  simp only [Act.put,sq]
  refine tkc 14 (.pointer (some ⟨lg,7,none⟩)) rfl hS ?_
  simp only [Act.put,sq]
  refine tka 15 (.int .i64 (u:Int)) rfl (fun wx hx => by simp [go_sem,hx.2.2]) hS ?_
  simp only [Act.put,sq]
  refine tka 16 (.int .i64 (at_:Int)) rfl (fun wx hx => by simp [go_sem,f3]) hS ?_
  simp only [Act.put,sq]
  refine tkc 17 (.slice a3 rl c3) rfl hS ?_
  simp only [Act.put,sq]
  refine wpAnyH_enter 18 (by kernel_rfl) rfl (by rfl) (f:=102) (args:=#[.pointer (some ⟨lg,0,none⟩),.int .i64 (at_:Int),.slice a3 rl c3]) (by simp [go_sem]) HPC.out ?_
  rintro e0 y5 ⟨rfl,P5,hd5,hl5,hm5,hg5⟩
  replace hS:y5.cell? ⟨lg,4,none⟩ = some (.int .i64 (k:Int)) ∧ y5.cell? ⟨lg,2,none⟩ = some (.int .i64 (hs:Int)) ∧ y5.cell? ⟨lg,7,none⟩ = some (.int .i64 (u:Int)):=⟨hl5.cell 4,hl5.cell 2,hl5.cell 7⟩
  refine ⟨_,rfl,hS,?_⟩
  simp only [Act.put,sq]
  refine tkc 19 (.int .i64 xX) rfl hS ?_
  simp only [Act.put,sq]
  refine wpAnyH_done (by kernel_rfl) ?_ _
  have HM5:Hid (Mut (Un P Q) y1 y5):=(mut_below HD4.out _).trans (fun _ _ h => h) ((Mut.refl (Un P Q) y3.drew).trans (fun z _ h => HUN.out z h) hm5)
  have HMP:Hid (∀ z,z < y3.drew.heap.size → ¬ Un P (fun z => z = lg) z → y5.heap[z]? = y3.drew.heap[z]?):=hm5.block
  have HG5:Hid (∀ z,P5 z → P z ∨ y1.heap.size ≤ z):=fun z hz => (hg5 z hz).imp id (fun h => Nat.le_trans HD4.out.size h)
  have HD5:Hid (DkIs y5 gd P5 DX):=hd5
  have HL5:Hid (Blk y5 lg (lgC gd hs xX k gen (.slice xa kn xc) u) 144):=hl5
  clear hS hd5 hl5 hm5 hg5 HPC HL4
  by_cases hx0:xX = 0
  case neg =>
   have hx14:xX = 14:=HER.out.1.elim (fun h => absurd h hx0) id
   have q2:(xX != 0) = true:=by rw [bne_iff_ne];exact hx0
   go_wp2;go_ret;refine ⟨rfl,P5,fun _ => False,HD5.out,HM5.out,fun z hz => hz.elim (fun h => (HG5.out z h).imp Or.inl id) (fun h => h.elim),fun h => absurd hx14 h⟩
  case pos =>
   subst hx0
   go_upto_region 10 with fail
   have HQO:Hid (∀ z,lgQ lg (.slice xa kn xc) us z → Q z):=by rw [HQQ.out];exact fun z h => h
   have hbl:∀ z,Q z → z ≠ lg → y5.heap[z]? = y1.heap[z]?:=fun z hq hne => by
    have h1:z < y1.heap.size:=HLT.out z (Or.inr hq);rw [HMP.out z (Nat.lt_of_lt_of_le h1 HD4.out.size) (fun h => h.elim (HAP.out z hq) hne),HD4.out.block z h1]
   have HT5:Hid (TxJ 0 (.slice xa kn xc) us J.l y5):=HTX.out.sameQ HM5.out.size (fun z hz => hbl z (HQO.out z (Or.inr (Or.inl hz))) (fun e => ownX_ne_lg HTX.out.own HLB.out (e ▸ hz))) (fun uu huu z hz => hbl z (HQO.out z (Or.inr (Or.inr ⟨uu,huu,hz⟩))) (fun e => by
    obtain ⟨i,hi,rfl⟩:=List.getElem_of_mem huu;exact ownB_ne_lg (HTX.out.good i _ (List.getElem?_eq_getElem hi)) HLB.out (e ▸ hz)))
   have HX5:Hid (Reads y5 (.slice ax nx cx) x):=HRD.out y5 HM5.out;clear hbl HMP HD4;have HD6:Hid (Below y5.heap.size y5 y5.drew):=(Below.refl _ _).drew;replace HX5:Hid (Reads y5.drew (.slice ax nx cx) x):=HX5.out.below HD6.out;have HT6:Hid (TxJ 0 (.slice xa kn xc) us J.l y5.drew):=HT5.out.next HD6.out;have HL6:Hid (Blk y5.drew lg (lgC gd hs 0 k gen (.slice xa kn xc) u) 144):=HL5.out.drew;have c6:y5.drew.cell? ⟨lg,6,none⟩ = some (.slice xa kn xc):=HL6.out.cell 6;refine wp_region_held_drew (S:=fun _ => True) (by kernel_rfl) trivial ?_
   intro _;refine tkc 0 (.pointer (some ⟨lg,0,none⟩)) rfl trivial ?_;simp only [Act.put,sq];refine tkc 1 (.pointer (some ⟨lg,0,none⟩)) rfl trivial ?_;simp only [Act.put,sq];refine tkc 2 (.pointer (some ⟨lg,0,none⟩)) rfl trivial ?_;simp only [Act.put,sq];refine tkc 3 (.pointer (some ⟨lg,4,none⟩)) rfl trivial ?_;simp only [Act.put,sq];refine tkc 4 (.pointer (some ⟨lg,6,none⟩)) rfl trivial ?_;simp only [Act.put,sq];refine tkc 6 (.slice ax nx cx) rfl trivial ?_;simp only [Act.put,sq];refine wpAnyH_readCB 5 7 8 (.slice xa kn xc) (f:=64) (args:=#[.slice ax nx cx]) (by kernel_rfl) rfl rfl rfl (by rfl) (by rfl) (fun _ => by rfl) (fun _ _ => by rfl) (by rfl) (fun _ => by rfl) (fun _ => by rfl) (by simp [go_sem,c6]) (by simp [go_sem]) (by simp [go_sem]) (bclone_any _ x _ HX5.out (by rw [← HNX.out];have h1:=HBD.out;omega)) (by kernel_rfl) (by kernel_rfl) (by kernel_rfl) (by kernel_rfl) (fun _ => by rfl) (fun _ _ => by rfl) (by rfl) (by rfl) trivial ?_
   rintro e0 y6 ⟨vc,rfl,ho6,hz6⟩;obtain ⟨ac,cc,hvc⟩:=ownB_form ho6;rw [← HNX.out] at hvc;subst hvc;have hl6:Blk y6 lg (lgC gd hs 0 k gen (.slice xa kn xc) u) 144:=HL6.out.below hz6 HL6.out.lt;have hz7:=below_alloc y6 (.cells #[Value.slice ac nx cc] 23);have hl7:Blk (y6.alloc (.cells #[Value.slice ac nx cc] 23)) lg (lgC gd hs 0 k gen (.slice xa kn xc) u) 144:=hl6.below hz7 hl6.lt;have c6b:y6.cell? ⟨lg,6,none⟩ = some (.slice xa kn xc):=hl6.cell 6;have c6c:(y6.alloc (.cells #[Value.slice ac nx cc] 23)).cell? ⟨lg,6,none⟩ = some (.slice xa kn xc):=hl7.cell 6;refine ⟨_,rfl,trivial,by simp [go_sem,c6b],.slice (some ⟨y6.heap.size,0,none⟩) 1 1,y6.alloc (.cells #[Value.slice ac nx cc] 23),build_x1 _ _ (.tmp 61) ac nx cc rfl rfl _,build_x1 _ _ (.tmp 61) ac nx cc rfl rfl _,trivial,by simp [go_sem,c6c],?_⟩
   simp only [Act.put,sq];have HT7:Hid (TxJ 0 (.slice xa kn xc) us J.l y6):=HT6.out.next hz6;have HOW:Hid (OwnB y6 y5.drew.heap.size (.slice ac nx cc) x):=ho6;refine wpAnyH_appX 9 (.tmp 59) (.tmp 62) 0 (.slice xa kn xc) (.slice ac nx cc) us y6.heap.size (HT7.out.next hz7).own ((Blk.new y6 [Value.slice ac nx cc] 23).cell 0) rfl (by have h1:=HT7.out.len;have h2:=HKN.out;have h3:=HBD.out;omega) (Nat.zero_le _) (by kernel_rfl) rfl (by rfl) rfl rfl rfl ?_
   intro v8 y8 ho8 hg8 ha8;refine ⟨trivial,?_⟩;simp only [Act.put,sq];obtain ⟨HT8,_⟩:=HT7.out.grow (ownB_lower HOW.out (Nat.zero_le _)) ho8 hg8;obtain ⟨a8,c8,hv8⟩:=HT8.form;obtain ⟨kn1,HKN1⟩:=sqn (kn + 1);have hkl:(J.l ++ [x]).length = kn1:=by rw [List.length_append,← HKN.out,HKN1.out];rfl
   rw [hkl] at hv8;subst hv8;have hrow:(Value.slice xa kn xc).ownBlock ≠ some lg:=ownX_ne_lg (HT7.out.next hz7).own hl7;have hl8:Blk y8 lg (lgC gd hs 0 k gen (.slice xa kn xc) u) 144:=hl7.grownJ hg8 hrow
   have hb58:∀ z,z < y5.heap.size → (Value.slice xa kn xc).ownBlock ≠ some z → y8.heap[z]? = y5.heap[z]?:=fun z hz hne => by
    have h1:z < y6.heap.size:=Nat.lt_of_lt_of_le hz hz6.size;have h2:z < (y6.alloc (.cells #[Value.slice ac nx cc] 23)).heap.size:=Nat.lt_of_lt_of_le h1 hz7.size;rw [hg8.block z h2 (Ne.symm hne),hz7.block z h1,hz6.block z hz]
    rfl
   have HS8:Hid (y5.heap.size ≤ y8.heap.size):=Nat.le_trans hz6.size (Nat.le_trans hz7.size hg8.size);have HRQ:Hid (∀ z,(Value.slice xa kn xc).ownBlock = some z → Q z ∧ z < y1.heap.size):=fun z hz => ⟨HQO.out z (Or.inr (Or.inl hz)),HLT.out z (Or.inr (HQO.out z (Or.inr (Or.inl hz))))⟩
   have HM8:Hid (Mut (Un P Q) y1 y8):=by
    have ho:=hg8.os.trans (hz7.os.trans (hz6.os.trans rfl));refine ⟨(hg8.os.trans (hz7.os.trans hz6.os)).trans HM5.out.os,(hg8.tape.trans (hz7.tape.trans hz6.tape)).trans HM5.out.tape,(hg8.output.trans (hz7.output.trans hz6.output)).trans HM5.out.output,Nat.le_trans HM5.out.size HS8.out,fun z hz hn => ?_⟩
    rw [hb58 z (Nat.lt_of_lt_of_le hz HM5.out.size) (fun e => hn (Or.inr (HRQ.out z e).1))]
    exact HM5.out.block z hz hn
   have HD8:Hid (DkIs y8 gd P5 DX):=HD5.out.same14 (fun z hz => hb58 z (HD5.out.lt14 z hz) (fun e => (HG5.out z hz).elim (fun h => HAP.out z (HRQ.out z e).1 h) (fun h => absurd (HRQ.out z e).2 (by omega))))
   have HQ8:Hid (∀ z,lgQ lg (.slice a8 kn1 c8) (us ++ [.slice ac nx cc]) z → Q z ∨ y1.heap.size ≤ z):=fun z hz => by
    rcases hz with rfl | hz | ⟨uu,huu,hz⟩
    · exact Or.inl HQL.out
    · rcases ha8 with h | h
      · rw [h] at hz;exact Or.inl (HRQ.out z hz).1
      · rw [h] at hz
        cases hz
        exact Or.inr (Nat.le_trans HM5.out.size (Nat.le_trans hz6.size hz7.size))
    · rcases List.mem_append.1 huu with huu | huu
      · exact Or.inl (HQO.out z (Or.inr (Or.inr ⟨uu,huu,hz⟩)))
      · simp at huu
        subst huu;exact Or.inr (Nat.le_trans HM5.out.size (HOW.out.ltJ z hz).1)
   have HT8':Hid (TxJ 0 (.slice a8 kn1 c8) (us ++ [.slice ac nx cc]) (J.l ++ [x]) y8):=HT8;have HL8:Hid (Blk y8 lg (lgC gd hs 0 k gen (.slice xa kn xc) u) 144):=hl8;clear HT8 hl8 hb58 hrow hkl ho8 hg8 ha8 hz6 hz7 hl6 hl7 c6 c6b c6c ho6 HOW HT7 HT6 HT5 HL6 HX5 HRQ HQO;refine tkc 10 (.pointer (some ⟨lg,0,none⟩)) rfl trivial ?_;simp only [Act.put,sq];refine tkc 11 (.pointer (some ⟨lg,4,none⟩)) rfl trivial ?_;simp only [Act.put,sq];refine tkc 12 (.pointer (some ⟨lg,6,none⟩)) rfl trivial ?_;simp only [Act.put,sq];have c68:y8.cell? ⟨lg,6,none⟩ = some (.slice xa kn xc):=HL8.out.cell 6;have d68:y8.frozen? ⟨lg,6,none⟩ = false:=HL8.out.frozen 6;refine wpAnyH_skip 13 (y8.setCell ⟨lg,6,none⟩ (.slice a8 kn1 c8)) (by kernel_rfl) rfl (by rfl) (by simp [go_sem,c68,d68]) trivial ?_
   simp only [Act.put];refine wpAnyH_done (by kernel_rfl) ?_ _
   obtain ⟨y9,HY9⟩:∃ y,Hid (y = y8.setCell ⟨lg,6,none⟩ (.slice a8 kn1 c8)):=⟨_,rfl⟩;rw [← HY9.out];have ho9:Only lg y8 y9:=by rw [HY9.out];exact Only.setCell (Only.refl _ _) _ _
   have HL9:Hid (Blk y9 lg (lgC gd hs 0 k gen (.slice a8 kn1 c8) u) 144):=by rw [HY9.out];exact lg_set _ HL8.out
   have HT9:Hid (TxJ 0 (.slice a8 kn1 c8) (us ++ [.slice ac nx cc]) (J.l ++ [x]) y9):=HT8'.out.onlyT ho9 HL8.out (by decide) (by decide)
   have HM9:Hid (Mut (Un P Q) y1 y9):=HM8.out.trans (fun _ _ h => h) (ho9.mut (Or.inr HQL.out))
   have HN5:Hid (¬ P5 lg):=fun h => (HG5.out lg h).elim HNP.out (fun h2 => absurd h2 (by have:=HLB.out.lt;omega))
   have HD9:Hid (DkIs y9 gd P5 DX):=HD8.out.same14 (fun z hz => ho9.block z (fun e => HN5.out (e ▸ hz)) (HD8.out.lt14 z hz))
   clear HY9 ho9 HL8 HT8' HM8 HD8 c68 d68
   go_upto_region 11 with fail
   have HL10:Hid (Blk y9.drew lg (lgC gd hs 0 k gen (.slice a8 kn1 c8) u) 144):=HL9.out.drew;have c7:y9.drew.cell? ⟨lg,7,none⟩ = some (.int .i64 (u:Int)):=HL10.out.cell 7;have d7:y9.drew.frozen? ⟨lg,7,none⟩ = false:=HL10.out.frozen 7
   have HSC:Hid (∀ W,Calls Tryz.prog 103 #[.int .i64 (rl:Int)] W fun e w' => e = .returned (.int .i64 (sx:Int)) ∧ w' = W):=fun W => by
    have h1:=jSectors_any rl (by have h2:=HRL2.out;have h3:=HSB.out;have h4:=HBD.out;omega) W
    have e:(rl + 63) / 64 = sx:=by have h2:=HRL2.out;omega
    rw [e] at h1;exact h1
   refine wp_region_held_drew (S:=fun _ => True) (by kernel_rfl) trivial ?_
   intro _;refine tkc 0 (.pointer (some ⟨lg,0,none⟩)) rfl trivial ?_;simp only [Act.put,sq];refine tkc 1 (.pointer (some ⟨lg,0,none⟩)) rfl trivial ?_;simp only [Act.put,sq];refine tkc 2 (.pointer (some ⟨lg,4,none⟩)) rfl trivial ?_;simp only [Act.put,sq];refine tkc 3 (.pointer (some ⟨lg,7,none⟩)) rfl trivial ?_;simp only [Act.put,sq];refine tkc 5 (.slice a3 rl c3) rfl trivial ?_;simp only [Act.put,sq];refine tkc 6 (.int .i64 (rl:Int)) rfl trivial ?_;simp only [Act.put,sq];refine wpAnyH_readC 4 7 (.int .i64 (u:Int)) (f:=103) (args:=#[.int .i64 (rl:Int)]) (by kernel_rfl) rfl rfl (by rfl) (by rfl) (fun _ => by rfl) (by rfl) (by simp [go_sem,c7]) (by simp [go_sem]) (by simp [go_sem]) (HSC.out _) (by kernel_rfl) (by kernel_rfl) (fun _ => by rfl) (by rfl) trivial ?_
   rintro e0 y10 ⟨rfl,hy10⟩;subst hy10;refine ⟨_,rfl,trivial,by simp [go_sem,c7],?_⟩
   simp only [Act.put,sq];refine tka 8 (.int .i64 (u2:Int)) rfl (fun wx hx => by simp [go_sem,f4]) trivial ?_
   simp only [Act.put,sq];refine tkc 9 (.pointer (some ⟨lg,0,none⟩)) rfl trivial ?_;simp only [Act.put,sq];refine tkc 10 (.pointer (some ⟨lg,4,none⟩)) rfl trivial ?_;simp only [Act.put,sq];refine tkc 11 (.pointer (some ⟨lg,7,none⟩)) rfl trivial ?_;simp only [Act.put,sq];refine wpAnyH_skip 12 (y9.drew.setCell ⟨lg,7,none⟩ (.int .i64 (u2:Int))) (by kernel_rfl) rfl (by rfl) (by simp [go_sem,c7,d7]) trivial ?_
   simp only [Act.put];refine wpAnyH_done (by kernel_rfl) ?_ _
   obtain ⟨y11,HY11⟩:∃ y,Hid (y = y9.drew.setCell ⟨lg,7,none⟩ (.int .i64 (u2:Int))):=⟨_,rfl⟩;rw [← HY11.out];have ho11:Only lg y9.drew y11:=by rw [HY11.out];exact Only.setCell (Only.refl _ _) _ _
   have HL11:Hid (Blk y11 lg (lgC gd hs 0 k gen (.slice a8 kn1 c8) u2) 144):=by rw [HY11.out];exact lg_setU _ HL10.out
   have HT11:Hid (TxJ 0 (.slice a8 kn1 c8) (us ++ [.slice ac nx cc]) (J.l ++ [x]) y11):=(HT9.out.next ((Below.refl _ _).drew)).onlyT ho11 HL10.out (by decide) (by decide)
   have HM11:Hid (Mut (Un P Q) y1 y11):=HM9.out.drew.trans (fun _ _ h => h) (ho11.mut (Or.inr HQL.out))
   have HD11:Hid (DkIs y11 gd P5 DX):=(HD9.out.same14 (w':=y9.drew) (fun _ _ => rfl)).same14 (fun z hz => ho11.block z (fun e => HN5.out (e ▸ hz)) (HD9.out.lt14 z hz))
   clear HY11 ho11 c7 d7;go_wp2;go_ret
   have hlm:LgM y11 lg gd (sizeD DX) (.slice a8 kn1 c8) (us ++ [.slice ac nx cc]) ⟨J.k,J.gen,J.l ++ [x]⟩:=⟨by
    show Blk y11 lg (lgC gd (sizeD DX / 2) 0 J.k J.gen (.slice a8 kn1 c8) (1 + secL (J.l ++ [x]))) 144;rw [HER.out.2,← HHS.out,← HKK.out,← HGN.out,secL_snoc,← HNX.out,← HSX.out,← Nat.add_assoc,← HU.out,← HU2.out];exact HL11.out,HT11.out⟩
   have hpk:Pk LgJ y11 gd lg P5 (lgQ lg (.slice a8 kn1 c8) (us ++ [.slice ac nx cc])) DX ⟨J.k,J.gen,J.l ++ [x]⟩:=⟨HD11.out,⟨_,_,hlm,rfl⟩,pk_ap HD11.out hlm⟩;have hgw:Grew y1 (Un P Q) (Un P5 (lgQ lg (.slice a8 kn1 c8) (us ++ [.slice ac nx cc]))):=fun z hz => hz.elim (fun h => (HG5.out z h).imp Or.inl id) (fun h => (HQ8.out z h).imp Or.inr id)
   first
    | exact ⟨rfl,P5,_,HD11.out,HM11.out,hgw,fun _ => hpk⟩
    | exact ⟨rfl,P5,_,HD11.out,HM11.out,hgw,hpk⟩
    | exact ⟨rfl,P5,HD11.out,HM11.out,_,hgw,hpk⟩
    | trace_state
theorem TxJ.stN {base:Nat} {v:Value} {us:List Value} {xs:List Bs} {w:World} (h:TxJ base v us xs w) {R:Nat → Prop} (hv:∀ z,v.ownBlock = some z → ¬ R z) (hu:∀ u ∈ us,∀ z,u.ownBlock = some z → ¬ R z):Sta R w (fun W => ReadsL W v xs):=fun W m =>
 (h.sameQ m.size (fun z hz => m.block z (h.own.lt z hz).2 (hv z hz)) (fun u huu z hz => m.block z (by
   obtain ⟨i,hi,rfl⟩:=List.getElem_of_mem huu;exact ((h.good i _ (List.getElem?_eq_getElem hi)).ltJ z hz).2) (hu u huu z hz))).readsL
theorem TxJ.ge_all {base:Nat} {v:Value} {us:List Value} {xs:List Bs} {w:World} (h:TxJ base v us xs w):(∀ z,v.ownBlock = some z → base ≤ z ∧ z < w.heap.size) ∧ ∀ u ∈ us,∀ z,u.ownBlock = some z → base ≤ z ∧ z < w.heap.size:=⟨h.own.lt,fun u huu z hz => by
 obtain ⟨i,hi,rfl⟩:=List.getElem_of_mem huu
 exact (h.good i _ (List.getElem?_eq_getElem hi)).ltJ z hz⟩
theorem TxJ.lower {base B:Nat} {v:Value} {us:List Value} {xs:List Bs} {w:World} (h:TxJ base v us xs w) (hB:B ≤ base):TxJ B v us xs w:=by
 refine ⟨?_,h.len,fun j u hj => ownB_lower (h.good j u hj) hB,Nat.le_trans hB h.ge⟩
 rcases h.own with ⟨h1,⟨rfl,h2⟩ | ⟨g,cap,cur,rfl,hg,r⟩⟩
 · exact ⟨h1,Or.inl ⟨rfl,h2⟩⟩
 · exact ⟨h1,Or.inr ⟨g,cap,cur,rfl,Nat.le_trans hB hg,r⟩⟩
theorem anew_mem {hs k gen n:Nat} {l:List Bs} (hk:k ≤ 1) (hf:1 + secL l ≤ hs) (hn:2 * hs ≤ n):∀ p,some p ∈ anewS hs k gen l → p.1 < n ∧ p.2.length = 64:=fun p hp => by
 have hks:k * hs ≤ hs:=by rcases Nat.le_one_iff_eq_zero_or_eq_one.1 hk with e | e <;> rw [e] <;> omega
 unfold anewS at hp
 simp only [List.mem_append,List.mem_map,List.mem_cons,List.not_mem_nil,or_false,reduceCtorEq,false_or,Option.some.injEq,exists_eq_right] at hp
 rcases hp with hp | hp | hp
 · exact secs_mem hs (k * hs) _ (List.length_replicate) (by omega) p hp
 · exact secs_mem (secL l) (k * hs + 1) _ (by rw [len_recsB,sizeL_eq]) (by omega) p hp
 · exact secs_mem 1 (k * hs) _ (len_headB gen) (by omega) p hp
theorem jRestart_any {w:World} {gd lg:Nat} {P Q:Nat → Prop} {D:DkT} {J:JnT} (v:Value) (m:List Bs) (hK:KOk w) (hp:Pk LgJ w gd lg P Q D J) (hok:okJ D J) (hml:m.length ≤ 100000) (hmx:∀ x ∈ m,x.length ≤ 100000) (hst:Sta (Un P Q) w (fun W => ReadsL W v m)) :
 Calls Tryz.prog 105 #[.pointer (some ⟨lg,0,none⟩),v] w fun e w' => e = .returned (.int .i64 (rstX J D m)) ∧ ∃ P' Q',DkIs w' gd P' (rstD J D m) ∧ Mut (Un P Q) w w' ∧ Grew w (Un P Q) (Un P' Q') ∧ (rstX J D m ≠ 14 → Pk LgJ w' gd lg P' Q' (rstD J D m) (rstJ J D m)):=by
 obtain ⟨vr,us,hm,hQ⟩:=id hp.lg
 obtain ⟨n,HN⟩:=sqn (m.length)
 obtain ⟨ad,c,hv⟩:∃ a c,v = .slice a n c:=by obtain ⟨a,c,hv,_⟩:=hst.now;rw [← HN.out] at hv;exact ⟨a,c,hv⟩
 subst hv
 obtain ⟨hs,HHS⟩:=sqn (sizeD D / 2)
 obtain ⟨u,HU⟩:=sqn (1 + secL J.l)
 obtain ⟨k,HKK⟩:=sqn (J.k)
 obtain ⟨gen,HGN⟩:=sqn (J.gen)
 have hlb:=hm.lb
 rw [← HHS.out,← HU.out,← HKK.out,← HGN.out] at hlb
 have HLB:Hid (Blk w lg (lgC gd hs 0 k gen vr u) 144):=hlb
 have HDK:Hid (DkIs w gd P D):=hp.dk
 have HAP:Hid (∀ k,Q k → ¬ P k):=hp.ap
 have HK:Hid (KOk w):=hK
 have HRL:Hid (ReadsL w (.slice ad n c) m):=hst.now
 have HPP:Hid (Pk LgJ w gd lg P Q D J):=hp
 have HQL:Hid (Q lg):=by rw [hQ];exact Or.inl rfl
 have HLT:Hid (∀ k,Un P Q k → k < w.heap.size):=fun k hk => hk.elim (hp.dk.lt14 k) (fun h => by rw [hQ] at h;exact hm.lt k h)
 have HBD:Hid (hs ≤ 50 ∧ k ≤ 1 ∧ gen + 1 < 18446744073709551616 ∧ n ≤ 100000 ∧ 4 ≤ hs ∧ D.wait = [] ∧ 2 * hs ≤ sizeD D ∧ 1 ≤ hs):=⟨by have h1:=HHS.out;have h2:=hok.hi;omega,by rw [HKK.out];exact hok.k1,by have h1:=hok.g2;rw [HGN.out];omega,by rw [HN.out];exact hml,by have h1:=HHS.out;have h2:=hok.lo;omega,hok.wt,by have h1:=HHS.out;omega,by have h1:=HHS.out;have h2:=hok.lo;omega⟩
 have HMX:Hid (∀ x ∈ m,x.length ≤ 100000000):=fun x hx => Nat.le_trans (hmx x hx) (by decide)
 have HEE:Hid (rstE D m = if ∃ x ∈ m,chkX x = 1 then 1 else if hs < 1 + secL m then 13 else 0):=by show _ = _;rw [rstE,show hsD D = hs from HHS.out.symm]
 have c2:w.cell? ⟨lg,2,none⟩ = some (.int .i64 (hs:Int)):=hlb.cell 2
 clear hK hok hml hmx hst hm hQ hlb hp
 obtain ⟨X,HX⟩:=sqn (rstX J D m)
 obtain ⟨DX,HDX⟩:=sqn (rstD J D m)
 obtain ⟨JX,HJX⟩:=sqn (rstJ J D m)
 rw [← HX.out,← HDX.out,← HJX.out]
 have HBAD:Hid (∀ e:Int,e ≠ 0 → rstE D m = e → X = e ∧ DX = D ∧ JX = J):=fun e he h => by
  rw [HX.out,HDX.out,HJX.out,rstX,rstD,rstJ,h,if_neg he,if_neg he,if_neg he]
  exact ⟨rfl,rfl,rfl⟩
 go_enter Tryz.func105,Tryz.ntmps105
 go_wp2
 go_loopw [10] (fun i wr => ∃ kk:Nat,kk ≤ n ∧ i = .int .i64 (kk:Int) ∧ Hid (∀ j,j < kk → chkX (m.getD j []) = 0) ∧ wr = w) (fun i _ => n - (intOf i).toNat)
 case atStart => exact ⟨0,Nat.zero_le _,rfl,(fun j hj => absurd hj (by omega)),rfl⟩
 case round =>
  obtain ⟨kk,hk,rfl,HOK,rfl⟩:=hrel
  by_cases hlt:kk < n
  case pos =>
   have hlk:(kk:Int) < (n:Int):=by omega
   have k0:(0:Int) ≤ (kk:Int):=by omega
   have g1:IntKind.i64.wrap ((kk:Int) + 1) = (kk:Int) + 1:=by rw [IntKind.wrap_i64];have:=HBD.out;omega
   have hkl:kk < m.length:=by rw [← HN.out];exact hlt
   obtain ⟨b,off,vj,rfl,hc,hrj⟩:=HRL.out.atJ hkl;obtain ⟨x,HXX⟩:=sqn (m.getD kk []);rw [← HXX.out] at hrj;obtain ⟨aj,nj,cj,hvj⟩:=hrj.form;subst hvj;obtain ⟨cc,HCC⟩:=sqn (chkX x);have HCK:Hid (Calls Tryz.prog 100 #[.slice aj nj cj] wr fun e w' => e = .returned (.int .i64 cc) ∧ w' = wr):=by rw [HCC.out];exact jCheck_any _ x wr hrj
   have HMM:Hid (x ∈ m):=by show _ ∈ _;rw [HXX.out,List.getD_eq_getElem?_getD,List.getElem?_eq_getElem hkl];exact List.getElem_mem hkl
   clear hkl hrj
   by_cases hc1:cc = 1
   · subst hc1
     obtain ⟨e1,e2,e3⟩:=HBAD.out 1 (by decide) (by rw [HEE.out,if_pos ⟨x,HMM.out,HCC.out.symm⟩])
     have HE3:Hid (X = 1 ∧ DX = D ∧ JX = J):=⟨e1,e2,e3⟩;clear e1 e2 e3;have tk0:Hid True:=trivial
     go_wp2_with (first
      | (clear tk0;go_at_call 100;refine HCK.out.mono ?_;rintro e0 y1 ⟨rfl,hy1⟩;subst hy1))
     go_ret;rw [HE3.out.1,HE3.out.2.1,HE3.out.2.2]
     first
      | exact ⟨rfl,P,Q,HPP.out.dk,Mut.refl _ _,Grew.refl _ _,fun _ => HPP.out⟩
      | exact ⟨rfl,P,Q,HPP.out.dk,Mut.refl _ _,Grew.refl _ _,HPP.out⟩
      | exact ⟨rfl,P,HPP.out.dk,Mut.refl _ _,Q,Grew.refl _ _,HPP.out⟩
   · obtain rfl:cc = 0:=(by rw [HCC.out];exact chk_or x:cc = 0 ∨ cc = 1).elim id (fun h => absurd h hc1)
     have HOK2:Hid (∀ j,j < kk + 1 → chkX (m.getD j []) = 0):=fun j hj => by
      by_cases e:j = kk
      · rw [e,← HXX.out,← HCC.out]
      · exact HOK.out j (by omega)
     have tk0:Hid True:=trivial
     go_wp2_with (first
      | (clear tk0;go_at_call 100;refine HCK.out.mono ?_;rintro e0 y1 ⟨rfl,hy1⟩;subst hy1))
     go_roundw
     case rel => exact ⟨kk + 1,by omega,by simp,HOK2,by first | rfl | trivial⟩
     case measure => simp [intOf];omega
  case neg =>
   have hlk:¬ ((kk:Int) < (n:Int)):=by omega
   have HNC:Hid (¬ ∃ x ∈ m,chkX x = 1):=fun ⟨x,hx,h⟩ => by
    obtain ⟨i,hi,rfl⟩:=List.getElem_of_mem hx;have h1:=HOK.out i (by have:=HN.out;omega)
    rw [List.getD_eq_getElem?_getD,List.getElem?_eq_getElem hi] at h1;simp only [Option.getD_some] at h1;rw [h1] at h
    cases h
   obtain ⟨ok,HFO⟩:=sqn (decide (1 + secL m ≤ hs));have HFT:Hid (Calls Tryz.prog 130 #[.slice ad n c,.int .i64 (hs:Int)] wr fun e w' => e = .returned (.bool ok) ∧ w' = wr):=by rw [HFO.out];exact jFit_any _ m hs HBD.out.2.2.2.2.2.2.2 (by have:=HBD.out;omega) (by rw [← HN.out];have:=HBD.out;omega) HMX.out wr HRL.out
   cases ok with
   | false =>
    have hno:hs < 1 + secL m:=by have:=of_decide_eq_false HFO.out.symm;omega
    obtain ⟨e1,e2,e3⟩:=HBAD.out 13 (by decide) (by rw [HEE.out,if_neg HNC.out,if_pos hno])
    have HE3:Hid (X = 13 ∧ DX = D ∧ JX = J):=⟨e1,e2,e3⟩;clear e1 e2 e3 hno;have tk0:Hid True:=trivial
    go_wp2_with (first
     | (clear tk0;go_at_call 130;refine HFT.out.mono ?_;rintro e0 y1 ⟨rfl,hy1⟩;subst hy1))
    go_ret;rw [HE3.out.1,HE3.out.2.1,HE3.out.2.2]
    first
     | exact ⟨rfl,P,Q,HPP.out.dk,Mut.refl _ _,Grew.refl _ _,fun _ => HPP.out⟩
     | exact ⟨rfl,P,Q,HPP.out.dk,Mut.refl _ _,Grew.refl _ _,HPP.out⟩
     | exact ⟨rfl,P,HPP.out.dk,Mut.refl _ _,Q,Grew.refl _ _,HPP.out⟩
   | true =>
    have hfit:1 + secL m ≤ hs:=of_decide_eq_true HFO.out.symm;have hE:rstE D m = 0:=by rw [HEE.out,if_neg HNC.out,if_neg (by omega)]
    have hgn:gN gen = gen + 1:=gN_eq HBD.out.2.2.1;have HSL:Hid (anewS (hsD D) (1 - J.k) (J.gen + 1) m = anewS hs (1 - k) (gN gen) m):=by show _ = _;rw [hgn,show hsD D = hs from HHS.out.symm,← HKK.out,← HGN.out]
    have HXE:Hid (X = (runJ D (anewS hs (1 - k) (gN gen) m)).2 ∧ DX = (runJ D (anewS hs (1 - k) (gN gen) m)).1 ∧ JX = ⟨1 - k,gN gen,m⟩):=by
     rw [HX.out,HDX.out,HJX.out,rstX,rstD,rstJ,if_pos hE,if_pos hE,if_pos hE,HSL.out,hgn,← HKK.out,← HGN.out];exact ⟨rfl,rfl,rfl⟩
    have HOKD:Hid (okD D):=by obtain ⟨_,_,_,_,hm,_⟩:=HDK.out;exact hm.ok
    have HER:Hid ((X = 0 ∨ X = 14) ∧ sizeD DX = sizeD D):=by
     rw [HXE.out.1,HXE.out.2.1];exact ⟨run_err _ D HOKD.out (anew_mem (by omega) hfit HBD.out.2.2.2.2.2.2.1),(run_size _ D HOKD.out).1⟩
    have HNX:Hid (∀ W v',Below wr.heap.size wr W → Sta (Un P (fun z => z = lg)) W (fun Y => ReadsL Y v' m) → Calls Tryz.prog 92 #[.pointer (some ⟨lg,0,none⟩),v'] W fun e w' => e = .returned (.int .i64 X) ∧ ∃ P',DkIs w' gd P' DX ∧ (X = 0 → Blk w' lg (lgC gd hs 0 (1 - k) (gN gen) v' (1 + secL m)) 144) ∧ Mut (Un P (fun z => z = lg)) W w' ∧ Grew W P P'):=fun W v' hW hs' => by
     rw [HXE.out.1,HXE.out.2.1];exact jNext_any (w:=W) hs k gen u vr v' m (HK.out.below hW HK.out.lt) (HDK.out.same14 (fun z hz => hW.block z (HDK.out.lt14 z hz))) HBD.out.2.2.2.2.2.1 (HLB.out.below hW HLB.out.lt) (HAP.out lg HQL.out) HBD.out.2.1 HBD.out.2.2.2.2.2.2.2 HBD.out.1 hfit hs'
    clear hE hgn hfit HBAD HEE;obtain ⟨tk0,tk1,tk2⟩:=sqk3
    go_wp2_with (first
     | (clear tk0;go_at_call 130;refine HFT.out.mono ?_;rintro e0 y1 ⟨rfl,hy1⟩;subst hy1)
     | (clear tk1;go_at_call 131;refine (jCopies_any _ m (by rw [← HN.out];exact HBD.out.2.2.2.1) HMX.out _ HRL.out).mono ?_;rintro e0 y2 ⟨v2,us2,rfl,htx,hz⟩
        have HTX:Hid (TxJ y1.heap.size v2 us2 m y2):=htx;have HBW:Hid (Below y1.heap.size y1 y2):=hz;clear htx hz)
     | (clear tk2;go_at_call 92;refine (HNX.out _ _ HBW.out (HTX.out.stN (R:=Un P (fun z => z = lg)) (fun z hz h => absurd (HLT.out z (h.elim Or.inl (fun e => Or.inr (by rw [e];exact HQL.out)))) (by have:=(HTX.out.ge_all.1 z hz).1;omega)) (fun uu huu z hz h => absurd (HLT.out z (h.elim Or.inl (fun e => Or.inr (by rw [e];exact HQL.out)))) (by have:=(HTX.out.ge_all.2 uu huu z hz).1;omega)))).mono ?_;rintro e0 y3 ⟨rfl,P3,hd3,hl3,hm3,hg3⟩
        have HR3:Hid (DkIs y3 gd P3 DX ∧ (X = 0 → Blk y3 lg (lgC gd hs 0 (1 - k) (gN gen) v2 (1 + secL m)) 144) ∧ Mut (Un P (fun z => z = lg)) y2 y3 ∧ Grew y2 P P3):=⟨hd3,hl3,hm3,hg3⟩
        clear hd3 hl3 hm3 hg3))
    go_ret;have hm3:Mut (Un P Q) y1 y3:=(mut_below HBW.out _).trans (fun _ _ h => h) ((Mut.refl (Un P Q) y2).trans (fun z _ h => h.elim Or.inl (fun e => Or.inr (by rw [e];exact HQL.out))) HR3.out.2.2.1)
    have hg3:∀ z,P3 z → P z ∨ y1.heap.size ≤ z:=fun z hz => (HR3.out.2.2.2 z hz).imp id (fun h => Nat.le_trans HBW.out.size h)
    by_cases hx0:X = 0
    · have hnot:∀ z,y1.heap.size ≤ z → ¬ Un P (fun z => z = lg) z:=fun z hz h => absurd (HLT.out z (h.elim Or.inl (fun e => Or.inr (by rw [e];exact HQL.out)))) (by omega)
      have htx3:TxJ 0 v2 us2 m y3:=(HTX.out.lower (Nat.zero_le _)).sameQ HR3.out.2.2.1.size (fun z hz => HR3.out.2.2.1.block z (HTX.out.ge_all.1 z hz).2 (hnot z (HTX.out.ge_all.1 z hz).1)) (fun uu huu z hz => HR3.out.2.2.1.block z (HTX.out.ge_all.2 uu huu z hz).2 (hnot z (HTX.out.ge_all.2 uu huu z hz).1))
      have hlm:LgM y3 lg gd (sizeD DX) v2 us2 JX:=by
       rw [HXE.out.2.2];exact ⟨by rw [HER.out.2,← HHS.out];exact HR3.out.2.1 hx0,htx3⟩
      have hpk:Pk LgJ y3 gd lg P3 (lgQ lg v2 us2) DX JX:=⟨HR3.out.1,⟨_,_,hlm,rfl⟩,pk_ap HR3.out.1 hlm⟩
      have hgw:Grew y1 (Un P Q) (Un P3 (lgQ lg v2 us2)):=fun z hz => hz.elim (fun h => (hg3 z h).imp Or.inl id) (fun h => by
       rcases h with rfl | h | ⟨uu,huu,h⟩
       · exact Or.inl (Or.inr HQL.out)
       · exact Or.inr (HTX.out.ge_all.1 z h).1
       · exact Or.inr (HTX.out.ge_all.2 uu huu z h).1)
      exact ⟨rfl,P3,lgQ lg v2 us2,HR3.out.1,hm3,hgw,fun _ => hpk⟩
    · have hx14:X = 14:=HER.out.1.elim (fun h => absurd h hx0) id
      exact ⟨rfl,P3,fun _ => False,HR3.out.1,hm3,fun z hz => hz.elim (fun h => (hg3 z h).imp Or.inl id) (fun h => h.elim),fun h => absurd hx14 h⟩
def StaL (P:Nat → Prop) (w:World) (v:Value) (l:List Bs):Prop:=
 ∃ ad cap,v = .slice ad l.length cap ∧ l.length ≤ cap ∧ (ad = none → cap = 0) ∧ (0 < l.length → ∃ b off,ad = some ⟨b,off,none⟩ ∧ ¬ P b ∧ ∀ j,j < l.length → ∃ vj,w.cell? ⟨b,off + j,none⟩ = some vj ∧ Sta P w (fun W => Reads W vj (l.getD j [])))
theorem StaL.now {P:Nat → Prop} {w:World} {v:Value} {l:List Bs} (h:StaL P w v l):ReadsL w v l:=by
 obtain ⟨ad,cap,h1,h2,h3,h4⟩:=h
 refine ⟨ad,cap,h1,h2,h3,fun hp => ?_⟩
 obtain ⟨b,off,h5,_,h6⟩:=h4 hp
 refine ⟨b,off,h5,fun j hj => ?_⟩
 obtain ⟨vj,h7,h9⟩:=h6 j hj
 exact ⟨vj,h7,h9.now⟩
theorem StaL.go {P P':Nat → Prop} {w w':World} {v:Value} {l:List Bs} (h:StaL P w v l) (m:Mut P w w') (hP:∀ k,k < w.heap.size → P' k → P k):StaL P' w' v l:=by
 obtain ⟨ad,cap,h1,h2,h3,h4⟩:=h
 refine ⟨ad,cap,h1,h2,h3,fun hp => ?_⟩
 obtain ⟨b,off,h5,hnb,h6⟩:=h4 hp
 obtain ⟨_,h0,_⟩:=h6 0 hp
 refine ⟨b,off,h5,fun hb => hnb (hP b (block_lt_of_cell h0) hb),fun j hj => ?_⟩
 obtain ⟨vj,h7,h9⟩:=h6 j hj
 exact ⟨vj,m.cell hnb h7,h9.go m hP⟩
theorem StaL.below {P:Nat → Prop} {w w':World} {v:Value} {l:List Bs} (h:StaL P w v l) (hb:Below w.heap.size w w'):StaL P w' v l:=h.go (mut_below hb P) (fun _ _ h => h)
theorem StaL.nil (P:Nat → Prop) (w:World):StaL P w (.slice none 0 0) []:=⟨none,0,rfl,Nat.le_refl _,fun _ => rfl,fun h => by simp at h⟩
theorem OwnX.staL {P:Nat → Prop} {W:World} {base:Nat} {v:Value} {us:List Value} {xs:List Bs} (h:OwnX W base v us) (hP:∀ k,P k → k < base) (hlen:us.length = xs.length) (hg:∀ j u,us[j]? = some u → Sta P W (fun X => Reads X u (xs.getD j []))):StaL P W v xs:=by
 obtain ⟨h1,h2⟩:=id h
 rcases h2 with ⟨rfl,h0⟩ | ⟨g,cap,cur,rfl,hg2,hh,hc,hm,hs,ht⟩
 · have:xs = []:=List.eq_nil_of_length_eq_zero (by rw [← hlen];exact h0)
   subst this;exact StaL.nil _ _
 · refine ⟨_,cap,by rw [hlen],by rw [← hlen];exact hc,(fun e => by cases e),fun _ => ⟨g,0,rfl,fun hp => absurd (hP g hp) (by omega),fun j hj => ?_⟩⟩
   have hj2:j < us.length:=by rw [hlen];exact hj
   refine ⟨us[j],?_,hg j _ (List.getElem?_eq_getElem hj2)⟩;rw [cell_of_row W g (0 + j) cur _ (0,0) hh,Nat.zero_add];rw [Nat.mul_one] at ht;have:=List.getElem?_eq_getElem hj2
   conv at this => lhs;rw [← ht]
   rw [List.getElem?_take_of_lt hj2] at this
   simpa using this
theorem rowsXs (P:Nat → Prop) (w:World) (b:Nat):∀ (l:List Bs) (off:Nat),(∀ j,j < l.length → ∃ vj,w.cell? ⟨b,off + j,none⟩ = some vj ∧ Sta P w (fun W => Reads W vj (l.getD j []))) → ∃ us:List Value,us.length = l.length ∧ (∀ j u,us[j]? = some u → w.cell? ⟨b,off + j,none⟩ = some u ∧ Sta P w (fun W => Reads W u (l.getD j [])))
 | [],off,_ => ⟨[],rfl,fun j u hj => by simp at hj⟩
 | x :: l,off,h => by
  obtain ⟨v0,h0,r0⟩:=h 0 (by simp)
  obtain ⟨us,hl,hu⟩:=rowsXs P w b l (off + 1) (fun j hj => by
   obtain ⟨v,h1,h2⟩:=h (j + 1) (by simpa using hj)
   exact ⟨v,by rw [show off + 1 + j = off + (j + 1) by omega];exact h1,h2⟩)
  refine ⟨v0 :: us,by rw [List.length_cons,List.length_cons,hl],fun j u hj => ?_⟩
  cases j with
  | zero => simp at hj;subst hj;exact ⟨h0,r0⟩
  | succ j =>
   rw [List.getElem?_cons_succ] at hj;obtain ⟨h1,h2⟩:=hu j u hj;exact ⟨by rw [show off + (j + 1) = off + 1 + j by omega];exact h1,h2⟩
theorem wpSeq_appXt {ops:Array Oper} {Q:Exit → Act → World → Prop} {rest:List Oper} {o:Oper} {a:Act} {w:World} (P:Nat → Prop) (s x:Operand) (base:Nat) (l:List Bs) (ad:Option Addr) (n c:Nat) (hr:StaL P w (.slice ad n c) l) (hl:l.length < 1000000) (hbase:base ≤ w.heap.size)
 (ho:o.op = .call { callee:=.builtin .append,args:=#[s,x],argTypes:=#[41,41] }) (hs:a.eval s = .slice none 0 0) (hx:a.eval x = .slice ad n c) (hgd:o.guard = none)
 (h:∀ v' w' us,us.length = l.length → (∀ j u,us[j]? = some u → Sta P w (fun W => Reads W u (l.getD j []))) → OwnX w' base v' us → Below w.heap.size w w' → wpList Tryz.prog ops Q rest (a.put o.dst v') w'):wpList Tryz.prog ops Q (o :: rest) a w:=by
 obtain ⟨i0,hi,hz0,hz1,hz2⟩:=info_parts Tryz.infobsJ
 obtain ⟨ad',c',hv,hc,hn,hat⟩:=id hr
 simp only [Value.slice.injEq] at hv
 obtain ⟨rfl,rfl,rfl⟩:=hv
 cases ad with
 | none =>
  have h0:l = []:=List.eq_nil_of_length_eq_zero (by have:=hn rfl;omega)
  subst h0
  have hc0:=hn rfl
  subst hc0
  exact wpList_append_own_none hgd s x 41 ho base 23 i0 1 Tryz.underlying41 hi (.slice none 0 0) 0 [] hs (World.ownsRow_nil _ _ _ _) hx (h (.slice none 0 0) w [] rfl (fun j u hj => by simp at hj) (OwnX.nil _ _) (Below.refl _ _))
 | some ad =>
  obtain ⟨us,hul,hu⟩:∃ us:List Value,us.length = l.length ∧ ∀ j u,us[j]? = some u → w.cell? (ad.add j) = some u ∧ Sta P w (fun W => Reads W u (l.getD j [])):=by
   by_cases hp:0 < l.length
   · obtain ⟨b,off,hb,_,hy⟩:=hat hp
     simp only [Option.some.injEq] at hb;subst hb;obtain ⟨us,h1,h2⟩:=rowsXs P w b l off hy;exact ⟨us,h1,fun j u hj => by rw [Addr.add_mid];exact h2 j u hj⟩
   · have h0:l = []:=List.eq_nil_of_length_eq_zero (by omega)
     subst h0;exact ⟨[],rfl,fun j u hj => by simp at hj⟩
  have h1:∀ u ∈ us,u.oneCell' = true:=fun u hu2 => by
   obtain ⟨j,hj,rfl⟩:=List.getElem_of_mem hu2;obtain ⟨a,n,c,hv⟩:=(hu j _ (List.getElem?_eq_getElem hj)).2.now.form;rw [hv];rfl
  refine wpList_append_own_at w hgd s x 41 ho base 23 i0 (.slice none 0 0) 1 24 Tryz.underlying41 hi hz0 hz1 hz2 rfl (by decide) (.slice none 0 0) 0 [] hs (World.ownsRow_nil _ _ _ _) ad l.length c us hx (by rw [hul,Nat.mul_one]) (fun j u hj => (hu j u hj).1) h1 (by unfold maxLen;omega) (by omega) hbase ?_
  intro v' w' h2 h3 _ _
  refine h v' w' us hul (fun j u hj => (hu j u hj).2) ?_ ⟨h3.os,h3.tape,h3.output,h3.size,fun k hk => h3.block k hk (fun e => by cases e)⟩
  unfold OwnX
  rw [hul]
  rw [Nat.zero_add,List.nil_append] at h2
  exact h2
theorem nAppend_st (P:Nat → Prop) (vl vb:Value) (l:List Bs) (b:Bs) (n:Nat) (hll:l.length < 1000000) (hsz:sizeL (l ++ [b]) < 1000000000) (hn:n < 1000000) (w:World) (hP:∀ k,P k → k < w.heap.size) (hl:StaL P w vl l) (hb:Sta P w (fun W => Reads W vb b)):Calls Tryz.prog 50 #[vl,vb,.int .i64 (n:Int)] w fun e w' => ∃ lv,e = .returned (.tuple #[lv,.int .i64 (apX l b n)]) ∧ StaL P w' lv (apL l b n) ∧ Below w.heap.size w w':=by
 obtain ⟨al,nl,cl,hvl⟩:∃ a n c,vl = .slice a n c:=by obtain ⟨a,c,hv,_⟩:=hl;exact ⟨_,_,_,hv⟩
 obtain ⟨ab,nb,cbb,hvb⟩:=hb.now.form
 subst hvl hvb
 have HRL:Hid (StaL P w (.slice al nl cl) l):=hl
 have HPL:Hid (∀ k,P k → k < w.heap.size):=hP
 have HB:Hid (Sta P w (fun W => Reads W (.slice ab nb cbb) b)):=hb
 have HLL:Hid (l.length < 1000000):=hll
 have HCK:=nCheck_any (.slice ab nb cbb) b w hb.now
 have HBW:Hid (Below w.heap.size w w):=Below.refl _ _
 rcases chk_or b with hc | hc
 · rw [hc] at HCK
   replace HCK:Hid (Calls Tryz.prog 76 #[.slice ab nb cbb] w fun e w' => e = .returned (.int .i64 0) ∧ w' = w):=HCK
   have HFT0:=fun (W:World) (v:Value) (h:ReadsL W v (l ++ [b])) => nFits_any v (l ++ [b]) hsz n hn W h
   by_cases hf:fit14 (l ++ [b]) n = true
   · have hx:apX l b n = 0:=by rw [apX,if_neg (by rw [hc];decide),if_pos hf]
     have hL:apL l b n = l ++ [b]:=by rw [apL,if_pos hx]
     rw [hx,hL];unfold fit14 at hf;rw [hf] at HFT0;have HFT:Hid (∀ (W:World) (v:Value),ReadsL W v (l ++ [b]) → Calls Tryz.prog 77 #[v,.int .i64 (n:Int)] W fun e w' => e = .returned (.bool true) ∧ w' = W):=HFT0
     clear HFT0 hl hb hP hll hsz hn hc hf hx hL
     go_enter Tryz.func50,Tryz.ntmps50
     obtain ⟨tk0,tk1,tk2,tk3,tk4⟩:=sqk5
     go_wp2_with (first
      | (clear tk0;go_at_call 76;refine (HCK.out).mono ?_;rintro e0 y0 ⟨rfl,hy0⟩;subst hy0)
      | (clear tk1;at_builtin;with_reducible refine wpSeq_appXt P (.tmp 16) (.tmp 17) y0.heap.size l al nl cl HRL.out HLL.out (Nat.le_refl _) ?_ ?_ ?_ ?_ ?_
         · rfl
         · rfl
         · rfl
         · rfl
         intro v1 y1 us hul hus hown hz;obtain ⟨a1,c1,hv⟩:=hown.form;obtain ⟨n1,HN1⟩:=sqn (us.length);rw [← HN1.out] at hv;subst hv;have HO1:Hid (OwnX y1 y0.heap.size (.slice a1 n1 c1) us):=hown;have HUL:Hid (us.length = l.length ∧ us.length < 1000000):=⟨hul,by rw [hul];exact HLL.out⟩
         have HUS:Hid (∀ j u,us[j]? = some u → Sta P y0 (fun W => Reads W u (l.getD j []))):=hus
         replace HBW:Hid (Below y0.heap.size y0 y1):=hz;clear hul hus hown hz)
      | (clear tk2;with_reducible refine wpSeq_buildX (.tmp 20) ab nb cbb ?_ ?_ ?_ ?_
         · rfl
         · rfl
         · rfl
         intro g6 y6 hg6 hy6;have HB6:Hid (Below y1.heap.size y1 y6):=by rw [hy6];exact below_alloc _ _
         have HC6:Hid (y6.cell? ⟨g6,0,none⟩ = some (.slice ab nb cbb)):=by
          have h9:Blk y6 g6 [.slice ab nb cbb] 23:=by rw [hg6,hy6];exact Blk.new _ _ _
          exact h9.cell 0
         have HX6:Hid (OwnX y6 y0.heap.size (.slice a1 n1 c1) us):=HO1.out.same (fun k hk => HB6.out.block k (HO1.out.lt k hk).2)
         replace HBW:Hid (Below y0.heap.size y0 y6):=HBW.out.trans (HB6.out.mono HBW.out.size);clear hg6 hy6)
      | (clear tk3;at_builtin;with_reducible refine wpSeq_appX (.tmp 19) (.tmp 21) y0.heap.size (.slice a1 n1 c1) (.slice ab nb cbb) us g6 HX6.out HC6.out rfl HUL.out.2 HBW.out.size ?_ ?_ ?_ ?_ ?_
         · rfl
         · rfl
         · rfl
         · rfl
         intro v7 y7 hown hgr;have hb7:Below y0.heap.size y0 y7:=HBW.out.trans ((Below.refl _ _).grown hgr HBW.out.size (fun k hk => (HX6.out.lt k hk).1))
         have HRO:Hid (StaL P y7 v7 (l ++ [b])):=by
          refine hown.staL HPL.out (by rw [List.length_append,List.length_append,HUL.out.1];rfl) (fun j u hj => ?_)
          by_cases hjl:j < us.length
          · rw [List.getElem?_append_left hjl] at hj
            rw [List.getD_eq_getElem?_getD,List.getElem?_append_left (by rw [← HUL.out.1];exact hjl),← List.getD_eq_getElem?_getD]
            exact (HUS.out j u hj).below hb7
          · rw [List.getElem?_append_right (by omega)] at hj
            have hj0:j = us.length:=by have:=(List.getElem?_eq_some_iff.1 hj).1;simp at this;omega
            subst hj0;simp at hj;subst hj;rw [List.getD_eq_getElem?_getD,HUL.out.1,List.getElem?_append_right (Nat.le_refl _),Nat.sub_self];exact HB.out.below hb7
         replace HRL:Hid (StaL P y7 (.slice al nl cl) l):=HRL.out.below hb7;replace HBW:Hid (Below y0.heap.size y0 y7):=hb7;obtain ⟨a7,c7,hv⟩:=hown.form;obtain ⟨n7,HN7⟩:=sqn ((us ++ [Value.slice ab nb cbb]).length);rw [← HN7.out] at hv;subst hv;clear hown hgr hb7)
      | (clear tk4;go_at_call 77;refine (HFT.out _ _ HRO.out.now).mono ?_;rintro e0 y8 ⟨rfl,hy8⟩;subst hy8))
     refine bodyPost_ret (results_tmp2 rfl _ _ _) rfl ?_;exact ⟨_,rfl,HRO.out,HBW.out⟩
   · have hx:apX l b n = 13:=by rw [apX,if_neg (by rw [hc];decide),if_neg hf]
     have hL:apL l b n = l:=by rw [apL,if_neg (by rw [hx];decide)]
     rw [hx,hL];unfold fit14 at hf;rw [Bool.not_eq_true] at hf;rw [hf] at HFT0;have HFT:Hid (∀ (W:World) (v:Value),ReadsL W v (l ++ [b]) → Calls Tryz.prog 77 #[v,.int .i64 (n:Int)] W fun e w' => e = .returned (.bool false) ∧ w' = W):=HFT0
     clear HFT0 hl hb hP hll hsz hn hc hf hx hL
     go_enter Tryz.func50,Tryz.ntmps50
     obtain ⟨tk0,tk1,tk2,tk3,tk4⟩:=sqk5
     go_wp2_with (first
      | (clear tk0;go_at_call 76;refine (HCK.out).mono ?_;rintro e0 y0 ⟨rfl,hy0⟩;subst hy0)
      | (clear tk1;at_builtin;with_reducible refine wpSeq_appXt P (.tmp 16) (.tmp 17) y0.heap.size l al nl cl HRL.out HLL.out (Nat.le_refl _) ?_ ?_ ?_ ?_ ?_
         · rfl
         · rfl
         · rfl
         · rfl
         intro v1 y1 us hul hus hown hz;obtain ⟨a1,c1,hv⟩:=hown.form;obtain ⟨n1,HN1⟩:=sqn (us.length);rw [← HN1.out] at hv;subst hv;have HO1:Hid (OwnX y1 y0.heap.size (.slice a1 n1 c1) us):=hown;have HUL:Hid (us.length = l.length ∧ us.length < 1000000):=⟨hul,by rw [hul];exact HLL.out⟩
         have HUS:Hid (∀ j u,us[j]? = some u → Sta P y0 (fun W => Reads W u (l.getD j []))):=hus
         replace HBW:Hid (Below y0.heap.size y0 y1):=hz;clear hul hus hown hz)
      | (clear tk2;with_reducible refine wpSeq_buildX (.tmp 20) ab nb cbb ?_ ?_ ?_ ?_
         · rfl
         · rfl
         · rfl
         intro g6 y6 hg6 hy6;have HB6:Hid (Below y1.heap.size y1 y6):=by rw [hy6];exact below_alloc _ _
         have HC6:Hid (y6.cell? ⟨g6,0,none⟩ = some (.slice ab nb cbb)):=by
          have h9:Blk y6 g6 [.slice ab nb cbb] 23:=by rw [hg6,hy6];exact Blk.new _ _ _
          exact h9.cell 0
         have HX6:Hid (OwnX y6 y0.heap.size (.slice a1 n1 c1) us):=HO1.out.same (fun k hk => HB6.out.block k (HO1.out.lt k hk).2)
         replace HBW:Hid (Below y0.heap.size y0 y6):=HBW.out.trans (HB6.out.mono HBW.out.size);clear hg6 hy6)
      | (clear tk3;at_builtin;with_reducible refine wpSeq_appX (.tmp 19) (.tmp 21) y0.heap.size (.slice a1 n1 c1) (.slice ab nb cbb) us g6 HX6.out HC6.out rfl HUL.out.2 HBW.out.size ?_ ?_ ?_ ?_ ?_
         · rfl
         · rfl
         · rfl
         · rfl
         intro v7 y7 hown hgr;have hb7:Below y0.heap.size y0 y7:=HBW.out.trans ((Below.refl _ _).grown hgr HBW.out.size (fun k hk => (HX6.out.lt k hk).1))
         have HRO:Hid (StaL P y7 v7 (l ++ [b])):=by
          refine hown.staL HPL.out (by rw [List.length_append,List.length_append,HUL.out.1];rfl) (fun j u hj => ?_)
          by_cases hjl:j < us.length
          · rw [List.getElem?_append_left hjl] at hj
            rw [List.getD_eq_getElem?_getD,List.getElem?_append_left (by rw [← HUL.out.1];exact hjl),← List.getD_eq_getElem?_getD]
            exact (HUS.out j u hj).below hb7
          · rw [List.getElem?_append_right (by omega)] at hj
            have hj0:j = us.length:=by have:=(List.getElem?_eq_some_iff.1 hj).1;simp at this;omega
            subst hj0;simp at hj;subst hj;rw [List.getD_eq_getElem?_getD,HUL.out.1,List.getElem?_append_right (Nat.le_refl _),Nat.sub_self];exact HB.out.below hb7
         replace HRL:Hid (StaL P y7 (.slice al nl cl) l):=HRL.out.below hb7;replace HBW:Hid (Below y0.heap.size y0 y7):=hb7;obtain ⟨a7,c7,hv⟩:=hown.form;obtain ⟨n7,HN7⟩:=sqn ((us ++ [Value.slice ab nb cbb]).length);rw [← HN7.out] at hv;subst hv;clear hown hgr hb7)
      | (clear tk4;go_at_call 77;refine (HFT.out _ _ HRO.out.now).mono ?_;rintro e0 y8 ⟨rfl,hy8⟩;subst hy8))
     refine bodyPost_ret (results_tmp2 rfl _ _ _) rfl ?_;exact ⟨_,rfl,HRL.out,HBW.out⟩
 · have hx:apX l b n = 1:=by rw [apX,if_pos hc]
   have hL:apL l b n = l:=by rw [apL,if_neg (by rw [hx];decide)]
   rw [hc] at HCK;replace HCK:Hid (Calls Tryz.prog 76 #[.slice ab nb cbb] w fun e w' => e = .returned (.int .i64 1) ∧ w' = w):=HCK
   rw [hx,hL];clear hl hb hP hll hsz hn hc hx hL
   go_enter Tryz.func50,Tryz.ntmps50
   have tk0:Hid True:=trivial
   go_wp2_with (first
    | (clear tk0;go_at_call 76;refine (HCK.out).mono ?_;rintro e0 y0 ⟨rfl,hy0⟩;subst hy0))
   refine bodyPost_ret (results_tmp2 rfl _ _ _) rfl ?_;exact ⟨_,rfl,HRL.out,HBW.out⟩
theorem nRestart_st (P:Nat → Prop) (vl vm:Value) (l m:List Bs) (n:Nat) (hml:m.length < 1000000) (hsz:(∀ x ∈ m,chkX x = 0) → sizeL m < 1000000000) (hn:n < 1000000) (w:World) (hl:StaL P w vl l) (hm:StaL P w vm m):Calls Tryz.prog 52 #[vl,vm,.int .i64 (n:Int)] w fun e w' => ∃ lv,e = .returned (.tuple #[lv,.int .i64 (rsX m n)]) ∧ StaL P w' lv (rsL l m n) ∧ w' = w:=by
 obtain ⟨al,nl,cl,hvl⟩:∃ a n c,vl = .slice a n c:=by obtain ⟨a,c,hv,_⟩:=hl;exact ⟨_,_,_,hv⟩
 obtain ⟨k,HK⟩:=sqn (m.length)
 obtain ⟨am,cm,hvm⟩:∃ a c,vm = .slice a k c:=by obtain ⟨a,c,hv,_⟩:=hm;rw [← HK.out] at hv;exact ⟨_,_,hv⟩
 subst hvl hvm
 have HRL:Hid (StaL P w (.slice al nl cl) l):=hl
 have HRM:Hid (StaL P w (.slice am k cm) m):=hm
 have HML:Hid (k < 1000000):=by show _ < _;rw [HK.out];exact hml
 have HFT:Hid ((∀ x ∈ m,chkX x = 0) → Calls Tryz.prog 77 #[.slice am k cm,.int .i64 (n:Int)] w fun e w' => e = .returned (.bool (fit14 m n)) ∧ w' = w):=fun h => nFits_any _ m (hsz h) n hn w hm.now
 obtain ⟨X,HX⟩:=sqn (rsX m n)
 obtain ⟨Y,HY⟩:=sqn (rsL l m n)
 rw [← HX.out,← HY.out]
 clear hl hm hml hsz hn
 go_enter Tryz.func52,Tryz.ntmps52
 go_wp2
 go_loopw [8] (fun i wr => ∃ j:Nat,j ≤ k ∧ i = .int .i64 (j:Int) ∧ wr = w ∧ Hid (∀ x ∈ m.take j,chkX x = 0)) (fun i _ => k - (intOf i).toNat)
 case atStart => exact ⟨0,by omega,rfl,rfl,by simp [Hid]⟩
 case round =>
  obtain ⟨j,hj,rfl,rfl,HJ⟩:=hrel
  by_cases hlt:j < k
  case neg =>
   have hlk:¬ ((j:Int) < (k:Int)):=by omega
   have hall:∀ x ∈ m,chkX x = 0:=by
    have h9:=HJ.out;rw [List.take_of_length_le (by rw [← HK.out];omega)] at h9
    exact h9
   have hno:¬ ∃ x ∈ m,chkX x = 1:=fun ⟨x,hx,e⟩ => by rw [hall x hx] at e;cases e
   have hft:=HFT.out hall
   by_cases hf:fit14 m n = true
   · have hX:X = 0:=by rw [HX.out,rsX,if_neg hno,if_pos hf]
     have hY:Y = m:=by rw [HY.out,rsL,if_pos (by rw [← HX.out];exact hX)]
     rw [hf] at hft;have HF2:Hid (Calls Tryz.prog 77 #[.slice am k cm,.int .i64 (n:Int)] wr fun e w' => e = .returned (.bool true) ∧ w' = wr):=hft
     subst hX hY;clear hft hall hno hf;have tk0:Hid True:=trivial
     go_wp2_with (first
      | (clear tk0;go_at_call 77;refine (HF2.out).mono ?_;rintro e0 y1 ⟨rfl,hy1⟩;subst hy1))
     refine bodyPost_ret (results_tmp2 rfl _ _ _) rfl ?_;exact ⟨_,rfl,HRM.out,rfl⟩
   · have hX:X = 13:=by rw [HX.out,rsX,if_neg hno,if_neg hf]
     have hY:Y = l:=by rw [HY.out,rsL,if_neg (by rw [← HX.out,hX];decide)]
     rw [Bool.not_eq_true] at hf;rw [hf] at hft;have HF2:Hid (Calls Tryz.prog 77 #[.slice am k cm,.int .i64 (n:Int)] wr fun e w' => e = .returned (.bool false) ∧ w' = wr):=hft
     subst hX hY;clear hft hall hno hf;have tk0:Hid True:=trivial
     go_wp2_with (first
      | (clear tk0;go_at_call 77;refine (HF2.out).mono ?_;rintro e0 y1 ⟨rfl,hy1⟩;subst hy1))
     refine bodyPost_ret (results_tmp2 rfl _ _ _) rfl ?_;exact ⟨_,rfl,HRL.out,rfl⟩
  case pos =>
   have hlk:(j:Int) < (k:Int):=by omega
   have k0:(0:Int) ≤ (j:Int):=by omega
   have f1:IntKind.i64.wrap ((j:Int) + 1) = (j:Int) + 1:=by rw [IntKind.wrap_i64];have:=HML.out;omega
   have hjl:j < m.length:=by rw [← HK.out];exact hlt
   obtain ⟨b,off,vj,rfl,hc,hrj⟩:=HRM.out.now.atJ hjl;have hck:=nCheck_any vj (m.getD j []) wr hrj;obtain ⟨aj,nj,cj,hvj⟩:=hrj.form;subst hvj;have hmem:m.getD j [] ∈ m:=by rw [List.getD_eq_getElem?_getD,List.getElem?_eq_getElem hjl];exact List.getElem_mem hjl
   have htk:m.take (j + 1) = m.take j ++ [m.getD j []]:=by rw [List.take_add_one,List.getElem?_eq_getElem hjl,List.getD_eq_getElem?_getD,List.getElem?_eq_getElem hjl];rfl
   rcases chk_or (m.getD j []) with h0 | h0
   · rw [h0] at hck
     have HCK:Hid (Calls Tryz.prog 76 #[.slice aj nj cj] wr fun e w' => e = .returned (.int .i64 0) ∧ w' = wr):=hck
     have HJ2:Hid (∀ x ∈ m.take (j + 1),chkX x = 0):=fun x hx => by
      rw [htk] at hx
      rcases List.mem_append.1 hx with hx | hx
      · exact HJ.out x hx
      · rw [List.mem_singleton.1 hx];exact h0
     clear hck hmem htk hrj;have tk0:Hid True:=trivial
     go_wp2_with (first
      | (clear tk0;go_at_call 76;refine (HCK.out).mono ?_;rintro e0 y1 ⟨rfl,hy1⟩;subst hy1))
     go_roundw
     case rel => exact ⟨j + 1,by omega,by simp,trivial,HJ2⟩
     case measure => simp [intOf];omega
   · rw [h0] at hck
     have HCK:Hid (Calls Tryz.prog 76 #[.slice aj nj cj] wr fun e w' => e = .returned (.int .i64 1) ∧ w' = wr):=hck
     have hX:X = 1:=by rw [HX.out,rsX,if_pos ⟨_,hmem,h0⟩]
     have hY:Y = l:=by rw [HY.out,rsL,if_neg (by rw [← HX.out,hX];decide)]
     subst hX hY;clear hck hmem htk hrj;have tk0:Hid True:=trivial
     go_wp2_with (first
      | (clear tk0;go_at_call 76;refine (HCK.out).mono ?_;rintro e0 y1 ⟨rfl,hy1⟩;subst hy1))
     refine bodyPost_ret (results_tmp2 rfl _ _ _) rfl ?_;exact ⟨_,rfl,HRL.out,rfl⟩
def sumB (l:List Bs):Nat:=(l.map List.length).sum
theorem sumB_snoc (l:List Bs) (x:Bs):sumB (l ++ [x]) = sumB l + x.length:=by simp [sumB]
theorem sumB_take {l:List Bs} {k:Nat} (hk:k < l.length):sumB (l.take (k + 1)) = sumB (l.take k) + (l.getD k []).length:=by
 rw [List.take_add_one,List.getElem?_eq_getElem hk,List.getD_eq_getElem?_getD,List.getElem?_eq_getElem hk]
 exact sumB_snoc _ _
theorem fit_iff (l:List Bs) (n:Nat):fit14 l n = true ↔ 1 + secL l ≤ n / 2:=by
 unfold fit14
 rw [decide_eq_true_iff,sizeL_eq]
 omega
theorem do_app {D:DkT} {J:JnT} (h:Log D J) (x:Bs):appX J D x = apX J.l x (sizeD D) ∧ Log (appD J D x) (appJ J D x) ∧ (appJ J D x).l = apL J.l x (sizeD D) ∧ sizeD (appD J D x) = sizeD D ∧ appX J D x ≠ 14 ∧ (appJ J D x).gen = J.gen ∧ (appJ J D x).k = J.k:=by
 by_cases he:appE J D x = 0
 · obtain ⟨a1,a2,a3,a4⟩:=h.app he
   have hr:=(app_ref D J x).1 he;have hf:fit14 (J.l ++ [x]) (sizeD D) = true:=decide_eq_true hr.2;have hx:apX J.l x (sizeD D) = 0:=by rw [apX,if_neg hr.1,if_pos hf]
   refine ⟨by rw [a1,hx],a3,?_,a4,by rw [a1];decide,?_,?_⟩
   · rw [appJ,if_pos he,apL,if_pos hx]
   · rw [appJ,if_pos he]
   · rw [appJ,if_pos he]
 · have hX:appX J D x = appE J D x:=by rw [appX,if_neg he]
   have hD:appD J D x = D:=by rw [appD,if_neg he]
   have hJ:appJ J D x = J:=by rw [appJ,if_neg he]
   have hx:apX J.l x (sizeD D) = appE J D x:=by
    unfold apX
    by_cases hc:chkX x = 1
    · rw [if_pos hc]
      unfold appE;rw [if_pos hc]
    · have hf:¬ fit14 (J.l ++ [x]) (sizeD D) = true:=fun hf => he ((app_ref D J x).2 ⟨hc,of_decide_eq_true hf⟩)
      rw [if_neg hc,if_neg hf];unfold appE at he ⊢;rw [if_neg hc] at he ⊢
      by_cases hs:hsD D < 1 + secL J.l + secR x.length
      · rw [if_pos hs]
      · rw [if_neg hs] at he;exact absurd rfl he
   have hn:appE J D x ≠ 14:=by
    unfold appE
    split
    · decide
    · split <;> decide
   rw [hX,hD,hJ,hx];exact ⟨rfl,h,by rw [apL,hx,if_neg he],rfl,hn,rfl,rfl⟩
theorem do_rst {D:DkT} {J:JnT} (h:Log D J) (hg:J.gen + 1 < 18446744073709551616) (m:List Bs):rstX J D m = rsX m (sizeD D) ∧ Log (rstD J D m) (rstJ J D m) ∧ (rstJ J D m).l = rsL J.l m (sizeD D) ∧ sizeD (rstD J D m) = sizeD D ∧ rstX J D m ≠ 14 ∧ (rstJ J D m).gen = (if rstX J D m = 0 then J.gen + 1 else J.gen):=by
 have hE:rstE D m = rsX m (sizeD D):=by
  unfold rstE rsX
  by_cases hc:∃ x ∈ m,chkX x = 1
  · rw [if_pos hc,if_pos hc]
  · rw [if_neg hc,if_neg hc]
    by_cases hf:fit14 m (sizeD D) = true
    · rw [if_pos hf,if_neg]
      have:=(fit_iff m (sizeD D)).1 hf;unfold hsD;omega
    · rw [if_neg hf,if_pos]
      have:¬ 1 + secL m ≤ sizeD D / 2:=fun h => hf ((fit_iff m (sizeD D)).2 h)
      unfold hsD;omega
 by_cases he:rstE D m = 0
 · obtain ⟨a1,a2,a3,a4⟩:=h.rst hg he
   have hx:rsX m (sizeD D) = 0:=by rw [← hE];exact he
   refine ⟨by rw [a1,hx],a2,?_,a3,by rw [a1];decide,?_⟩
   · rw [rstJ,if_pos he,rsL,if_pos hx]
   · rw [rstJ,if_pos he,if_pos a1]
 · have hX:rstX J D m = rstE D m:=by rw [rstX,if_neg he]
   have hD:rstD J D m = D:=by rw [rstD,if_neg he]
   have hJ:rstJ J D m = J:=by rw [rstJ,if_neg he]
   have hn:rstE D m ≠ 14:=by
    unfold rstE
    split
    · decide
    · split <;> decide
   rw [hX,hD,hJ,if_neg he];exact ⟨hE,h,by rw [rsL,← hE,if_neg he],rfl,hn,rfl⟩
theorem dkSize_pure {w:World} {g:Nat} {P:Nat → Prop} {D:DkT} (h:DkIs w g P D):Calls Tryz.prog 22 #[.pointer (some ⟨g,0,none⟩)] w fun r w' => r = .returned (.int .i64 (sizeD D:Int)) ∧ w' = w:=by
 obtain ⟨gs,vw,fu,lf,hm,hP⟩:=h
 clear hP
 obtain ⟨n,HN⟩:=sqn (sizeD D)
 have c0:w.cell? ⟨g,0,none⟩ = some (.slice (some ⟨gs,0,none⟩) n n):=by rw [hm.me.cell 0,HN.out];rfl
 rw [← HN.out]
 clear hm
 go_enter Tryz.func22,Tryz.ntmps22
 go_wp2
 go_ret
 exact ⟨rfl,rfl⟩
theorem dkDump_b {w:World} {g:Nat} {P:Nat → Prop} {D:DkT} (h:DkIs w g P D) (hw2:D.wait.length ≤ 200):Calls Tryz.prog 25 #[.pointer (some ⟨g,0,none⟩)] w fun r w' => ∃ v,r = .returned v ∧ Reads w' v (dumpD D) ∧ Below w.heap.size w w':=by
 obtain ⟨gs,vw,fu,lf,hm,hP⟩:=h
 subst hP
 obtain ⟨n,HN⟩:=sqn (sizeD D)
 obtain ⟨aw,cw,hvw⟩:=hm.wt.form
 obtain ⟨nw,HNW⟩:=sqn (D.wait.length)
 rw [← HNW.out] at hvw
 subst hvw
 obtain ⟨dn,HDN⟩:=sqn (D.down)
 have HM:Hid (DkM w g gs (.slice aw nw cw) fu lf D):=hm
 have HME:Hid (Blk w g [.slice (some ⟨gs,0,none⟩) n n,.slice aw nw cw,.bool dn,.bool fu,.int .i64 lf] 94):=by have h9:=hm.me;rw [dkC,← HN.out,← HDN.out] at h9;exact h9
 have c0:w.cell? ⟨g,0,none⟩ = some (.slice (some ⟨gs,0,none⟩) n n):=HME.out.cell 0
 have HW2:Hid (nw ≤ 200):=by show _ ≤ _;rw [HNW.out];exact hw2
 have HOK:Hid (okD D):=hm.ok
 obtain ⟨N,HNN⟩:=sqn (64 * n:Nat)
 have HSL:Hid (D.safe.length = 64 * n ∧ n ≤ 16384):=by rw [HN.out];exact ⟨hm.ok.size.1,hm.ok.size.2.2⟩
 have HMK:Hid (N ≤ N ∧ N < 281474976710600):=⟨Nat.le_refl _,by have h1:=HNN.out;have h2:=HSL.out.2;omega⟩
 clear hm hw2
 have f1:IntKind.i64.wrap ((n:Int) * 64) = (N:Int):=by rw [IntKind.wrap_i64];have h1:=HNN.out;have h2:=HSL.out.2;omega
 go_enter Tryz.func25,Tryz.ntmps25
 have tk0:Hid True:=trivial
 go_wp2_with (first
  | (clear tk0;with_reducible refine wpSeq_make (.tmp 12) (.tmp 12) N N HMK.out.1 HMK.out.2 ?_ ?_ ?_ ?_ ?_
     · rfl
     · rfl
     · rfl
     · rfl
     intro gb y1 z hz hge hzb hzl;have HGE:Hid (w.heap.size ≤ gb):=hge;have HBZ:Hid (Blk y1 gb (cb z) 5):=hzb;have HBW:Hid (Below w.heap.size w y1):=hzl;have HZL:Hid (z.length = 64 * n):=by show _ = _;rw [hz,List.length_replicate,HNN.out]
     have HME1:Hid (Blk y1 g [.slice (some ⟨gs,0,none⟩) n n,.slice aw nw cw,.bool dn,.bool fu,.int .i64 lf] 94):=HME.out.below hzl HME.out.lt;replace c0:y1.cell? ⟨g,0,none⟩ = some (.slice (some ⟨gs,0,none⟩) n n):=HME1.out.cell 0;clear hz hge hzb hzl))
 clear c0 f1 HME1
 go_loopw [19] (fun i wr => ∃ k:Nat,k ≤ n ∧ i = .int .i64 (k:Int) ∧ Hid (Blk wr gb (cb (upTo D.safe z k)) 5) ∧ Hid (Below w.heap.size w wr)) (fun i _ => n - (intOf i).toNat)
 case atStart => exact ⟨0,Nat.zero_le _,rfl,by rw [upTo_zero];exact HBZ,HBW⟩
 case round =>
  obtain ⟨k,hkn,rfl,HBK,HBB⟩:=hrel
  clear HBZ HBW
  have HMEr:Hid (Blk wr g [.slice (some ⟨gs,0,none⟩) n n,.slice aw nw cw,.bool dn,.bool fu,.int .i64 lf] 94):=HME.out.below HBB.out HME.out.lt
  by_cases hlt:k < n
  case pos =>
   have hlk:(k:Int) < (n:Int):=by omega
   have f5:IntKind.i64.wrap ((k:Int) + 1) = (k:Int) + 1:=by rw [IntKind.wrap_i64];have:=HSL.out.2;omega
   obtain ⟨o,HOO⟩:=sqn (64 * k:Nat);have f6:IntKind.i64.wrap ((k:Int) * 64) = (o:Int):=by rw [IntKind.wrap_i64];have:=HSL.out.2;have:=HOO.out;omega
   have HKN:Hid (k < n):=hlt;have HON:Hid (o < N ∧ 64 ≤ N - o):=by have h1:=HOO.out;have h2:=HNN.out;exact ⟨by omega,by omega⟩
   have HS6:Hid ((secD D.safe k).length = 64):=sec_len (by rw [HSL.out.1];omega)
   go_wp2_with fail
   refine wp_region_held_drew (S:=fun wx => Blk wx g [.slice (some ⟨gs,0,none⟩) n n,.slice aw nw cw,.bool dn,.bool fu,.int .i64 lf] 94) (by kernel_rfl) HMEr.out.drew ?_
   intro hS;have HB3:Hid (Blk wr.drew gb (cb (upTo D.safe z k)) 5):=HBK.out.drew;have HBB3:Hid (Below w.heap.size w wr.drew):=HBB.out.drew;clear HBK HBB HMEr
   change wpAnyH _ _ _ _ _ _ _ _ (World.drew wr)
   generalize World.drew wr = y3 at *
   refine tkc 0 (.slice (some ⟨gb,0,none⟩) N N) rfl hS ?_;simp only [Act.put,sq];refine tkc 1 (.int .i64 (k:Int)) rfl hS ?_;simp only [Act.put,sq];refine tka 2 (.int .i64 (o:Int)) rfl (fun wx hx => by simp [go_sem,f6]) hS ?_
   simp only [Act.put,sq];refine tka 3 (.slice (some ⟨gb,0 + o,none⟩) (N - o) (N - o)) rfl (fun wx hx => by exact cutFrom gb 0 N N o HON.out.1 (Nat.le_refl _) _ _ _ _ rfl rfl rfl _) hS ?_
   simp only [Act.put,sq];refine tkc 4 (.pointer (some ⟨g,0,none⟩)) rfl hS ?_;simp only [Act.put,sq];refine tkc 5 (.pointer (some ⟨g,0,none⟩)) rfl hS ?_;simp only [Act.put,sq];refine tkc 6 (.pointer (some ⟨g,0,none⟩)) rfl hS ?_;simp only [Act.put,sq];refine tka 7 (.slice (some ⟨gs,0,none⟩) n n) rfl (fun wx hx => by (have hc:=hx.cell 0;simp at hc;simp [go_sem,hc])) hS ?_
   simp only [Act.put,sq];refine tkc 8 (.int .i64 (k:Int)) rfl hS ?_;simp only [Act.put,sq];refine tka 9 (.pointer (some ⟨gs,64 * k,none⟩)) rfl (fun wx hx => by exact idxSec gs n k HKN.out _ _ _ _ rfl rfl rfl _) hS ?_
   simp only [Act.put,sq];refine tka 10 (.slice (some ⟨gs,64 * k,none⟩) 64 64) rfl (fun wx hx => by exact sliceSec gs (64 * k) _ _ _ rfl rfl _) hS ?_
   simp only [Act.put,sq];have hsf:=(HM.out.below HBB3.out).sf;refine wpAnyH_copyO 11 (.tmp 25) (.tmp 32) gb (0 + o) (N - o) (N - o) gs (64 * k) 64 64 5 _ (secD D.safe k) HB3.out (by rw [HS6.out];have:=HON.out.2;omega) (by rw [HS6.out,cb_len,upTo_len HSL.out.1 HZL.out (Nat.le_of_lt HKN.out)];have h1:=HON.out;have h2:=HNN.out;omega) (range_cells (sec_range hsf (by rw [HSL.out.1];have:=HKN.out;omega))) (by kernel_rfl) rfl (by rfl) rfl rfl rfl ?_
   intro y4 hb4 ho4;refine ⟨hS.only ho4 (hS.neT HB3.out (by decide)),?_⟩
   have HB4:Hid (Blk y4 gb (cb (upTo D.safe z (k + 1))) 5):=by
    rw [Nat.zero_add,HOO.out,lay_sec HS6.out,upTo_step HSL.out.1 HKN.out] at hb4;exact hb4
   have HBB4:Hid (Below w.heap.size w y4):=HBB3.out.trans (ho4.below HGE.out HBB3.out.size);clear hb4 ho4 hsf hS HB3 HBB3;simp only [Act.put,sq];refine wpAnyH_done (by kernel_rfl) ?_ _
   go_wp2;go_roundw
   case rel => exact ⟨k + 1,by omega,by simp,HB4,HBB4⟩
   case measure => simp [intOf];omega
  case neg =>
   have hlk:¬ ((k:Int) < (n:Int)):=by omega
   obtain rfl:k = n:=by omega
   have HB2:Hid (Blk wr gb (cb (dumpW D.safe (D.wait.take 0))) 5):=by
    have h9:=HBK.out;rw [upTo_all HSL.out.1 HZL.out] at h9;exact h9
   have c1:wr.cell? ⟨g,1,none⟩ = some (.slice aw nw cw):=HMEr.out.cell 1;clear HBK hkn hlt
   go_wp2_with fail
   clear c1 HMEr;obtain ⟨n,HNK⟩:=sqn (k)
   go_loopw [40] (fun i wr => ∃ j:Nat,j ≤ nw ∧ i = .int .i64 (j:Int) ∧ Hid (Blk wr gb (cb (dumpW D.safe (D.wait.take j))) 5) ∧ Hid (Below w.heap.size w wr)) (fun i _ => nw - (intOf i).toNat)
   case atStart => exact ⟨0,Nat.zero_le _,rfl,HB2,HBB⟩
   case round =>
    obtain ⟨j,hjn,rfl,HBK,HBB⟩:=hrel;clear HB2;have HMr:Hid (DkM wr g gs (.slice aw nw cw) fu lf D):=HM.out.below HBB.out
    by_cases hlt:j < nw
    case neg =>
     have hlk:¬ ((j:Int) < (nw:Int)):=by omega
     have HBD:Hid (Blk wr gb (cb (dumpD D)) 5):=by
      have h9:=HBK.out;rw [List.take_of_length_le (by rw [← HNW.out];omega)] at h9
      exact h9
     have HLN:Hid ((dumpD D).length = N):=by show _ = _;rw [len_dumpD HOK.out,HSL.out.1,HNN.out]
     go_wp2;go_ret;exact ⟨_,rfl,HBD.out.reads HLN.out.symm (by rw [HLN.out];exact Nat.le_refl _),HBB.out⟩
    case pos =>
     have hlk:(j:Int) < (nw:Int):=by omega
     have HKN:Hid (j < nw):=hlt;have HLT:Hid (j < D.wait.length):=by show _ < _;rw [← HNW.out];exact hlt
     have f5:IntKind.i64.wrap ((j:Int) + 1) = (j:Int) + 1:=by rw [IntKind.wrap_i64];have:=HW2.out;omega
     obtain ⟨hmem,htk⟩:=getD_memV2 HLT.out;obtain ⟨b,rfl,hat⟩:=HMr.out.wt.at (fun p hp => (HOK.out.wait p hp).2) (Nat.lt_of_le_of_lt (Nat.zero_le _) HLT.out)
     have hrg:=hat j HLT.out;replace hrg:wr.rangeAt b (j * 65) (wrC (D.wait.getD j (0,[]))):=hrg;obtain ⟨p,HPP⟩:=sqn (D.wait.getD j (0,[]));rw [← HPP.out] at hmem htk hrg;have HRG:Hid (wr.rangeAt b (j * 65) (wrC p)):=hrg;have HTK:Hid (dumpW D.safe (D.wait.take (j + 1)) = layD (dumpW D.safe (D.wait.take j)) p.1 p.2 64):=by show _ = _;rw [htk,dumpW_snoc]
     have HPW:Hid (p.1 < k ∧ p.2.length = 64):=by rw [HN.out];exact HOK.out.wait p hmem
     have HP6:Hid (p.2.length = 64):=HPW.out.2;have HWL:Hid ((wrC p).length = (wrC (0,zs64)).length):=by show _ = _;rw [wrC_len HP6.out,wrC_len (p:=(0,zs64)) len_zs64]
     have HLN:Hid ((dumpW D.safe (D.wait.take j)).length = N):=by
      show _ = _;rw [len_dumpW _ _ HOK.out.size.1 (fun q hq => HOK.out.wait q (List.mem_of_mem_take hq)),HNN.out,HN.out]
     obtain ⟨o,HOO⟩:=sqn (64 * p.1:Nat);have f6:IntKind.i64.wrap ((p.1:Int) * 64) = (o:Int):=by rw [IntKind.wrap_i64];have:=HSL.out.2;have:=HOO.out;have:=HPW.out.1;omega
     have HON:Hid (o < N ∧ 64 ≤ N - o):=by have h1:=HOO.out;have h2:=HNN.out;have h3:=HPW.out.1;exact ⟨by omega,by omega⟩
     clear hat hrg hmem htk;obtain ⟨tk1,tk2,tk3,tk4⟩:=sqk4
     go_wp2_with (first
      | (clear tk1;with_reducible refine wpSeq_idxWr (.tmp 38) (.tmp 40) b nw cw j HKN.out ?_ ?_ ?_ ?_ ?_
         · rfl
         · rfl
         · rfl
         · rfl)
      | (clear tk2;with_reducible refine wpSeq_loadW 109 (.tmp 42) b (j * 65) (wrC p) _ HRG.out Tryz.underlying109 rfl (sz_wr HP6.out) ?_ ?_ ?_ ?_
         · rfl
         · rfl
         · rfl)
      | (clear tk3;with_reducible refine wpSeq_allocDw ?_ ?_ ?_
         · rfl
         · rfl
         intro g6 y1 nn;have HG6:Hid (Blk y1 g6 (wrC (0,zs64)) 109):=nn.blk;have HBW:Hid (Below wr.heap.size wr y1):=nn.below;have HG6E:Hid (wr.heap.size ≤ g6):=nn.ge;clear nn)
      | (clear tk4;with_reducible refine wpSeq_storeRow 109 (.tmp 6) (.tmp 43) g6 (wrC (0,zs64)) (wrC p) HG6.out HWL.out (sz_wr HP6.out) (wrC_one _) ?_ ?_ ?_ ?_ ?_
         · rfl
         · rfl
         · rfl
         · rfl
         intro y2 hs;replace HG6:Hid (Blk y2 g6 (wrC p) 109):=hs.blk;replace HBW:Hid (Below wr.heap.size wr y2):=HBW.out.trans (hs.only.below HG6E.out HBW.out.size);clear hs)
      | fail)
     refine wp_region_held_drew (S:=fun wx => Blk wx g6 (wrC p) 109) (by kernel_rfl) HG6.out.drew ?_
     intro hS;have HB3:Hid (Blk y2.drew gb (cb (dumpW D.safe (D.wait.take j))) 5):=HBK.out.below HBW.out.drew HBK.out.lt;have HBB3:Hid (Below w.heap.size w y2.drew):=HBB.out.trans (HBW.out.drew.mono HBB.out.size);clear HBK HBB HBW HG6 HG6E HRG HMr
     change wpAnyH _ _ _ _ _ _ _ _ (World.drew y2)
     generalize World.drew y2 = y3 at *
     refine tkc 0 (.slice (some ⟨gb,0,none⟩) N N) rfl hS ?_;simp only [Act.put,sq];refine tkc 1 (.pointer (some ⟨g6,0,none⟩)) rfl hS ?_;simp only [Act.put,sq];refine tka 2 (.int .i64 (p.1:Int)) rfl (fun wx hx => by (have hc:wx.cell? ⟨g6,0,none⟩ = some (.int .i64 (p.1:Int)):=hx.cell 0;simp [go_sem,hc])) hS ?_
     simp only [Act.put,sq];refine tka 3 (.int .i64 (o:Int)) rfl (fun wx hx => by simp [go_sem,f6]) hS ?_
     simp only [Act.put,sq];refine tka 4 (.slice (some ⟨gb,0 + o,none⟩) (N - o) (N - o)) rfl (fun wx hx => by exact cutFrom gb 0 N N o HON.out.1 (Nat.le_refl _) _ _ _ _ rfl rfl rfl _) hS ?_
     simp only [Act.put,sq];refine tkc 5 (.pointer (some ⟨g6,1,none⟩)) rfl hS ?_;simp only [Act.put,sq];refine tka 6 (.slice (some ⟨g6,1,none⟩) 64 64) rfl (fun wx hx => by exact sliceSec g6 1 _ _ _ rfl rfl _) hS ?_
     simp only [Act.put,sq];refine wpAnyH_copyO 7 (.tmp 48) (.tmp 50) gb (0 + o) (N - o) (N - o) g6 1 64 64 5 _ p.2 HB3.out (by rw [HP6.out];have:=HON.out.2;omega) (by rw [HP6.out,cb_len,HLN.out];have h1:=HON.out;omega) (range_cells (range_tail (off:=0) (Blk.range hS))) (by kernel_rfl) rfl (by rfl) rfl rfl rfl ?_
     intro y4 hb4 ho4;refine ⟨hS.only ho4 (hS.neT HB3.out (by decide)),?_⟩
     have HB4:Hid (Blk y4 gb (cb (dumpW D.safe (D.wait.take (j + 1)))) 5):=by
      rw [Nat.zero_add,HOO.out,lay_sec HP6.out,← HTK.out] at hb4;exact hb4
     have HBB4:Hid (Below w.heap.size w y4):=HBB3.out.trans (ho4.below HGE.out HBB3.out.size);clear hb4 ho4 hS HB3 HBB3;simp only [Act.put,sq];refine wpAnyH_done (by kernel_rfl) ?_ _
     go_wp2;go_roundw
     case rel => exact ⟨j + 1,by omega,by simp,HB4,HBB4⟩
     case measure => simp [intOf];omega
theorem Log.len {D:DkT} {J:JnT} (h:Log D J) (hs:sizeD D ≤ 100):J.l.length ≤ 1000 ∧ sizeL J.l ≤ 6400:=by
 have h1:=h.fits
 have h2:=sizeL_ge J.l
 have h3:=sizeL_eq J.l
 unfold hsD at h1
 exact ⟨by omega,by omega⟩
theorem rd_log {D:DkT} {J:JnT} (h:Log D J) (h8:8 ≤ sizeD D) (hw:D.safe.length % 64 = 0):rdG14 (dumpD D) = J.gen ∧ rdL14 (dumpD D) = J.l ∧ rdX14 (dumpD D) = 0:=by
 have hr:=h.read
 have hd:dumpD D = D.safe:=by rw [h.idle];rfl
 have hok:okB (dumpD D):=by
  rw [hd]
  refine ⟨hw,?_⟩
  unfold sizeD at h8
  omega
 exact ⟨by rw [rdG14,if_pos hok,hr],by rw [rdL14,if_pos hok,hr],by rw [rdX14,if_pos hok]⟩
def openG (D:DkT):List (Option (Nat × Bs)) × JnT:=
 if (pickB (dumpD D)).2 = 0 then (anewS (hsD D) 0 1 [],⟨0,1,[]⟩)
 else if ∀ z ∈ (halfB (dumpD D) (pickB (dumpD D)).1).drop (recsOf (pickB (dumpD D)).2 (halfB (dumpD D) (pickB (dumpD D)).1)).2,z = 0 then ([],⟨(pickB (dumpD D)).1,(pickB (dumpD D)).2,(recsOf (pickB (dumpD D)).2 (halfB (dumpD D) (pickB (dumpD D)).1)).1⟩)
 else (anewS (hsD D) (1 - (pickB (dumpD D)).1) (gN (pickB (dumpD D)).2) (recsOf (pickB (dumpD D)).2 (halfB (dumpD D) (pickB (dumpD D)).1)).1,⟨1 - (pickB (dumpD D)).1,gN (pickB (dumpD D)).2,(recsOf (pickB (dumpD D)).2 (halfB (dumpD D) (pickB (dumpD D)).1)).1⟩)
theorem openG_eq {D:DkT} (h:(pickB (dumpD D)).2 + 1 < 18446744073709551616):openG D = openS D:=by
 unfold openG openS
 rw [gN_eq h]
theorem box_agg (f:Operand → Value) (o:Oper) (ty:TypeId) (x:Operand) (cs:List Value) (ho:o.op = .box ty x) (hx:f x = .agg cs.toArray) (w:World):(execOp f o).run Tryz.prog w = .ok (.value (.pointer (some ⟨w.heap.size,0,none⟩))) (w.alloc (.cells cs.toArray ty)):=by
 unfold execOp
 rw [ho]
 simp only [hx]
 rfl
theorem built_lg (gd hs k gen u:Nat) (ad:Option Addr) (n c:Nat) (ps:List (Nat × Value)) (h:ps = [(0,wrF gd),(1,syF gd),(2,.int .i64 (hs:Int)),(4,.agg (ctC k gen (.slice ad n c) u).toArray)]):Tryz.prog.built 144 ps = some (lgC gd hs 0 k gen (.slice ad n c) u).toArray:=by subst h;kernel_rfl
structure OpA (w:World) (gd:Nat) (P:Nat → Prop) (n:Nat) (DX:DkT) (JX:JnT) (P':Nat → Prop) (lv:Value) (x:Int) (w':World):Prop where
 dk:DkIs w' gd P' DX
 mv:Mut P w w'
 gr:Grew w P P'
 lg:x = 0 → ∃ lg Q,lv = .pointer (some ⟨lg,0,none⟩) ∧ LgJ w' lg Q gd n JX ∧ ∀ k,Q k → w.heap.size ≤ k ∧ ¬ P' k
theorem jOpen_any {w:World} {gd:Nat} {P:Nat → Prop} {D:DkT} (hK:KOk w) (hdk:DkIs w gd P D) (hwt:D.wait = []) (hsz:sizeD D ≤ 100) (h8:8 ≤ sizeD D):Calls Tryz.prog 63 #[.pointer (some ⟨gd,0,none⟩)] w fun e w' => ∃ P' lv,e = .returned (.tuple #[lv,.int .i64 (runJ D (openG D).1).2]) ∧ OpA w gd P (sizeD D) (runJ D (openG D).1).1 (openG D).2 P' lv (runJ D (openG D).1).2 w':=by
 obtain ⟨X,HX⟩:=sqn ((runJ D (openG D).1).2)
 obtain ⟨DX,HDX⟩:=sqn ((runJ D (openG D).1).1)
 obtain ⟨JX,HJX⟩:=sqn ((openG D).2)
 rw [← HX.out,← HDX.out,← HJX.out]
 obtain ⟨n,HN⟩:=sqn (sizeD D)
 obtain ⟨hs,HHS⟩:=sqn (n / 2)
 obtain ⟨b,HB⟩:=sqn (dumpD D)
 rw [← HN.out] at hsz h8 ⊢
 have HOKD:Hid (okD D):=by obtain ⟨_,_,_,_,hm,_⟩:=hdk;exact hm.ok
 have HBL:Hid (b.length = 64 * n):=by show _ = _;rw [HB.out,len_dumpD HOKD.out,HOKD.out.size.1,HN.out]
 have HOB:Hid (okB b):=by show okB b;have h:=HBL.out;unfold okB;omega
 have HHH:Hid (hsD D = hs):=by show sizeD D / 2 = hs;rw [← HN.out];exact HHS.out.symm
 have HNH:Hid (halfN b = 64 * hs):=by show _ = _;have h:=HBL.out;have h2:=HHS.out;rw [halfN];omega
 have HDK:Hid (DkIs w gd P D):=hdk
 have HWT:Hid (D.wait = []):=hwt
 have HK:Hid (KOk w):=hK
 have HBD:Hid (4 ≤ hs ∧ hs ≤ 50 ∧ n ≤ 100 ∧ 8 ≤ n):=by have h:=HHS.out;exact ⟨by omega,by omega,by omega,by omega⟩
 have HLT:Hid (∀ k,P k → k < w.heap.size):=hdk.lt14
 have f1:¬ ((n:Int) < 8):=by omega
 have f2:IntKind.i64.wrap ((n:Int) / 2) = (hs:Int):=by rw [IntKind.wrap_i64];have:=HHS.out;omega
 clear hdk hwt hsz h8 hK
 have HSZ:Hid (∀ W,Below w.heap.size w W → Calls Tryz.prog 22 #[.pointer (some ⟨gd,0,none⟩)] W fun r w' => r = .returned (.int .i64 (n:Int)) ∧ w' = W):=fun W hW => by rw [HN.out];exact dkSize_pure (HDK.out.same14 (fun k hk => hW.block k (HLT.out k hk)))
 have HDU:Hid (Calls Tryz.prog 25 #[.pointer (some ⟨gd,0,none⟩)] w fun r w' => ∃ v,r = .returned v ∧ Reads w' v b ∧ Below w.heap.size w w'):=by rw [HB.out];exact dkDump_b HDK.out (by rw [HWT.out];decide)
 go_enter Tryz.func63,Tryz.ntmps63
 obtain ⟨tk0,tk1,tk2,tk3,tk4⟩:=sqk5
 go_upto_region 4 with (first
  | (clear tk0;go_at_call 22;refine (HSZ.out _ (Below.refl _ _)).mono ?_;rintro e0 y1 ⟨rfl,hy1⟩;have hy2:=hy1.symm;clear hy1;subst hy2)
  | (clear tk1;go_at_call 25;refine HDU.out.mono ?_;rintro e0 y1 ⟨v1,rfl,hr,hz⟩
     obtain ⟨ad,cp,hv,hcp,_,hx⟩:=id hr;obtain ⟨bb,off,rfl,_⟩:=hx (by have h1:=HBL.out;have h2:=HBD.out;omega)
     subst hv;obtain ⟨L,HLL⟩:=sqn (b.length);rw [← HLL.out] at hr ⊢;have HRD:Hid (Reads y1 (.slice (some ⟨bb,off,none⟩) L cp) b):=hr;have HBW:Hid (Below w.heap.size w y1):=hz;clear hr hz hcp hx)
  | (clear tk2;go_at_call 88;refine (jLook_any bb off L cp b HOB.out (by have h1:=HBL.out;have h2:=HBD.out;omega) _ (HK.out.below HBW.out HK.out.lt) HRD.out).mono ?_;rintro e0 y2 ⟨k,gen,vr,us,u,cl,rfl,hlk⟩
     obtain ⟨a1,n1,c1,hvr⟩:∃ a n c,vr = .slice a n c:=by
      by_cases hg:gen = 0
      · exact ⟨_,_,_,(hlk.z hg).1⟩
      · obtain ⟨a,c,hv,_⟩:=(hlk.nz hg).1.readsL;exact ⟨_,_,_,hv⟩
     subst hvr;have HLK:Hid (LookA y1 b k gen (.slice a1 n1 c1) us u cl y2):=hlk;have HBW2:Hid (Below w.heap.size w y2):=HBW.out.trans (hlk.bel.mono HBW.out.size);clear hlk)
  | (clear tk3;with_reducible refine wpSeq_allocCt ?_ ?_ ?_
     · rfl
     · rfl
     intro g4 y3 nn;have H4:Hid (Blk y3 g4 ctZ 138):=nn.blk;have HG4:Hid (w.heap.size ≤ g4 ∧ y2.heap.size ≤ g4):=⟨Nat.le_trans HBW2.out.size nn.ge,nn.ge⟩;have HBW3:Hid (Below y2.heap.size y2 y3):=nn.below;clear nn)
  | (clear tk4;with_reducible refine wpSeq_storeRow 138 (.tmp 4) (.tmp 19) g4 ctZ (ctC k gen (.slice a1 n1 c1) u) H4.out (len_ctZ _ _ _ _) (info_ct _ _ _ _) (ct_one _ _ _ _ _ _) ?_ ?_ ?_ ?_ ?_
     · rfl
     · rfl
     · rfl
     · rfl
     intro y4 hs4;have HB4:Hid (Blk y4 g4 (ctC k gen (.slice a1 n1 c1) u) 138):=hs4.blk;have HBW4:Hid (Below y2.heap.size y2 y4):=HBW3.out.trans (hs4.only.below HG4.out.2 HBW3.out.size);clear hs4))
 have HBY:Hid (Below y2.heap.size y2 (World.drew y4)):=HBW4.out.drew
 clear H4 HBW3 HBW4 HRD HDU
 refine wp_region_held_drew (S:=fun wx => Blk wx g4 (ctC k gen (.slice a1 n1 c1) u) 138) (by kernel_rfl) HB4.out.drew ?_
 intro hS
 clear HB4
 change wpAnyH _ _ _ _ _ _ _ _ (World.drew y4)
 generalize World.drew y4 = y5 at *
 have HBZ:Hid (Below w.heap.size w y5):=HBW2.out.trans (HBY.out.mono HBW2.out.size)
 refine tkc 0 (.pointer (some ⟨gd,0,none⟩)) rfl hS ?_
 simp only [Act.put,sq]
 refine tka 1 (wrF gd) rfl (fun wx hx => by simp [go_sem,wrF]) hS ?_
 simp only [Act.put,sq]
 refine tkc 2 (.pointer (some ⟨gd,0,none⟩)) rfl hS ?_
 simp only [Act.put,sq]
 refine tka 3 (syF gd) rfl (fun wx hx => by simp [go_sem,syF]) hS ?_
 simp only [Act.put,sq]
 refine tkc 4 (.pointer (some ⟨gd,0,none⟩)) rfl hS ?_
 simp only [Act.put,sq]
 refine tka 7 (.agg (ctC k gen (.slice a1 n1 c1) u).toArray) rfl (fun wx hx => by exact load_run 138 (.tmp 4) rfl g4 0 rfl (ctC k gen (.slice a1 n1 c1) u) _ hx.range Tryz.underlying138 rfl (info_ct _ _ _ _)) hS ?_
 simp only [Act.put,sq]
 refine wpAnyH_enter 5 (by kernel_rfl) rfl (by rfl) (f:=22) (args:=#[.pointer (some ⟨gd,0,none⟩)]) (by simp [go_sem]) (HSZ.out _ HBZ.out) ?_
 rintro e0 y6 ⟨rfl,hy6⟩
 have hy7:=hy6.symm
 clear hy6
 subst hy7
 refine ⟨_,rfl,hS,?_⟩
 simp only [Act.put,sq]
 refine tka 6 (.int .i64 (hs:Int)) rfl (fun wx hx => by simp [go_sem,f2]) hS ?_
 simp only [Act.put,sq]
 refine tka 8 (.agg (lgC gd hs 0 k gen (.slice a1 n1 c1) u).toArray) rfl (fun wx hx => by exact build_op _ _ 144 [(0,.tmp 22),(1,.tmp 24),(2,.tmp 27),(4,.tmp 28)] rfl _ (built_lg _ _ _ _ _ _ _ _ _ rfl) _) hS ?_
 simp only [Act.put,sq]
 have hz6:=below_alloc y5 (.cells (lgC gd hs 0 k gen (.slice a1 n1 c1) u).toArray 144)
 have hb6:Blk (y5.alloc (.cells (lgC gd hs 0 k gen (.slice a1 n1 c1) u).toArray 144)) y5.heap.size (lgC gd hs 0 k gen (.slice a1 n1 c1) u) 144:=Blk.new _ _ _
 have hS6:=hS.below hz6 hS.lt
 refine wpAnyH_step 9 (.pointer (some ⟨y5.heap.size,0,none⟩)) (y5.alloc (.cells (lgC gd hs 0 k gen (.slice a1 n1 c1) u).toArray 144)) (by kernel_rfl) rfl (by rfl) (box_agg _ _ 144 (.tmp 29) _ rfl rfl _) hS6 ?_
 clear hS
 have hS:=hS6
 clear hS6
 simp only [Act.put,sq]
 generalize y5.alloc (.cells (lgC gd hs 0 k gen (.slice a1 n1 c1) u).toArray 144) = y6 at *
 obtain ⟨lg,HLG⟩:=sqn (y5.heap.size)
 rw [← HLG.out] at hb6 ⊢
 refine tkc 10 (.pointer (some ⟨lg,0,none⟩)) rfl hS ?_
 simp only [Act.put,sq]
 refine wpAnyH_done (by kernel_rfl) ?_ _
 have HLB:Hid (Blk y6 lg (lgC gd hs 0 k gen (.slice a1 n1 c1) u) 144):=hb6
 have HBX:Hid (Below w.heap.size w y6):=HBZ.out.trans (hz6.mono HBZ.out.size)
 have HBV:Hid (Below y2.heap.size y2 y6):=HBY.out.trans (hz6.mono HBY.out.size)
 have d1:y6.cell? ⟨g4,1,none⟩ = some (.int .u64 (gen:Int)):=hS.cell 1
 have d2:y6.cell? ⟨g4,2,none⟩ = some (.slice a1 n1 c1):=hS.cell 2
 have HLW:Hid (w.heap.size ≤ lg):=by rw [HLG.out];exact HBZ.out.size
 clear hb6 hz6 hS HBY HBZ HLG f2 f1 HSZ
 have HNP:Hid (¬ P lg):=fun h => by have h1:=HLT.out lg h;have h2:=HLW.out;omega
 have HD6:Hid (DkIs y6 gd P D):=HDK.out.same14 (fun z hz => HBX.out.block z (HLT.out z hz))
 have HK6:Hid (KOk y6):=HK.out.below HBX.out HK.out.lt
 have HPB:Hid (pickB (dumpD D) = (k,gen)):=by show _ = _;rw [← HB.out];exact HLK.out.pk
 have HK1:Hid (k ≤ 1 ∧ gen < 18446744073709551616):=by have h:=pick_lt (dumpD D);rw [HPB.out] at h;exact ⟨h.2,h.1⟩
 have HMV:Hid (∀ {W P'},Mut (Un P (fun z => z = lg)) y6 W → Grew y6 P P' → Mut P w W ∧ Grew w P P'):=fun {W P'} hm hg => ⟨(mut_below HBX.out P).trans (fun z hz h => h.elim id (fun e => absurd hz (by have:=HLW.out;omega))) hm,fun z hz => (hg z hz).imp id (fun h => Nat.le_trans HBX.out.size h)⟩
 by_cases hg:gen = 0
 · subst hg
   have HG:Hid (openG D = (anewS hs 0 1 [],⟨0,1,[]⟩)):=by show _ = _;rw [openG,HPB.out,if_pos rfl,HHH.out]
   have HXE:Hid (X = (runJ D (anewS hs 0 1 [])).2 ∧ DX = (runJ D (anewS hs 0 1 [])).1 ∧ JX = ⟨0,1,[]⟩):=by rw [HX.out,HDX.out,HJX.out,HG.out];exact ⟨rfl,rfl,rfl⟩
   have HNX:Hid (Calls Tryz.prog 91 #[.pointer (some ⟨lg,0,none⟩),.int .i64 0,.int .u64 1,.slice none 0 0] y6 fun e w' => e = .returned (.int .i64 X) ∧ ∃ P',DkIs w' gd P' DX ∧ (X = 0 → Blk w' lg (lgC gd hs 0 0 1 (.slice none 0 0) 1) 144) ∧ Mut (Un P (fun z => z = lg)) y6 w' ∧ Grew y6 P P'):=by
    rw [HXE.out.1,HXE.out.2.1];exact jBegin_any (w:=y6) hs k 0 u 0 1 _ (.slice none 0 0) [] HK6.out HD6.out HWT.out HLB.out HNP.out (by decide) (by decide) (by have:=HBD.out;omega) HBD.out.2.1 (by have h1:=HBD.out;show 1 + 0 ≤ hs;omega) (fun W _ => readsL_nil W)
   have tk0:Hid True:=trivial
   go_wp2_with (first
    | (clear tk0;go_at_call 91;refine HNX.out.mono ?_;rintro e0 y7 ⟨rfl,P3,hd3,hl3,hm3,hg3⟩
       have HR3:Hid (DkIs y7 gd P3 DX ∧ (X = 0 → Blk y7 lg (lgC gd hs 0 0 1 (.slice none 0 0) 1) 144) ∧ Mut P w y7 ∧ Grew w P P3):=⟨hd3,hl3,HMV.out hm3 hg3⟩;clear hd3 hl3 hm3 hg3))
   rotate_left
   · refine bodyPost_ret (results_tmp2 rfl _ _ _) rfl ?_
     have hx0:X = 0:=by first | assumption | (rename_i h;simpa using h)
     have hlm:LgM y7 lg gd n (.slice none 0 0) [] JX:=by
      rw [HXE.out.2.2];exact ⟨by rw [← HHS.out];exact HR3.out.2.1 hx0,TxJ.nil (Nat.zero_le _)⟩
     refine ⟨P3,_,by rw [hx0];rfl,HR3.out.1,HR3.out.2.2.1,HR3.out.2.2.2,fun _ => ⟨lg,_,rfl,⟨_,_,hlm,rfl⟩,fun z hz => ⟨?_,pk_ap HR3.out.1 hlm z hz⟩⟩⟩
     rcases hz with rfl | h | ⟨uu,huu,h⟩
     · exact HLW.out
     · cases h
     · cases huu
   · refine bodyPost_ret (results_tmp2 rfl _ _ _) rfl ?_
     have hx0:¬ X = 0:=by first | assumption | (rename_i h;simpa using h)
     exact ⟨P3,_,rfl,HR3.out.1,HR3.out.2.2.1,HR3.out.2.2.2,fun h => absurd h hx0⟩
 · have hgz:¬ ((gen:Int) = 0):=by omega
   obtain ⟨half,HHF⟩:=sqn (halfB b k);obtain ⟨l,HL⟩:=sqn ((recsOf gen half).1)
   have HTX:Hid (TxJ y1.heap.size (.slice a1 n1 c1) us l y6):=by
    have h:=(HLK.out.nz hg).1.next HBV.out;rw [← HHF.out,← HL.out] at h;exact h
   have HUU:Hid (u = 1 + secL l ∧ 1 + secL l ≤ hs):=by
    have h1:=(HLK.out.nz hg).2.1;have h2:half.length = 64 * hs:=by rw [HHF.out,len_half HK1.out.1,HNH.out]
    have h3:=recs_inv (gen:=gen) (half:=half) (half.length / 64) 64 0 (by have:=HBD.out;omega)
    rw [← HHF.out] at h1;have h4:(recsOf gen half).2 = 64 + sizeL (recsOf gen half).1:=h3.2.1;have h5:(recsOf gen half).2 ≤ half.length:=h3.2.2.1;rw [← HL.out,sizeL_eq] at h4;exact ⟨by omega,by omega⟩
   have HCL:Hid (cl = decide (∀ z ∈ half.drop (recsOf gen half).2,z = 0)):=by show _ = _;rw [HHF.out];exact (HLK.out.nz hg).2.2
   have HBQ:Hid (w.heap.size ≤ y1.heap.size):=HBW.out.size
   have HQG:Hid (∀ z,lgQ lg (.slice a1 n1 c1) us z → w.heap.size ≤ z):=fun z hz => by
    rcases hz with rfl | h | ⟨uu,huu,h⟩
    · exact HLW.out
    · exact Nat.le_trans HBQ.out (HTX.out.ge_all.1 z h).1
    · exact Nat.le_trans HBQ.out (HTX.out.ge_all.2 uu huu z h).1
   have hGG:openG D = if ∀ z ∈ half.drop (recsOf gen half).2,z = 0 then ([],⟨k,gen,l⟩) else (anewS hs (1 - k) (gN gen) l,⟨1 - k,gN gen,l⟩):=by
    rw [openG,HPB.out,if_neg hg,HHH.out,← HB.out,← HHF.out,← HL.out]
   clear HLK HBW HBV
   cases cl with
   | true =>
    have HXE:Hid (X = 0 ∧ DX = D ∧ JX = ⟨k,gen,l⟩):=by
     rw [HX.out,HDX.out,HJX.out,hGG,if_pos (of_decide_eq_true HCL.out.symm)];exact ⟨rfl,rfl,rfl⟩
    clear hGG HCL;go_wp2;refine bodyPost_ret (results_tmp2 rfl _ _ _) rfl ?_
    have hlm:LgM y6 lg gd n (.slice a1 n1 c1) us JX:=by
     rw [HXE.out.2.2];exact ⟨by rw [← HHS.out];show Blk y6 lg (lgC gd hs 0 k gen _ (1 + secL l)) _;rw [← HUU.out.1];exact HLB.out,HTX.out.lower (Nat.zero_le _)⟩
    refine ⟨P,_,by rw [HXE.out.1];rfl,by rw [HXE.out.2.1];exact HD6.out,mut_below HBX.out P,Grew.refl _ _,fun _ => ⟨lg,_,rfl,⟨_,_,hlm,rfl⟩,fun z hz => ⟨HQG.out z hz,pk_ap HD6.out hlm z hz⟩⟩⟩
   | false =>
    have HXE:Hid (X = (runJ D (anewS hs (1 - k) (gN gen) l)).2 ∧ DX = (runJ D (anewS hs (1 - k) (gN gen) l)).1 ∧ JX = ⟨1 - k,gN gen,l⟩):=by
     rw [HX.out,HDX.out,HJX.out,hGG,if_neg (of_decide_eq_false HCL.out.symm)];exact ⟨rfl,rfl,rfl⟩
    clear hGG HCL;have HNR:Hid (∀ z,w.heap.size ≤ z → z ≠ lg → ¬ Un P (fun z => z = lg) z):=fun z hz hn h => h.elim (fun hp => absurd (HLT.out z hp) (by omega)) hn
    have HNV:Hid (∀ z,(Value.slice a1 n1 c1).ownBlock = some z → z ≠ lg):=fun z hz e => by
     subst e;exact ownX_ne_lg HTX.out.own HLB.out hz
    have HNU:Hid (∀ uu ∈ us,∀ z,uu.ownBlock = some z → z ≠ lg):=fun uu huu z hz e => by
     subst e;obtain ⟨i,hi,rfl⟩:=List.getElem_of_mem huu;exact ownB_ne_lg (HTX.out.good i _ (List.getElem?_eq_getElem hi)) HLB.out hz
    have HNX:Hid (Calls Tryz.prog 92 #[.pointer (some ⟨lg,0,none⟩),.slice a1 n1 c1] y6 fun e w' => e = .returned (.int .i64 X) ∧ ∃ P',DkIs w' gd P' DX ∧ (X = 0 → Blk w' lg (lgC gd hs 0 (1 - k) (gN gen) (.slice a1 n1 c1) (1 + secL l)) 144) ∧ Mut (Un P (fun z => z = lg)) y6 w' ∧ Grew y6 P P'):=by
     rw [HXE.out.1,HXE.out.2.1];exact jNext_any (w:=y6) hs k gen u _ (.slice a1 n1 c1) l HK6.out HD6.out HWT.out HLB.out HNP.out HK1.out.1 (by have:=HBD.out;omega) HBD.out.2.1 HUU.out.2 (HTX.out.stN (fun z hz => HNR.out z (Nat.le_trans HBQ.out (HTX.out.ge_all.1 z hz).1) (HNV.out z hz)) (fun uu huu z hz => HNR.out z (Nat.le_trans HBQ.out (HTX.out.ge_all.2 uu huu z hz).1) (HNU.out uu huu z hz)))
    have tk0:Hid True:=trivial
    go_wp2_with (first
     | (clear tk0;go_at_call 92;refine HNX.out.mono ?_;rintro e0 y7 ⟨rfl,P3,hd3,hl3,hm3,hg3⟩
        have HR3:Hid (DkIs y7 gd P3 DX ∧ (X = 0 → Blk y7 lg (lgC gd hs 0 (1 - k) (gN gen) (.slice a1 n1 c1) (1 + secL l)) 144) ∧ Mut P w y7 ∧ Grew w P P3):=⟨hd3,hl3,HMV.out hm3 hg3⟩;have HM3:Hid (Mut (Un P (fun z => z = lg)) y6 y7):=hm3
        clear hd3 hl3 hm3 hg3))
    rotate_left
    · refine bodyPost_ret (results_tmp2 rfl _ _ _) rfl ?_
      have hx0:X = 0:=by first | assumption | (rename_i h;simpa using h)
      have htx:TxJ 0 (.slice a1 n1 c1) us l y7:=(HTX.out.lower (Nat.zero_le _)).sameQ HM3.out.size (fun z hz => HM3.out.block z (HTX.out.ge_all.1 z hz).2 (HNR.out z (Nat.le_trans HBQ.out (HTX.out.ge_all.1 z hz).1) (HNV.out z hz))) (fun uu huu z hz => HM3.out.block z (HTX.out.ge_all.2 uu huu z hz).2 (HNR.out z (Nat.le_trans HBQ.out (HTX.out.ge_all.2 uu huu z hz).1) (HNU.out uu huu z hz)))
      have hlm:LgM y7 lg gd n (.slice a1 n1 c1) us JX:=by
       rw [HXE.out.2.2];exact ⟨by rw [← HHS.out];exact HR3.out.2.1 hx0,htx⟩
      exact ⟨P3,_,by rw [hx0];rfl,HR3.out.1,HR3.out.2.2.1,HR3.out.2.2.2,fun _ => ⟨lg,_,rfl,⟨_,_,hlm,rfl⟩,fun z hz => ⟨HQG.out z hz,pk_ap HR3.out.1 hlm z hz⟩⟩⟩
    · refine bodyPost_ret (results_tmp2 rfl _ _ _) rfl ?_
      have hx0:¬ X = 0:=by first | assumption | (rename_i h;simpa using h)
      exact ⟨P3,_,rfl,HR3.out.1,HR3.out.2.2.1,HR3.out.2.2.2,fun h => absurd h hx0⟩
theorem str_toList (a:Bs):(strB a).toList = a.map fun b => UInt8.ofNat b.toNat:=by rw [Lib.toList_data,strB_data]
theorem u8_lt (a b:BitVec 8):(UInt8.ofNat a.toNat < UInt8.ofNat b.toNat) ↔ a.toNat < b.toNat:=by
 have ha:=a.isLt
 have hb:=b.isLt
 rw [UInt8.lt_iff_toNat_lt]
 simp
theorem u8_eq (a b:BitVec 8):(UInt8.ofNat a.toNat = UInt8.ofNat b.toNat) ↔ a = b:=by
 constructor
 · intro h
   have h2:=congrArg UInt8.toNat h;simp at h2;exact BitVec.eq_of_toNat_eq h2
 · intro h
   rw [h]
theorem str_lt:∀ (a b:Bs),Op.bytesLess (a.map fun b => UInt8.ofNat b.toNat) (b.map fun b => UInt8.ofNat b.toNat) = ltB a b
 | [],[] => rfl
 | [],_ :: _ => rfl
 | _ :: _,[] => rfl
 | a :: x,b :: y => by
  rw [List.map_cons,List.map_cons,Op.bytesLess,ltB,str_lt x y]
  congr 1
  · rw [decide_eq_decide];exact u8_lt a b
  · congr 1
    rw [Bool.eq_iff_iff,beq_iff_eq,decide_eq_true_eq];exact u8_eq a b
theorem less_str (a b:Bs):Op.bytesLess (strB a).toList (strB b).toList = ltB a b:=by rw [str_toList,str_toList,str_lt]
theorem leq_str (a b:Bs):(Op.bytesLess (strB a).toList (strB b).toList || ((strB a).toList == (strB b).toList)) = !ltB b a:=by
 rw [less_str,strB_inj]
 rcases ltB_tri a b with h | h | h
 · rw [h,ltB_asym h];rfl
 · rw [h,ltB_irr];simp
 · rw [h,ltB_asym h];simp [(ltB_ne h).symm]
theorem run_strOp (op:BinOp) (s t:ByteArray) (r:Bool) (hr:(match op with | .lss => Op.bytesLess s.toList t.toList | .leq => Op.bytesLess s.toList t.toList || (s.toList == t.toList) | .eql => s.toList == t.toList | .neq => !(s.toList == t.toList) | _ => false) = r) (hop:op = .lss ∨ op = .leq ∨ op = .eql ∨ op = .neq) (f:Operand → Value) (o:Oper) (x y:Operand) (ho:o.op = .binOp op 9 x y 9) (hx:f x = .string s) (hy:f y = .string t) (w:World):(execOp f o).run Tryz.prog w = .ok (.value (.bool r)) w:=by
 unfold execOp
 rw [ho]
 rcases hop with rfl | rfl | rfl | rfl <;> subst hr <;> simp [go_sem,hx,hy]
theorem wpSeq_str {ops:Array Oper} {Q:Exit → Act → World → Prop} {rest:List Oper} {o:Oper} {a:Act} {w:World} (op:BinOp) (s t:ByteArray) (r:Bool) (x y:Operand) (hr:(match op with | .lss => Op.bytesLess s.toList t.toList | .leq => Op.bytesLess s.toList t.toList || (s.toList == t.toList) | .eql => s.toList == t.toList | .neq => !(s.toList == t.toList) | _ => false) = r) (hop:op = .lss ∨ op = .leq ∨ op = .eql ∨ op = .neq) (ho:o.op = .binOp op 9 x y 9) (hx:a.eval x = .string s) (hy:a.eval y = .string t) (hw:Region.wanted o (yielded ops a.tmps) = true)
 (h:wpList Tryz.prog ops Q rest (a.put o.dst (.bool r)) w):wpList Tryz.prog ops Q (o :: rest) a w:=
 wpSeq_val _ _ hw (run_strOp op s t r hr hop _ o x y ho hx hy w) h
theorem wpSeq_sLe {ops:Array Oper} {Q:Exit → Act → World → Prop} {rest:List Oper} {o:Oper} {a:Act} {w:World} (s t:ByteArray) (r:Bool) (x y:Operand) (hr:(Op.bytesLess s.toList t.toList || (s.toList == t.toList)) = r) (ho:o.op = .binOp .leq 9 x y 9) (hx:a.eval x = .string s) (hy:a.eval y = .string t) (hw:Region.wanted o (yielded ops a.tmps) = true)
 (h:wpList Tryz.prog ops Q rest (a.put o.dst (.bool r)) w):wpList Tryz.prog ops Q (o :: rest) a w:=wpSeq_str .leq s t r x y hr (Or.inr (Or.inl rfl)) ho hx hy hw h
theorem wpSeq_sLt {ops:Array Oper} {Q:Exit → Act → World → Prop} {rest:List Oper} {o:Oper} {a:Act} {w:World} (s t:ByteArray) (r:Bool) (x y:Operand) (hr:Op.bytesLess s.toList t.toList = r) (ho:o.op = .binOp .lss 9 x y 9) (hx:a.eval x = .string s) (hy:a.eval y = .string t) (hw:Region.wanted o (yielded ops a.tmps) = true)
 (h:wpList Tryz.prog ops Q rest (a.put o.dst (.bool r)) w):wpList Tryz.prog ops Q (o :: rest) a w:=wpSeq_str .lss s t r x y hr (Or.inl rfl) ho hx hy hw h
def actC (a:ActT) (vd:Value):List Value:=[.string (strB a.key),.bool a.set,vd]
def ReadsA (w:World) (v:Value) (l:List ActT):Prop:=
 ∃ ad cap,v = .slice ad l.length cap ∧ l.length ≤ cap ∧ (ad = none → cap = 0) ∧ (0 < l.length → ∃ b off,ad = some ⟨b,off,none⟩ ∧ ∀ j,j < l.length → ∃ vd,w.rangeAt b (off + j * 3) (actC (l.getD j ⟨[],false,[]⟩) vd) ∧ Reads w vd (l.getD j ⟨[],false,[]⟩).data)
theorem ReadsA.form {w:World} {v:Value} {l:List ActT} (h:ReadsA w v l):∃ ad c,v = .slice ad l.length c:=by
 obtain ⟨ad,c,hv,_⟩:=h
 exact ⟨ad,c,hv⟩
theorem ReadsA.nil (w:World):ReadsA w (.slice none 0 0) []:=⟨none,0,rfl,Nat.le_refl _,fun _ => rfl,fun h => by simp at h⟩
theorem range_below {w w':World} {B b off:Nat} {cs:List Value} (h:w.rangeAt b off cs) (hb:Below B w w') (hlt:b < B):w'.rangeAt b off cs:=fun j u hj => by
 rw [hb.cell (p:=⟨b,off + j,none⟩) hlt]
 exact h j u hj
theorem ReadsA.below {w w':World} {v:Value} {l:List ActT} (h:ReadsA w v l) (hb:Below w.heap.size w w'):ReadsA w' v l:=by
 obtain ⟨ad,cap,h1,h2,h3,h4⟩:=h
 refine ⟨ad,cap,h1,h2,h3,fun hp => ?_⟩
 obtain ⟨b,off,h5,h6⟩:=h4 hp
 refine ⟨b,off,h5,fun j hj => ?_⟩
 obtain ⟨vd,h7,h8⟩:=h6 j hj
 exact ⟨vd,range_below h7 hb (block_lt_of_cell (h7 0 _ rfl)),h8.below hb⟩
theorem ReadsA.at {w:World} {ad:Option Addr} {n c:Nat} {l:List ActT} (h:ReadsA w (.slice ad n c) l) {j:Nat} (hj:j < l.length):∃ b off vd,ad = some ⟨b,off,none⟩ ∧ w.rangeAt b (off + j * 3) (actC (l.getD j ⟨[],false,[]⟩) vd) ∧ Reads w vd (l.getD j ⟨[],false,[]⟩).data:=by
 obtain ⟨ad',cap,h1,h2,h3,h4⟩:=h
 simp only [Value.slice.injEq] at h1
 obtain ⟨rfl,_,_⟩:=h1
 obtain ⟨b,off,h5,h6⟩:=h4 (Nat.lt_of_le_of_lt (Nat.zero_le _) hj)
 obtain ⟨vd,h7,h8⟩:=h6 j hj
 exact ⟨b,off,vd,h5,h7,h8⟩
theorem take_act {l:List ActT} {i:Nat} (h:i < l.length):l.take (i + 1) = l.take i ++ [l.getD i ⟨[],false,[]⟩]:=by
 rw [List.take_add_one,List.getElem?_eq_getElem h,List.getD_eq_getElem?_getD,List.getElem?_eq_getElem h]
 rfl
theorem info_act15 (x y z:Value):(Tryz.prog.info? 62).map (·.size) = some [x,y,z].length:=by kernel_rfl
theorem idxA (b off n c k:Nat) (hk:k < n) (f:Operand → Value) (o:Oper) (x y:Operand) (ho:o.op = .indexAddr 22 x y) (hx:f x = .slice (some ⟨b,off,none⟩) n c) (hy:f y = .int .i64 (k:Int)) (w:World) :
 (execOp f o).run Tryz.prog w = .ok (.value (.pointer (some ⟨b,off + k * 3,none⟩))) w:=by
 have k0:(0:Int) ≤ (k:Int):=by omega
 have k1:(k:Int) < (n:Int):=by omega
 have hs:(sizeOf 62).run Tryz.prog w = .ok 3 w:=by kernel_rfl
 unfold execOp
 rw [ho]
 simp [go_sem,hx,hy,k0,k1,Addr.add_mid,hs]
theorem wpSeq_idxA {ops:Array Oper} {Q:Exit → Act → World → Prop} {rest:List Oper} {o:Oper} {a:Act} {w:World} (x y:Operand) (b off n c k:Nat) (hk:k < n) (ho:o.op = .indexAddr 22 x y) (hx:a.eval x = .slice (some ⟨b,off,none⟩) n c) (hy:a.eval y = .int .i64 (k:Int)) (hw:Region.wanted o (yielded ops a.tmps) = true)
 (h:wpList Tryz.prog ops Q rest (a.put o.dst (.pointer (some ⟨b,off + k * 3,none⟩))) w):wpList Tryz.prog ops Q (o :: rest) a w:=
 wpSeq_val _ _ hw (idxA b off n c k hk _ o x y ho hx hy w) h
def zA:List Value:=[.string ⟨#[]⟩,.bool false,.slice none 0 0]
theorem alloc_act (f:Operand → Value) (o:Oper) (ho:o.op = .alloc 62) (w:World):(execOp f o).run Tryz.prog w = .ok (.value (.pointer (some ⟨w.heap.size,0,none⟩))) (w.alloc (.cells zA.toArray 62)):=by
 unfold execOp
 rw [ho]
 kernel_rfl
theorem wpSeq_allocA {ops:Array Oper} {Q:Exit → Act → World → Prop} {rest:List Oper} {o:Oper} {a:Act} {w:World} (ho:o.op = .alloc 62) (hw:Region.wanted o (yielded ops a.tmps) = true)
 (h:∀ g w',NewR zA 62 w g w' → wpList Tryz.prog ops Q rest (a.put o.dst (.pointer (some ⟨g,0,none⟩))) w'):wpList Tryz.prog ops Q (o :: rest) a w:=
 wpSeq_val _ _ hw (alloc_act _ _ ho _) (h _ _ (NewR.of _ _ w))
theorem one_act (s:ByteArray) (b:Bool) (ad:Option Addr) (n c:Nat):∀ v ∈ [Value.string s,.bool b,.slice ad n c],v.oneCell' = true:=fun v hv => by
 simp only [List.mem_cons,List.not_mem_nil,or_false] at hv
 rcases hv with rfl | rfl | rfl <;> rfl
def mayD (a:ActT):Bool:=if a.set then decide (a.data.length ≤ 1048576) else decide (a.data.length = 0)
theorem okA_may (a:ActT):okA a = (decide (a.key.length ≤ 64) && mayD a):=rfl
theorem sDataMay_any (a:ActT) (vd:Value) (w:World) (hr:Reads w vd a.data):Calls Tryz.prog 37 #[.agg (actC a vd).toArray] w fun e w' => e = .returned (.bool (mayD a)) ∧ Below w.heap.size w w':=by
 obtain ⟨n,HN⟩:=sqn (a.data.length)
 obtain ⟨ad,c,hv⟩:∃ ad c,vd = .slice ad n c:=by obtain ⟨ad,c,hv,_⟩:=hr;exact ⟨ad,c,by rw [HN.out];exact hv⟩
 subst hv
 obtain ⟨ks,HKS⟩:=sqn (strB a.key)
 obtain ⟨st,HST⟩:=sqn (a.set)
 have hm:mayD a = if st then decide (n ≤ 1048576) else decide (n = 0):=by rw [mayD,HST.out,HN.out]
 rw [hm,actC,← HKS.out,← HST.out]
 clear hr hm
 cases st with
 | true =>
  rw [if_pos rfl]
  have q:decide (n ≤ 1048576) = decide ((n:Int) ≤ 1048576):=by rw [decide_eq_decide];omega
  rw [q]
  clear q
  go_enter Tryz.func37,Tryz.ntmps37
  have tk0:Hid True:=trivial
  go_wp2_with (first
   | (clear tk0;with_reducible refine wpSeq_boxW 62 (.tmp 0) [.string ks,.bool true,.slice ad n c] ?_ ?_ ?_ ?_
      · rfl
      · rfl
      · rfl
      intro g1 y1 nn;have c1:y1.cell? ⟨g1,1,none⟩ = some (.bool true):=nn.blk.cell 1;have c2:y1.cell? ⟨g1,2,none⟩ = some (.slice ad n c):=nn.blk.cell 2;have HB:Hid (Below w.heap.size w y1):=nn.below;clear nn))
  go_ret
  exact ⟨rfl,HB.out⟩
 | false =>
  rw [if_neg Bool.false_ne_true]
  have q:decide (n = 0) = ((n:Int) == 0):=by rw [Bool.eq_iff_iff,beq_iff_eq,decide_eq_true_eq];omega
  rw [q]
  clear q
  go_enter Tryz.func37,Tryz.ntmps37
  have tk0:Hid True:=trivial
  go_wp2_with (first
   | (clear tk0;with_reducible refine wpSeq_boxW 62 (.tmp 0) [.string ks,.bool false,.slice ad n c] ?_ ?_ ?_ ?_
      · rfl
      · rfl
      · rfl
      intro g1 y1 nn;have c1:y1.cell? ⟨g1,1,none⟩ = some (.bool false):=nn.blk.cell 1;have c2:y1.cell? ⟨g1,2,none⟩ = some (.slice ad n c):=nn.blk.cell 2;have HB:Hid (Below w.heap.size w y1):=nn.below;clear nn))
  go_ret
  exact ⟨rfl,HB.out⟩
theorem goodF_bad {l:List ActT} {i:Nat} (h:goodF [] (l.take (i + 1)) = false):goodF [] l = false:=by
 have e:l = l.take (i + 1) ++ l.drop (i + 1):=(List.take_append_drop _ _).symm
 rw [e]
 exact goodF_false _ _ _ h
theorem goodF_step {l:List ActT} {i:Nat} (hi:i < l.length) (h:goodF [] (l.take i) = true):goodF [] (l.take (i + 1)) = (ltB (lastK [] (l.take i)) (l.getD i ⟨[],false,[]⟩).key && okA (l.getD i ⟨[],false,[]⟩)):=by
 rw [take_act hi,goodF_snoc,h,Bool.true_and]
theorem lastK_step {l:List ActT} {i:Nat} (hi:i < l.length):lastK [] (l.take (i + 1)) = (l.getD i ⟨[],false,[]⟩).key:=by rw [take_act hi,lastK_snoc]
theorem sCheck_any (v:Value) (l:List ActT) (w:World) (hr:ReadsA w v l) (hl:l.length < 4611686018427387904):Calls Tryz.prog 11 #[v] w fun e w' => e = .returned (.int .i64 (chkL l)) ∧ Below w.heap.size w w':=by
 have HR:Hid (ReadsA w v l):=hr
 obtain ⟨n,HN⟩:=sqn (l.length)
 obtain ⟨ad,c,hv⟩:=hr.form
 rw [← HN.out] at hv
 subst hv
 obtain ⟨X,HX⟩:=sqn (chkL l)
 rw [← HX.out]
 have HLN:Hid (n < 4611686018427387904):=by rw [HN.out];exact hl
 clear hr hl
 by_cases h4:4096 < n
 · have q1:(4096:Int) < (n:Int):=by omega
   obtain rfl:X = 1:=by rw [HX.out,chkL,if_neg (fun h => by have:=HN.out;omega)]
   go_enter Tryz.func11,Tryz.ntmps11
   go_wp2;go_ret;exact ⟨rfl,Below.refl _ _⟩
 have q1:¬ ((4096:Int) < (n:Int)):=by omega
 have H4:Hid (n ≤ 4096):=by show _ ≤ _;omega
 clear h4
 have HDM:Hid (∀ (W:World) (a:ActT) (vd:Value),Reads W vd a.data → Calls Tryz.prog 37 #[.agg (actC a vd).toArray] W fun e w' => e = .returned (.bool (mayD a)) ∧ Below W.heap.size W w'):=fun W a vd h => sDataMay_any a vd W h
 have he0:(⟨#[]⟩:ByteArray) = strB (lastK [] (l.take 0)):=by rfl
 go_enter Tryz.func11,Tryz.ntmps11
 go_wp2
 clear q1
 go_loopw [3,11] (fun lv iv W => ∃ (i:Nat) (ls:ByteArray),i ≤ n ∧ iv = .int .i64 (i:Int) ∧ lv = .string ls ∧ Hid (ls = strB (lastK [] (l.take i))) ∧ Hid (goodF [] (l.take i) = true) ∧ Hid (Below w.heap.size w W)) (fun _ iv _ => n - (intOf iv).toNat)
 case atStart => exact ⟨0,⟨#[]⟩,Nat.zero_le _,rfl,rfl,he0,rfl,Below.refl _ _⟩
 case round =>
  clear he0
  obtain ⟨i,ls,hi,rfl,rfl,HLS,HGF,HBW⟩:=hrel
  by_cases hin:i < n
  case neg =>
   have hlk:¬ ((i:Int) < (n:Int)):=by omega
   obtain rfl:X = 0:=by
    have h:=HGF.out;rw [List.take_of_length_le (by rw [← HN.out];omega)] at h
    rw [HX.out,chkL,if_pos ⟨by rw [← HN.out];exact H4.out,h⟩]
   go_wp2;go_ret;exact ⟨rfl,HBW.out⟩
  case pos =>
   have hlk:(i:Int) < (n:Int):=by omega
   have f1:IntKind.i64.wrap ((i:Int) + 1) = (i:Int) + 1:=by rw [IntKind.wrap_i64];have:=H4.out;omega
   have HIN:Hid (i < n):=hin;have hil:i < l.length:=by rw [← HN.out];exact hin
   obtain ⟨b,off,vd,rfl,hrg,hrd⟩:=(HR.out.below HBW.out).at hil;have hst:=goodF_step hil HGF.out;have hlt:=lastK_step hil;obtain ⟨a,HA⟩:∃ a,Hid (a = l.getD i ⟨[],false,[]⟩):=⟨_,rfl⟩;rw [← HA.out] at hrg hrd hst hlt;obtain ⟨ks,HKS⟩:=sqn (strB a.key);obtain ⟨st,HST⟩:=sqn (a.set);obtain ⟨av,nv,cv,hvd⟩:=hrd.form;subst hvd;have HCE:Hid (actC a (.slice av nv cv) = [.string ks,.bool st,.slice av nv cv]):=by show _ = _;rw [actC,HKS.out,HST.out]
   rw [HCE.out] at hrg;have HRG:Hid (wr.rangeAt b (off + i * 3) [.string ks,.bool st,.slice av nv cv]):=hrg;have HRD:Hid (Reads wr (.slice av nv cv) a.data):=hrd;obtain ⟨kn,HKN⟩:=sqn (a.key.length);have hsz:ks.size = kn:=by rw [HKS.out,strB_size,HKN.out]
   obtain ⟨md,HMD⟩:=sqn (mayD a)
   replace HDM:Hid (∀ (W:World),Reads W (.slice av nv cv) a.data → Calls Tryz.prog 37 #[.agg [.string ks,.bool st,.slice av nv cv].toArray] W fun e w' => e = .returned (.bool md) ∧ Below W.heap.size W w'):=fun W h => by
    have h1:=HDM.out W a _ h;rw [HCE.out,← HMD.out] at h1;exact h1
   obtain ⟨lt,HLT⟩:=sqn (ltB (lastK [] (l.take i)) a.key);have HLE:Hid ((Op.bytesLess ks.toList ls.toList || (ks.toList == ls.toList)) = !lt):=by show _ = _;rw [HKS.out,HLS.out,leq_str,HLT.out]
   have HST2:Hid (goodF [] (l.take (i + 1)) = (lt && (decide (kn ≤ 64) && md))):=by show _ = _;rw [hst,okA_may,HLT.out,HKN.out,HMD.out]
   have HLK2:Hid (ks = strB (lastK [] (l.take (i + 1)))):=by show _ = _;rw [hlt,HKS.out]
   have HBAD:Hid (goodF [] (l.take (i + 1)) = false → X = 1):=fun h => by rw [HX.out,chkL,if_neg (fun h2 => by rw [goodF_bad h] at h2;cases h2.2)]
   clear hrg hrd hst hlt hil
   cases lt with
   | false =>
    replace HLE:Hid ((Op.bytesLess ks.toList ls.toList || (ks.toList == ls.toList)) = true):=HLE.out;obtain rfl:X = 1:=HBAD.out (by rw [HST2.out];rfl)
    obtain ⟨tk0,tk1,tk2,tk3,tk4⟩:=sqk5
    go_wp2_with (first
     | (clear tk0;with_reducible refine wpSeq_idxA (.tmp 9) (.tmp 11) b off n c i HIN.out ?_ ?_ ?_ ?_ ?_
        · rfl
        · rfl
        · rfl
        · rfl)
     | (clear tk1;with_reducible refine wpSeq_loadW 62 (.tmp 13) b (off + i * 3) [.string ks,.bool st,.slice av nv cv] _ HRG.out Tryz.underlying62 rfl (info_act15 _ _ _) ?_ ?_ ?_ ?_
        · rfl
        · rfl
        · rfl)
     | (clear tk2;with_reducible refine wpSeq_allocA ?_ ?_ ?_
        · rfl
        · rfl
        intro g5 y1 nn;have HG5:Hid (Blk y1 g5 zA 62 ∧ wr.heap.size ≤ g5):=⟨nn.blk,nn.ge⟩;have HB1:Hid (Below wr.heap.size wr y1):=nn.below;clear nn)
     | (clear tk3;with_reducible refine wpSeq_storeRow 62 (.tmp 5) (.tmp 14) g5 zA [.string ks,.bool st,.slice av nv cv] HG5.out.1 rfl (info_act15 _ _ _) (one_act _ _ _ _ _) ?_ ?_ ?_ ?_ ?_
        · rfl
        · rfl
        · rfl
        · rfl
        intro y2 hset;have c0:y2.cell? ⟨g5,0,none⟩ = some (.string ks):=hset.blk.cell 0;have HB2:Hid (Below w.heap.size w y2):=HBW.out.trans ((HB1.out.trans (hset.only.below HG5.out.2 HB1.out.size)).mono HBW.out.size);clear hset)
     | (clear tk4;with_reducible refine wpSeq_sLe ks ls true (.tmp 16) (.tmp 17) HLE.out ?_ ?_ ?_ ?_ ?_
        · rfl
        · rfl
        · rfl
        · rfl))
    go_ret;exact ⟨rfl,HB2.out⟩
   | true =>
    replace HLE:Hid ((Op.bytesLess ks.toList ls.toList || (ks.toList == ls.toList)) = false):=HLE.out
    by_cases hk:kn ≤ 64
    case neg =>
     obtain rfl:X = 1:=HBAD.out (by rw [HST2.out,decide_eq_false hk];rfl)
     have q2:(64:Int) < (kn:Int):=by omega
     obtain ⟨tk0,tk1,tk2,tk3,tk4⟩:=sqk5
     go_wp2_with (first
      | (clear tk0;with_reducible refine wpSeq_idxA (.tmp 9) (.tmp 11) b off n c i HIN.out ?_ ?_ ?_ ?_ ?_
         · rfl
         · rfl
         · rfl
         · rfl)
      | (clear tk1;with_reducible refine wpSeq_loadW 62 (.tmp 13) b (off + i * 3) [.string ks,.bool st,.slice av nv cv] _ HRG.out Tryz.underlying62 rfl (info_act15 _ _ _) ?_ ?_ ?_ ?_
         · rfl
         · rfl
         · rfl)
      | (clear tk2;with_reducible refine wpSeq_allocA ?_ ?_ ?_
         · rfl
         · rfl
         intro g5 y1 nn;have HG5:Hid (Blk y1 g5 zA 62 ∧ wr.heap.size ≤ g5):=⟨nn.blk,nn.ge⟩;have HB1:Hid (Below wr.heap.size wr y1):=nn.below;clear nn)
      | (clear tk3;with_reducible refine wpSeq_storeRow 62 (.tmp 5) (.tmp 14) g5 zA [.string ks,.bool st,.slice av nv cv] HG5.out.1 rfl (info_act15 _ _ _) (one_act _ _ _ _ _) ?_ ?_ ?_ ?_ ?_
         · rfl
         · rfl
         · rfl
         · rfl
         intro y2 hset;have c0:y2.cell? ⟨g5,0,none⟩ = some (.string ks):=hset.blk.cell 0;have HB2:Hid (Below w.heap.size w y2):=HBW.out.trans ((HB1.out.trans (hset.only.below HG5.out.2 HB1.out.size)).mono HBW.out.size);clear hset)
      | (clear tk4;with_reducible refine wpSeq_sLe ks ls false (.tmp 16) (.tmp 17) HLE.out ?_ ?_ ?_ ?_ ?_
         · rfl
         · rfl
         · rfl
         · rfl))
     go_ret;exact ⟨rfl,HB2.out⟩
    case pos =>
     have q2:¬ ((64:Int) < (kn:Int)):=by omega
     have HG2:Hid (goodF [] (l.take (i + 1)) = md):=by show _ = _;rw [HST2.out,decide_eq_true hk];simp
     have HRW:Hid (∀ W,Below wr.heap.size wr W → Reads W (.slice av nv cv) a.data):=fun W h => HRD.out.below h
     obtain ⟨tk0,tk1,tk2,tk3,tk4,tk5,tk6⟩:=sqk7
     go_wp2_with (first
      | (clear tk0;with_reducible refine wpSeq_idxA (.tmp 9) (.tmp 11) b off n c i HIN.out ?_ ?_ ?_ ?_ ?_
         · rfl
         · rfl
         · rfl
         · rfl)
      | (clear tk1;with_reducible refine wpSeq_loadW 62 (.tmp 13) b (off + i * 3) [.string ks,.bool st,.slice av nv cv] _ HRG.out Tryz.underlying62 rfl (info_act15 _ _ _) ?_ ?_ ?_ ?_
         · rfl
         · rfl
         · rfl)
      | (clear tk2;with_reducible refine wpSeq_allocA ?_ ?_ ?_
         · rfl
         · rfl
         intro g5 y1 nn;have HG5:Hid (Blk y1 g5 zA 62 ∧ wr.heap.size ≤ g5):=⟨nn.blk,nn.ge⟩;have HB1:Hid (Below wr.heap.size wr y1):=nn.below;clear nn)
      | (clear tk3;with_reducible refine wpSeq_storeRow 62 (.tmp 5) (.tmp 14) g5 zA [.string ks,.bool st,.slice av nv cv] HG5.out.1 rfl (info_act15 _ _ _) (one_act _ _ _ _ _) ?_ ?_ ?_ ?_ ?_
         · rfl
         · rfl
         · rfl
         · rfl
         intro y2 hset;have HK5:Hid (Blk y2 g5 [.string ks,.bool st,.slice av nv cv] 62):=hset.blk;have c0:y2.cell? ⟨g5,0,none⟩ = some (.string ks):=hset.blk.cell 0;have HB3:Hid (Below wr.heap.size wr y2):=HB1.out.trans (hset.only.below HG5.out.2 HB1.out.size);have HB2:Hid (Below w.heap.size w y2):=HBW.out.trans (HB3.out.mono HBW.out.size);clear hset)
      | (clear tk4;with_reducible refine wpSeq_sLe ks ls false (.tmp 16) (.tmp 17) HLE.out ?_ ?_ ?_ ?_ ?_
         · rfl
         · rfl
         · rfl
         · rfl)
      | (clear tk5;with_reducible refine wpSeq_loadW 62 (.tmp 5) g5 0 [.string ks,.bool st,.slice av nv cv] _ (Blk.range HK5.out) Tryz.underlying62 rfl (info_act15 _ _ _) ?_ ?_ ?_ ?_
         · rfl
         · rfl
         · rfl)
      | (clear tk6;go_at_call 37;refine (HDM.out _ (HRW.out _ HB3.out)).mono ?_;rintro e0 y3 ⟨rfl,hz⟩
         replace c0:y3.cell? ⟨g5,0,none⟩ = some (.string ks):=(HK5.out.below hz HK5.out.lt).cell 0;replace HB2:=sqt HB2 hz;clear hz
         cases md))
     · obtain rfl:X = 1:=HBAD.out HG2.out
       go_ret;exact ⟨rfl,HB2.out⟩
     · go_roundw
       case rel => exact ⟨i + 1,ks,by omega,by simp,rfl,HLK2,HG2,HB2⟩
       case measure => simp [intOf];omega
theorem enc_len (n:Nat) (k:Nat) (h:n < 128 ^ (k + 1)):(encNum n).length ≤ k + 1:=by
 induction k generalizing n with
 | zero => rw [encNum_lt (by simpa using h)];simp
 | succ k ih =>
  by_cases h1:n < 128
  · rw [encNum_lt h1];simp
  · rw [encNum_ge h1,List.length_cons]
    have:=ih (n / 128) (by rw [Nat.pow_succ] at h;omega)
    omega
theorem enc_len10 (n:Nat) (h:n < 18446744073709551616):(encNum n).length ≤ 10:=enc_len n 9 (by omega)
theorem or128 (m:Nat):bits .or .u8 ((m:Int) % 256) 128 = (((BitVec.ofNat 8 (m % 128 + 128)).toNat:Nat):Int):=by
 have key:∀ x:BitVec 8,(x ||| 128#8).toNat = x.toNat % 128 + 128:=by decide
 have e:BitVec.ofInt 8 ((m:Int) % 256) = BitVec.ofNat 8 (m % 256):=by
  rw [show ((m:Int) % 256) = ((m % 256:Nat):Int) by omega,BitVec.ofInt_natCast]
 show IntKind.u8.wrap ((BitVec.ofInt 8 ((m:Int) % 256) ||| BitVec.ofInt 8 128).toNat:Int) = _
 rw [e,show (BitVec.ofInt 8 128:BitVec 8) = 128#8 from rfl,key,BitVec.toNat_ofNat,BitVec.toNat_ofNat]
 simp [IntKind.wrap,IntKind.bits,IntKind.signed]
theorem enc_step {p:List (BitVec 8)} {m n:Nat} (hm:¬ m < 128) (hp:p ++ encNum m = encNum n):(p ++ [BitVec.ofNat 8 (m % 128 + 128)]) ++ encNum (m / 128) = encNum n:=by
 rw [← hp,encNum_ge hm];simp
structure NuInv (base:Nat) (w:World) (l:List (BitVec 8)) (n m:Nat) (p:List (BitVec 8)) (u:Value) (wr:World):Prop where
 own:OwnB wr base u (l ++ p)
 bel:Below base w wr
 eq:p ++ encNum m = encNum n
 lt:m < 18446744073709551616
theorem NuInv.le {base:Nat} {w wr:World} {l p:List (BitVec 8)} {n m:Nat} {u:Value} (h:NuInv base w l n m p u wr) (hn:n < 18446744073709551616):p.length < 10:=by
 have:=enc_len10 n hn
 have h2:=congrArg List.length h.eq
 have h3:=encNum_pos m
 rw [List.length_append] at h2
 omega
theorem cnum_any (base:Nat) (v:Value) (l:List (BitVec 8)) (n:Nat) (hn:n < 18446744073709551616) (w:World) (hown:OwnB w base v l) (hb:base ≤ w.heap.size) (hl:l.length + 10 ≤ 140737488355328) :
 Calls Tryz.prog 72 #[v,.int .u64 (n:Int)] w fun e w' => ∃ v',e = .returned v' ∧ OwnB w' base v' (l ++ encNum n) ∧ Below base w w':=by
 have HO:Hid (OwnB w base v l):=hown
 have HN:Hid (n < 18446744073709551616):=hn
 have HL:Hid (l.length + 10 ≤ 140737488355328):=hl
 have HB:Hid (base ≤ w.heap.size):=hb
 clear hown hn hl hb
 go_enter Tryz.func72,Tryz.ntmps72
 go_wp2
 go_loopw [0,1] (fun u x wr => ∃ (p:List (BitVec 8)) (m:Nat),x = .int .u64 m ∧ NuInv base w l n m p u wr) (fun _ x _ => (intOf x).toNat)
 case atStart => exact ⟨[],n,rfl,by simpa using HO.out,Below.refl _ _,rfl,HN.out⟩
 case round =>
  obtain ⟨p,m,rfl,hI⟩:=hrel
  have HI:Hid (NuInv base w l n m p u0 wr):=hI
  have HP:Hid (p.length < 10):=hI.le HN.out
  have HS:Hid (base ≤ wr.heap.size):=Nat.le_trans HB.out hI.bel.size
  clear hI
  by_cases hlt:m < 128
  · have hge:¬ (128 ≤ (m:Int)):=by omega
    have hx:(m:Int) % 256 = (m:Int):=by omega
    go_wp2_with (at_builtin;refine wpList_appendB rfl (.tmp 15) (.tmp 18) rfl base _ (l ++ p) rfl (HI.out.own.below ((Below.refl _ _).alloc (Nat.le_refl _) _) (Nat.le_refl _)) _ [BitVec.ofNat 8 m] rfl (reads_val wr _ _ ?_) (by have:=HL.out;have:=HP.out;simp;omega) (by have:=HS.out;simp;omega) ?_;simp;omega;intro v2 w2 hown2 hb2 _)
    have HR:Hid (OwnB w2 base v2 (l ++ encNum n)):=by
     rw [← HI.out.eq,encNum_lt hlt,← List.append_assoc];exact hown2
    have hB:Below base w w2:=HI.out.bel.trans (((Below.refl _ _).alloc HS.out _).trans hb2);clear hown2 hb2 HI;go_wp2;go_ret;exact ⟨_,rfl,HR.out,hB⟩
  · have hge:128 ≤ (m:Int):=by omega
    have HLT:Hid (¬ m < 128):=hlt;have hw:IntKind.u64.wrap ((m:Int) / 128) = (m:Int) / 128:=by have:=HI.out.lt;rw [IntKind.wrap_u64];omega
    clear hlt
    go_wp2_with (at_builtin;refine wpList_appendB rfl (.tmp 7) (.tmp 11) rfl base _ (l ++ p) rfl (HI.out.own.below ((Below.refl _ _).alloc (Nat.le_refl _) _) (Nat.le_refl _)) _ [BitVec.ofNat 8 (m % 128 + 128)] rfl (reads_val wr _ _ ?_) (by have:=HL.out;have:=HP.out;simp;omega) (by have:=HS.out;simp;omega) ?_;(go_loud (rw [or128 m]));intro v2 w2 hown2 hb2 _)
    have hJ:NuInv base w l n (m / 128) (p ++ [BitVec.ofNat 8 (m % 128 + 128)]) v2 w2:=⟨by rw [List.append_assoc] at hown2;exact hown2,HI.out.bel.trans (((Below.refl _ _).alloc HS.out _).trans hb2),enc_step HLT.out HI.out.eq,by have:=HI.out.lt;omega⟩
    clear hown2 hb2 HI;go_wp2;go_roundw
    case rel => exact ⟨_,m / 128,by simp,hJ⟩
    case measure => simp [intOf];omega
theorem qnum_any (n:Nat) (hn:n < 18446744073709551616) (w:World) :
 Calls Tryz.prog 47 #[.int .u64 (n:Int)] w fun e w' => ∃ v',e = .returned v' ∧ OwnB w' w.heap.size v' (encNum n) ∧ Below w.heap.size w w':=by
 have HN:Hid (n < 18446744073709551616):=hn
 clear hn
 go_enter Tryz.func47,Tryz.ntmps47
 go_wp2
 go_loopw [0,3] (fun x u wr => ∃ (p:List (BitVec 8)) (m:Nat),x = .int .u64 m ∧ NuInv w.heap.size w [] n m p u wr) (fun x _ _ => (intOf x).toNat)
 case atStart => exact ⟨[],n,rfl,OwnB.nil _ _,Below.refl _ _,rfl,HN.out⟩
 case round =>
  obtain ⟨p,m,rfl,hI⟩:=hrel
  have HI:Hid (NuInv w.heap.size w [] n m p u3 wr):=hI
  have HP:Hid (p.length < 10):=hI.le HN.out
  have HS:Hid (w.heap.size ≤ wr.heap.size):=hI.bel.size
  clear hI
  by_cases hlt:m < 128
  · have hge:¬ (127 < (m:Int)):=by omega
    have hx:(m:Int) % 256 = (m:Int):=by omega
    go_wp2_with (at_builtin;refine wpList_appendB rfl (.tmp 15) (.tmp 18) rfl w.heap.size _ p rfl (HI.out.own.below ((Below.refl _ _).alloc (Nat.le_refl _) _) (Nat.le_refl _)) _ [BitVec.ofNat 8 m] rfl (reads_val wr _ _ ?_) (by have:=HP.out;simp;omega) (by have:=HS.out;simp;omega) ?_;simp;omega;intro v2 w2 hown2 hb2 _)
    have HR:Hid (OwnB w2 w.heap.size v2 (encNum n)):=by
     rw [← HI.out.eq,encNum_lt hlt];exact hown2
    have hB:Below w.heap.size w w2:=HI.out.bel.trans (((Below.refl _ _).alloc HS.out _).trans hb2);clear hown2 hb2 HI;go_wp2;go_ret;exact ⟨_,rfl,HR.out,hB⟩
  · have hge:127 < (m:Int):=by omega
    have HLT:Hid (¬ m < 128):=hlt;have hw:IntKind.u64.wrap ((m:Int) / 128) = (m:Int) / 128:=by have:=HI.out.lt;rw [IntKind.wrap_u64];omega
    clear hlt
    go_wp2_with (at_builtin;refine wpList_appendB rfl (.tmp 6) (.tmp 11) rfl w.heap.size _ p rfl (HI.out.own.below ((Below.refl _ _).alloc (Nat.le_refl _) _) (Nat.le_refl _)) _ [BitVec.ofNat 8 (m % 128 + 128)] rfl (reads_val wr _ _ ?_) (by have:=HP.out;simp;omega) (by have:=HS.out;simp;omega) ?_;(rw [BitVec.toNat_ofNat];omega);intro v2 w2 hown2 hb2 _)
    have hJ:NuInv w.heap.size w [] n (m / 128) (p ++ [BitVec.ofNat 8 (m % 128 + 128)]) v2 w2:=⟨hown2,HI.out.bel.trans (((Below.refl _ _).alloc HS.out _).trans hb2),enc_step HLT.out HI.out.eq,by have:=HI.out.lt;omega⟩
    clear hown2 hb2 HI;go_wp2;go_roundw
    case rel => exact ⟨_,m / 128,by simp,hJ⟩
    case measure => simp [intOf];omega
theorem overlaps_no (w:World) (b vb x y m vc lb kb:Nat) (cs vs:List Value) (tA tB:TypeId) (hne:vb ≠ b) (hv:Blk w vb vs tA) (hb:Blk w b cs tB) (hc:cs ≠ []) :
 (callFunc 146 #[.slice (some ⟨vb,x,none⟩) m vc,.slice (some ⟨b,y,none⟩) lb kb]).run Tryz.prog w = .ok (.value (.bool false)) w:=by
 have hz:∀ w,(Go.sizeOf 5).run Tryz.prog w = .ok 1 w:=fun w => by kernel_rfl
 have sa:w.shape? vb = some (tA,vs.length):=by have h:=hv;unfold Blk at h;simp [World.shape?,h]
 have sb:w.shape? b = some (tB,cs.length):=by have h:=hb;unfold Blk at h;simp [World.shape?,h]
 rw [run_callFunc_extern Tryz.func146 (by kernel_rfl) (by kernel_rfl) (by kernel_rfl) (e:=Extern.SlicesOverlaps.overlaps #[23,23] #[4]) (by kernel_rfl),
  Lib.run_overlaps_apart w 23 4 5 Tryz.underlying23 1 hz ⟨vb,x,none⟩ ⟨b,y,none⟩ m vc lb kb hne tA tB vs.length cs.length sa sb (by simpa using hc) (hv.frozen _) (hv.frozen _)]
 rfl
theorem ins_shift (b n c i vb m vc:Nat) (cs vs cur vcur:List Value) (w:World) (hi:i < n) (hm:0 < m) (hroom:n + m ≤ c) (hc63:c ≤ 9223372036854775807) (hvb:vb ≠ b)
 (hcl:cs.length = n) (hvl:vs.length = m) (hB:Blk w b cur 5) (hV:Blk w vb vcur 5) (hcap:cur.length = c) (hcs:cur.take n = cs) (hvs:vcur.take m = vs) (h1c:∀ v ∈ cs,v.oneCell' = true) (h1v:∀ v ∈ vs,v.oneCell' = true) :
 Calls Tryz.prog 122 #[.slice (some ⟨b,0,none⟩) n c,.int .i64 i,.slice (some ⟨vb,0,none⟩) m vc] w fun e w' =>
  e = .returned (.slice (some ⟨b,0,none⟩) (n + m) c) ∧ w' = (w.drew.setCells b (i + m) (cs.drop i)).setCells b i vs:=by
 have mixed:Tryz.prog.follows Departure.mixedOrders = true:=by kernel_rfl
 have hz1:¬ ((m:Int) = 0):=by omega
 have hz2:¬ ((i:Int) = (n:Int)):=by omega
 have hsz:(Tryz.prog.info? 5).map (·.size) = some 1:=by kernel_rfl
 have hov:∀ lb kb,(callFunc 146 #[.slice (some ⟨vb,0,none⟩) m vc,.slice (some ⟨b,i + m,none⟩) lb kb]).run Tryz.prog w = .ok (.value (.bool false)) w:=fun lb kb => overlaps_no w b vb 0 (i + m) m vc lb kb cur vcur _ _ hvb hV hB (by intro h;subst h;simp at hcap;omega)
 have hdl:(cs.drop i).length = n - i:=by rw [List.length_drop,hcl]
 have hcc:∀ j v,cs[j]? = some v → w.cell? ⟨b,j,none⟩ = some v:=fun j v hj => by
  rw [hB.cell,← hj,← hcs,List.getElem?_take_of_lt (by have:=(List.getElem?_eq_some_iff.1 hj).1;omega)]
 have hvv:∀ j v,vs[j]? = some v → w.cell? ⟨vb,j,none⟩ = some v:=fun j v hj => by
  rw [hV.cell,← hj,← hvs,List.getElem?_take_of_lt (by have:=(List.getElem?_eq_some_iff.1 hj).1;omega)]
 have hsp:∀ j,j < n + m → (w.cell? ⟨b,j,none⟩).isSome = true:=fun j hj => by rw [hB.cell,List.getElem?_eq_getElem (by omega)];rfl
 have hfz:∀ j,w.frozen? ⟨b,j,none⟩ = false:=fun j => hB.frozen j
 have hw1:IntKind.i64.wrap ((i:Int) + (m:Int)) = (i:Int) + (m:Int):=by rw [IntKind.wrap_i64];omega
 have hb1:(0:Int) ≤ (i:Int) + (m:Int):=by omega
 have hin:i ≤ n:=by omega
 have htn:((i:Int) + (m:Int)).toNat = i + m:=by omega
 have hb2:¬ (c = i + m):=by omega
 have hb3:(i:Int) ≤ (n:Int) + (m:Int):=by omega
 have hb4:¬ (c = i):=by omega
 have hcp1:∀ ty dc sc,(Builtin.copy_ #[23,23] ty #[.slice (some ⟨b,i + m,none⟩) (n + m - (i + m)) dc,.slice (some ⟨b,i,none⟩) (n + m - i) sc]).run Tryz.prog w.drew = .ok (goInt (cs.drop i).length) (w.drew.setCells b (i + m) (cs.drop i)):=fun ty dc sc =>
  run_copy_cells w.drew _ _ ty 5 b (i + m) (n + m - (i + m)) dc ⟨b,i,none⟩ (n + m - i) sc (cs.drop i) Tryz.underlying23 hsz (by rw [hdl];simp only [Nat.min_def];split <;> omega)
   (fun j v hj => by rw [Addr.add_lit];exact hcc (i + j) v (by rwa [List.getElem?_drop] at hj))
   (fun j hj => hsp _ (by omega)) (fun j hj => hfz _) (fun v hv => h1c v (List.mem_of_mem_drop hv))
 obtain ⟨W1,hW1⟩:∃ W1,W1 = w.drew.setCells b (i + m) (cs.drop i):=⟨_,rfl⟩
 have hsp1:∀ k,k < n + m → (W1.cell? ⟨b,k,none⟩).isSome = true:=fun k hk => by
  rw [hW1]
  exact isSome_setCells b (cs.drop i) (i + m) w.drew (fun j hj => hsp (i + m + j) (by omega)) k (hsp k hk)
 have hcp2:∀ (W:World),(∀ x,W.cell? x = W1.cell? x) → (∀ x,W.frozen? x = W1.frozen? x) → ∀ ty dc,(Builtin.copy_ #[23,23] ty #[.slice (some ⟨b,i,none⟩) (n + m - i) dc,.slice (some ⟨vb,0,none⟩) m vc]).run Tryz.prog W = .ok (goInt vs.length) (W.setCells b i vs):=fun W hWc hWf ty dc =>
  run_copy_cells W _ _ ty 5 b i (n + m - i) dc ⟨vb,0,none⟩ m vc vs Tryz.underlying23 hsz (by rw [hvl];simp only [Nat.min_def];split <;> omega)
   (fun j v hj => by
     rw [Addr.add_lit,hWc,hW1,World.cell?_setCells_out b _ _ _ _ (fun h _ => absurd h hvb),Nat.zero_add]
     exact hvv j v hj)
   (fun j hj => by rw [hWc];exact hsp1 _ (by omega)) (fun j hj => by rw [hWf,hW1,World.frozen?_setCells];exact hfz _) h1v
 rw [← hW1] at hcp1
 clear hcs hvs
 go_enter Tryz.func122,Tryz.ntmps122
 go_wp2_with (simp only [hov])
 go_region_law_o (refine step_copy_runI rfl _ _ 23 23 rfl _ _ (by simp [Act.eval,Act.put]) (by simp [Act.eval,Act.put]) (hcp1 _ _ _) ?_)
 go_wp2_with (at_builtin;refine wpList_copy_runI _ rfl _ _ 23 23 rfl _ _ rfl rfl (hcp2 _ (fun _ => rfl) (fun _ => rfl) _ _) ?_)
 go_ret
 first | exact ⟨rfl,rfl⟩ | exact ⟨rfl,by rw [hW1]⟩
theorem ins_grow (b n c i vb m vc:Nat) (cs vs cur vcur:List Value) (w:World) (hi:i < n) (hm:0 < m) (hnc:n ≤ c) (hroom:c < n + m) (hbig:n + m ≤ 140737488355328)
 (hcl:cs.length = n) (hvl:vs.length = m) (hB:Blk w b cur 5) (hV:Blk w vb vcur 5) (hcs:cur.take n = cs) (hvs:vcur.take m = vs) (h1c:∀ v ∈ cs,v.oneCell' = true) (h1v:∀ v ∈ vs,v.oneCell' = true) :
 Calls Tryz.prog 122 #[.slice (some ⟨b,0,none⟩) n c,.int .i64 i,.slice (some ⟨vb,0,none⟩) m vc] w fun e w' =>
  ∃ (G:Nat) (row:List Value),e = .returned (.slice (some ⟨w.heap.size,0,none⟩) (n + m) G) ∧ n + m ≤ G ∧ G ≤ maxLen ∧ row.length = G ∧ row.take i = cs.take i ∧
  w' = (((w.alloc (.cells row.toArray 5)).drew.setCells w.heap.size i vs).drew).setCells w.heap.size (i + m) (cs.drop i):=by
 have mixed:Tryz.prog.follows Departure.mixedOrders = true:=by kernel_rfl
 obtain ⟨i0,hi0,hz0,hzs,hzb⟩:=info_parts Tryz.infob
 have hz1:¬ ((m:Int) = 0):=by omega
 have hz2:¬ ((i:Int) = (n:Int)):=by omega
 have hz3:(c:Int) < (n:Int) + (m:Int):=by omega
 have hsz:(Tryz.prog.info? 5).map (·.size) = some 1:=by kernel_rfl
 have hcc:∀ j v,cs[j]? = some v → w.cell? ⟨b,j,none⟩ = some v:=fun j v hj => by
  rw [hB.cell,← hj,← hcs,List.getElem?_take_of_lt (by have:=(List.getElem?_eq_some_iff.1 hj).1;omega)]
 have hvv:∀ j v,vs[j]? = some v → w.cell? ⟨vb,j,none⟩ = some v:=fun j v hj => by
  rw [hV.cell,← hj,← hvs,List.getElem?_take_of_lt (by have:=(List.getElem?_eq_some_iff.1 hj).1;omega)]
 have hbw:b < w.heap.size:=hB.lt
 have hvw:vb < w.heap.size:=hV.lt
 have hkk:(n:Int) + (m:Int) - (i:Int) = ((n + m - i:Nat):Int):=by omega
 have hik:i + (n + m - i) = n + m:=by omega
 have hold:(Builtin.firstCells i0.size i (.slice (some ⟨b,0,none⟩) i c)).run Tryz.prog w.drew = .ok (cs.take i).toArray w.drew:=by
  rw [hzs]
  exact run_firstCells_some w.drew 1 i ⟨b,0,none⟩ i c (cs.take i) (by rw [List.length_take];omega) (fun j v hj => by
   rw [Addr.add_lit,Nat.zero_add];rw [List.getElem?_take] at hj
   split at hj
   · exact hcc j v hj
   · cases hj)
 have hrz:∀ ty,(Builtin.append_ #[23,3] ty #[.slice (some ⟨b,0,none⟩) i c,.int .i64 ((n:Int) + (m:Int) - (i:Int))]).run Tryz.prog w =
  .ok (.slice (some ⟨w.heap.size,0,none⟩) (n + m) (grownCap w (n + m) c 5)) (w.drew.alloc (.cells ((cs.take i).toArray ++ Builtin.zeroCells (Value.int .u8 0).cells (n + m - i) ++ Builtin.zeroCells (Value.int .u8 0).cells (grownCap w (n + m) c 5 - (n + m))) 5)):=fun ty => by
  have h:=Lib.run_append_grow_zeros w 23 3 ty 5 i0 _ .i64 .i64 Tryz.underlying23 Tryz.underlying3 hi0 hz0 (some ⟨b,0,none⟩) i c (cs.take i) hold (n + m - i) (by omega) (by omega) (by omega) (by omega) (by rw [hzb];omega) (by rw [hzb,hik];exact growslice_fits hroom (by omega))
  rw [hik] at h
  rw [hkk]
  exact h
 obtain ⟨G,hG⟩:∃ G,G = grownCap w (n + m) c 5:=⟨_,rfl⟩
 have hGn:n + m ≤ G:=by rw [hG];exact grownCap_ge w _ _ _
 have hGm:G ≤ maxLen:=by rw [hG];exact grownCap_le_maxLen w (n + m) c 5 (by unfold maxLen;omega)
 obtain ⟨ROW,hROW⟩:∃ ROW:Array Value,ROW = (cs.take i).toArray ++ Builtin.zeroCells (Value.int .u8 0).cells (n + m - i) ++ Builtin.zeroCells (Value.int .u8 0).cells (G - (n + m)):=⟨_,rfl⟩
 rw [← hG] at hrz
 rw [← hROW] at hrz
 have hRs:ROW.size = G:=by
  have hzc:∀ k,(Builtin.zeroCells (Value.int .u8 0).cells k).size = k:=fun k => by simp [Builtin.zeroCells,Value.cells]
  rw [hROW,Array.size_append,Array.size_append,hzc,hzc,List.size_toArray,List.length_take]
  omega
 have hRt:ROW.toList.take i = cs.take i:=by
  rw [hROW]
  simp only [Array.toList_append,List.append_assoc]
  rw [List.take_append_of_le_length (by rw [List.length_take];omega),List.take_take,Nat.min_self]
 obtain ⟨W1,hW1⟩:∃ W1,W1 = w.drew.alloc (.cells ROW 5):=⟨_,rfl⟩
 rw [← hW1] at hrz
 have hN:∀ j,j < n + m → (W1.cell? ⟨w.heap.size,j,none⟩).isSome = true:=fun j hj => by
  rw [hW1,World.cell?_alloc_at (w:=w.drew) ROW _ w.heap.size j rfl,Array.getElem?_eq_getElem (by omega)];rfl
 have hNf:∀ j,W1.frozen? ⟨w.heap.size,j,none⟩ = false:=fun j => by rw [hW1];exact World.frozen?_alloc_at (w:=w.drew) ROW _ w.heap.size j rfl
 have hOb:∀ j v,w.cell? ⟨b,j,none⟩ = some v → W1.cell? ⟨b,j,none⟩ = some v:=fun j v h => by rw [hW1,World.cell?_alloc_past (w:=w.drew) _ b j hbw];exact h
 have hOv:∀ j v,w.cell? ⟨vb,j,none⟩ = some v → W1.cell? ⟨vb,j,none⟩ = some v:=fun j v h => by rw [hW1,World.cell?_alloc_past (w:=w.drew) _ vb j hvw];exact h
 have hcpA:∀ (W:World),(∀ x,W.cell? x = W1.cell? x) → (∀ x,W.frozen? x = W1.frozen? x) → ∀ ty dc,(Builtin.copy_ #[23,23] ty #[.slice (some ⟨w.heap.size,i,none⟩) (n + m - i) dc,.slice (some ⟨vb,0,none⟩) m vc]).run Tryz.prog W = .ok (goInt vs.length) (W.setCells w.heap.size i vs):=fun W hWc hWf ty dc =>
  run_copy_cells W _ _ ty 5 w.heap.size i (n + m - i) dc ⟨vb,0,none⟩ m vc vs Tryz.underlying23 hsz (by rw [hvl];simp only [Nat.min_def];split <;> omega)
   (fun j v hj => by rw [Addr.add_lit,hWc,Nat.zero_add];exact hOv _ v (hvv j v hj))
   (fun j hj => by rw [hWc];exact hN _ (by omega)) (fun j hj => by rw [hWf];exact hNf _) h1v
 have hG63:G ≤ 9223372036854775807:=by unfold maxLen at hGm;omega
 have hGi:¬ (G = i):=by omega
 have hGim:¬ (G = i + m):=by omega
 have hci:¬ (c = i):=by omega
 have hbN:b ≠ w.heap.size:=by omega
 have hdl:(cs.drop i).length = n - i:=by rw [List.length_drop,hcl]
 have hcpB:∀ (W:World),(∀ x,W.cell? x = (W1.setCells w.heap.size i vs).cell? x) → (∀ x,W.frozen? x = (W1.setCells w.heap.size i vs).frozen? x) → ∀ ty dc sc,(Builtin.copy_ #[23,23] ty #[.slice (some ⟨w.heap.size,i + m,none⟩) (n + m - (i + m)) dc,.slice (some ⟨b,i,none⟩) (n - i) sc]).run Tryz.prog W = .ok (goInt (cs.drop i).length) (W.setCells w.heap.size (i + m) (cs.drop i)):=fun W hWc hWf ty dc sc =>
  run_copy_cells W _ _ ty 5 w.heap.size (i + m) (n + m - (i + m)) dc ⟨b,i,none⟩ (n - i) sc (cs.drop i) Tryz.underlying23 hsz (by rw [hdl];simp only [Nat.min_def];split <;> omega)
   (fun j v hj => by
     rw [Addr.add_lit,hWc,World.cell?_setCells_out _ _ _ _ _ (fun h _ => absurd h hbN)]
     exact hOb _ v (hcc (i + j) v (by rwa [List.getElem?_drop] at hj)))
   (fun j hj => by rw [hWc];exact isSome_setCells _ _ _ _ (fun t ht => hN _ (by omega)) _ (hN _ (by omega)))
   (fun j hj => by rw [hWf,World.frozen?_setCells];exact hNf _) (fun v hv => h1c v (List.mem_of_mem_drop hv))
 subst hW1
 have hE1:∀ x,((w.alloc (.cells ROW 5)).drew).cell? x = (w.drew.alloc (.cells ROW 5)).cell? x:=fun x => rfl
 have hE2:∀ x,((w.alloc (.cells ROW 5)).drew).frozen? x = (w.drew.alloc (.cells ROW 5)).frozen? x:=fun x => rfl
 have hF1:∀ x,(((w.alloc (.cells ROW 5)).drew.setCells w.heap.size i vs).drew).cell? x = ((w.drew.alloc (.cells ROW 5)).setCells w.heap.size i vs).cell? x:=fun x => rfl
 have hF2:∀ x,(((w.alloc (.cells ROW 5)).drew.setCells w.heap.size i vs).drew).frozen? x = ((w.drew.alloc (.cells ROW 5)).setCells w.heap.size i vs).frozen? x:=fun x => rfl
 have hw1:IntKind.i64.wrap ((i:Int) + (m:Int)) = (i:Int) + (m:Int):=by rw [IntKind.wrap_i64];omega
 have hb1:(0:Int) ≤ (i:Int) + (m:Int):=by omega
 have hin:i ≤ n:=by omega
 have htn:((i:Int) + (m:Int)).toNat = i + m:=by omega
 have hb3:(i:Int) ≤ (n:Int):=by omega
 have HRR:Hid (ROW.size = G ∧ ROW.toList.take i = cs.take i):=⟨hRs,hRt⟩
 clear hkk hik hold hROW hG hRs hRt hcs hvs hi0 hz0 hzs hzb
 go_enter Tryz.func122,Tryz.ntmps122
 go_wp2_with (first
  | (at_builtin;refine Lib.wpList_append_run _ rfl _ _ _ _ rfl _ _ rfl rfl _ _ (hrz _) ?_)
  | (at_builtin;refine wpList_copy_runI _ rfl _ _ 23 23 rfl _ _ rfl rfl (hcpA _ hE1 hE2 _ _) ?_)
  | (at_builtin;refine wpList_copy_runI _ rfl _ _ 23 23 rfl _ _ rfl rfl (hcpB _ (fun _ => rfl) (fun _ => rfl) _ _ _) ?_))
 go_region_law_o (refine step_copy_runI rfl _ _ 23 23 rfl (.slice (some ⟨w.heap.size,i + m,none⟩) (n + m - (i + m)) (G - (i + m))) (.slice (some ⟨b,i,none⟩) (n - i) (c - i)) (by simp [Act.eval,Act.put]) (by simp [Act.eval,Act.put]) (hcpB _ hF1 hF2 3 (G - (i + m)) (c - i)) ?_)
 go_wp2
 go_ret
 exact ⟨G,ROW.toList,rfl,hGn,hGm,by simpa using HRR.out.1,HRR.out.2,rfl⟩
theorem put_two {w:World} {b:Nat} {cur:List Value} {t:TypeId} (hB:Blk w b cur t) (x y:List Value) (i:Nat) (hl:i + x.length + y.length ≤ cur.length) :
 Blk ((w.setCells b (i + x.length) y).setCells b i x) b (cur.take i ++ x ++ y ++ cur.drop (i + x.length + y.length)) t:=by
 have h1:=setCells_eq b y (i + x.length) w cur t hB (by omega)
 have h2:=setCells_eq b x i _ _ t h1 (by simp;omega)
 have e:(cur.take (i + x.length) ++ y ++ cur.drop (i + x.length + y.length)).take i ++ x ++ (cur.take (i + x.length) ++ y ++ cur.drop (i + x.length + y.length)).drop (i + x.length) = cur.take i ++ x ++ y ++ cur.drop (i + x.length + y.length):=by
  have e1:(cur.take (i + x.length)).length = i + x.length:=by rw [List.length_take];omega
  rw [List.append_assoc (cur.take (i + x.length)),List.take_append_of_le_length (by omega),List.take_take,Nat.min_eq_left (by omega),List.drop_append_of_le_length (by omega),List.drop_of_length_le (by omega),List.nil_append]
  simp
 rw [e] at h2;exact h2
theorem put_two' {w:World} {b:Nat} {cur:List Value} {t:TypeId} (hB:Blk w b cur t) (x y:List Value) (i:Nat) (hl:i + x.length + y.length ≤ cur.length) :
 Blk (((w.setCells b i x).drew).setCells b (i + x.length) y) b (cur.take i ++ x ++ y ++ cur.drop (i + x.length + y.length)) t:=by
 have h1:=setCells_eq b x i w cur t hB (by omega)
 have h2:=setCells_eq b y (i + x.length) _ _ t h1.drew (by simp;omega)
 have e:(cur.take i ++ x ++ cur.drop (i + x.length)).take (i + x.length) ++ y ++ (cur.take i ++ x ++ cur.drop (i + x.length)).drop (i + x.length + y.length) = cur.take i ++ x ++ y ++ cur.drop (i + x.length + y.length):=by
  have e1:(cur.take i ++ x).length = i + x.length:=by rw [List.length_append,List.length_take];omega
  rw [List.take_append_of_le_length (by omega),List.take_of_length_le (by omega),List.drop_append,List.drop_of_length_le (by omega),List.nil_append,e1,List.drop_drop]
  congr 2
  omega
 rw [e] at h2;exact h2
theorem cb_app (a b:List (BitVec 8)):cb (a ++ b) = cb a ++ cb b:=by simp [cb]
theorem cb_drop (a:List (BitVec 8)) (k:Nat):(cb a).drop k = cb (a.drop k):=by simp [cb]
theorem cb_take (a:List (BitVec 8)) (k:Nat):(cb a).take k = cb (a.take k):=by simp [cb]
theorem OwnB.of_blk {w:World} {base b:Nat} {row:List Value} {l:List (BitVec 8)} {c:Nat} (h:Blk w b row 5) (hb:base ≤ b) (hc:row.length = c) (hm:c ≤ maxLen) (hl:l.length ≤ c) (ht:row.take l.length = cb l):OwnB w base (.slice (some ⟨b,0,none⟩) l.length c) l:=
 ⟨by rw [cb_len];omega,Or.inr ⟨b,c,row.toArray,rfl,hb,h,hl,hm,by simpa using hc,by simpa using ht⟩⟩
theorem OwnB.below' {w w':World} {base B:Nat} {v:Value} {l:List (BitVec 8)} (h:OwnB w base v l) (hb:Below B w w') (hB:∀ k,v.ownBlock = some k → k < B):OwnB w' base v l:=by
 obtain ⟨h1,h2⟩:=h
 refine ⟨h1,?_⟩
 rcases h2 with h2 | ⟨g,cap,cur,rfl,hg,hh,r⟩
 · exact Or.inl h2
 · exact Or.inr ⟨g,cap,cur,rfl,hg,by rw [hb.block g (hB g rfl)];exact hh,r⟩
theorem OwnB.lt {w:World} {base:Nat} {v:Value} {l:List (BitVec 8)} (h:OwnB w base v l):∀ k,v.ownBlock = some k → k < w.heap.size:=by
 obtain ⟨h1,h2⟩:=h
 rcases h2 with ⟨rfl,h0⟩ | ⟨g,cap,cur,rfl,hg,hh,_⟩
 · intro k hk;simp [Value.ownBlock] at hk
 · intro k hk
   simp [Value.ownBlock] at hk
   subst hk
   rcases Nat.lt_or_ge g w.heap.size with h' | h'
   · exact h'
   · rw [Array.getElem?_eq_none h'] at hh;cases hh
theorem qtext_any (vt:Value) (t:List (BitVec 8)) (w:World) (hr:Reads w vt t) (hl:t.length + 10 ≤ 140737488355328) :
 Calls Tryz.prog 48 #[vt] w fun e w' => ∃ v',e = .returned v' ∧ Reads w' v' (encText t) ∧ Below w.heap.size w w':=by
 have HR:Hid (Reads w vt t):=hr
 have HL:Hid (t.length + 10 ≤ 140737488355328):=hl
 obtain ⟨at',capt,rfl,_,_,_⟩:=id hr
 obtain ⟨m,HM⟩:=sqn (t.length)
 rw [← HM.out] at HR
 rw [← HM.out]
 have hm:m < 140737488355328:=by have:=HL.out;have:=HM.out;omega
 have hw:IntKind.u64.wrap (m:Int) = (m:Int):=by rw [IntKind.wrap_u64];omega
 clear hr hl
 go_enter Tryz.func48,Tryz.ntmps48
 go_wp2_with fail
 refine (qnum_any m (by omega) w).mono ?_
 rintro e w1 ⟨v1,rfl,ho1,hb1⟩
 have r1:=ho1.reads
 obtain ⟨a1,c1,rfl,_,_,_⟩:=id r1
 obtain ⟨k1,HK1⟩:=sqn ((encNum m).length)
 have HL2:Hid (ReadsL (w1.alloc (.cells #[.slice a1 k1 c1,.slice at' m capt] 23)) (.slice (some ⟨w1.heap.size,0,none⟩) 2 2) [encNum m,t]):=by
  rw [HK1.out];exact readsL_two r1 (HR.out.below hb1)
 have HB1:Hid (Below w.heap.size w w1):=hb1
 have HK:Hid (k1 ≤ 10):=by show _ ≤ _;rw [HK1.out];exact enc_len10 m (by omega)
 clear ho1 hb1 r1
 rw [← HK1.out]
 go_wp2_with fail
 refine (rjoin_any _ _ _ HL2.out (by rw [fl2,← HK1.out];have:=HK.out;have:=HL.out;omega) (by simp)).mono ?_
 rintro e w2 ⟨v2,rfl,r2,b2⟩
 have HR2:Hid (Reads w2 v2 (encText t)):=by
  show Reads _ _ _;unfold encText;rw [← HM.out];simpa using r2
 have b3:=(below_alloc w1 (.cells #[.slice a1 k1 c1,.slice at' m capt] 23)).trans (b2.mono (by simp))
 have HB2:Hid (Below w.heap.size w w2):=HB1.out.trans (b3.mono HB1.out.size)
 clear r2 b2 b3 HL2
 go_wp2
 go_ret
 exact ⟨_,rfl,HR2.out,HB2.out⟩
structure Fr (w:World) (v:Value) (w':World) (v':Value):Prop where
 os:w'.os = w.os
 tape:w'.tape = w.tape
 output:w'.output = w.output
 size:w.heap.size ≤ w'.heap.size
 block:∀ k,k < w.heap.size → v.ownBlock ≠ some k → w'.heap[k]? = w.heap[k]?
 loc:∀ k,v'.ownBlock = some k → v.ownBlock = some k ∨ w.heap.size ≤ k
theorem Fr.refl (w:World) (v:Value):Fr w v w v:=⟨rfl,rfl,rfl,Nat.le_refl _,fun _ _ _ => rfl,fun _ h => Or.inl h⟩
theorem Fr.trans {a b c:World} {u v x:Value} (h:Fr a u b v) (k:Fr b v c x):Fr a u c x:=
 ⟨k.os.trans h.os,k.tape.trans h.tape,k.output.trans h.output,Nat.le_trans h.size k.size,fun i hi hn => (k.block i (Nat.lt_of_lt_of_le hi h.size) (fun e => (h.loc i e).elim hn (fun hle => by omega))).trans (h.block i hi hn),fun i hi => (k.loc i hi).elim (h.loc i) (fun hle => Or.inr (Nat.le_trans h.size hle))⟩
theorem Fr.ofNew {w w':World} (h:Below w.heap.size w w') (v:Value):Fr w v w' v:=⟨h.os,h.tape,h.output,h.size,fun k hk _ => h.block k hk,fun _ e => Or.inl e⟩
theorem Fr.alloc {w w':World} {v v':Value} (h:Fr w v w' v') (o:Obj):Fr w v (w'.alloc o) v':=h.trans (Fr.ofNew (below_alloc _ _) v')
theorem Fr.ofOnly {w w':World} {g:Nat} {v v':Value} (h:Only g w w') (hv:v.ownBlock = some g) (hv':v'.ownBlock = some g):Fr w v w' v':=⟨h.os,h.tape,h.output,h.size,fun k hk hn => h.block k (fun e => hn (by rw [hv,e])) hk,fun k hk => Or.inl (by rw [hv,← hv'];exact hk)⟩
theorem Fr.ofBelow {w w':World} {v v':Value} (h:Below w.heap.size w w') (hv:∀ k,v'.ownBlock = some k → w.heap.size ≤ k):Fr w v w' v':=⟨h.os,h.tape,h.output,h.size,fun k hk _ => h.block k hk,fun k hk => Or.inr (hv k hk)⟩
theorem Fr.ofGrown {w w':World} {v v':Value} (h:w.grownBy w' v.ownBlock) (hl:v'.ownBlock = v.ownBlock ∨ v'.ownBlock = some w.heap.size):Fr w v w' v':=⟨h.os,h.tape,h.output,h.size,fun k hk hn => h.block k hk (fun e => hn e.symm),fun k hk => hl.elim (fun e => Or.inl (by rw [← e];exact hk)) (fun e => Or.inr (by rw [e] at hk;cases hk;exact Nat.le_refl _))⟩
theorem Fr.below {w w':World} {v v':Value} (h:Fr w v w' v') {B:Nat} (hB:B ≤ w.heap.size) (hv:∀ k,v.ownBlock = some k → B ≤ k):Below B w w':=⟨h.os,h.tape,h.output,h.size,fun k hk => h.block k (by omega) (fun e => absurd (hv k e) (by omega))⟩
theorem Fr.blk {w w':World} {v v':Value} (h:Fr w v w' v') {g:Nat} {cs:List Value} {t:TypeId} (hb:Blk w g cs t) (hg:v.ownBlock ≠ some g):Blk w' g cs t:=by
 unfold Blk at *
 rw [h.block g (Array.getElem?_eq_some_iff.1 hb).1 hg]
 exact hb
theorem wpList_appendF {w:World} {ops:Array Oper} {rest:List Oper} {o:Oper} {a:Act} {Q:Exit → Act → World → Prop} (hgd:o.guard = none) (s x:Operand)
 (ho:o.op = .call { callee:=.builtin .append,args:=#[s,x],argTypes:=#[23,23] }) (base:Nat)
 (v:Value) (l:List (BitVec 8)) (hs:a.eval s = v) (hown:OwnB w base v l) (vx:Value) (news:List (BitVec 8)) (hx:a.eval x = vx) (hr:Reads w vx news)
 (hlen:l.length + news.length ≤ 140737488355328) (hbase:base ≤ w.heap.size)
 (h:∀ v' w',OwnB w' base v' (l ++ news) → Fr w v w' v' → wpList Tryz.prog ops Q rest (a.put o.dst v') w'):wpList Tryz.prog ops Q (o :: rest) a w:=by
 obtain ⟨i0,hi,hz0,hz1,hz2⟩:=info_parts Tryz.infob
 obtain ⟨ad,cap,rfl,hcap,hnn,hpos⟩:=hr
 cases ad with
 | some ad =>
  refine wpList_append_own_at (P:=Tryz.prog) w hgd s x 23 ho base 5 i0 (.int .u8 0) 1 1 Tryz.underlying23 hi hz0 hz1 hz2 rfl (by decide) v l.length (cb l) hs hown ad news.length cap (cb news) hx (by rw [cb_len];omega) ?_ (cb_one _) (by unfold maxLen;omega) (by omega) hbase ?_
  · intro j u hj
    have hjl:j < news.length:=by have:=(List.getElem?_eq_some_iff.1 hj).1;rwa [cb_len] at this
    obtain ⟨b,off,h1,h2⟩:=hpos (by omega)
    cases h1
    rw [Addr.add_mid,h2 j hjl,← hj,cb_get news j hjl]
  · intro v' w' h1 h2 _ h5
    refine h v' w' ?_ (Fr.ofGrown h2 h5)
    · have e:cb l ++ cb news = cb (l ++ news):=by simp [cb]
      rw [e] at h1;unfold OwnB;rw [List.length_append];exact h1
 | none =>
  have hn0:news = []:=by
   cases news with
   | nil => rfl
   | cons b r => obtain ⟨b,off,h1,_⟩:=hpos (by simp);cases h1
  subst hn0
  have hc0:=hnn rfl
  subst hc0
  refine wpList_append_own_none (P:=Tryz.prog) hgd s x 23 ho base 5 i0 1 Tryz.underlying23 hi v l.length (cb l) hs hown hx ?_
  exact h v w (by rw [List.append_nil];exact hown) (Fr.refl _ _)
structure NuF (base:Nat) (w:World) (v:Value) (l:List (BitVec 8)) (n m:Nat) (p:List (BitVec 8)) (u:Value) (wr:World):Prop where
 own:OwnB wr base u (l ++ p)
 bel:Fr w v wr u
 eq:p ++ encNum m = encNum n
 lt:m < 18446744073709551616
theorem NuF.le {base:Nat} {w wr:World} {v:Value} {l p:List (BitVec 8)} {n m:Nat} {u:Value} (h:NuF base w v l n m p u wr) (hn:n < 18446744073709551616):p.length < 10:=by
 have h1:=enc_len10 n hn
 rw [← h.eq,List.length_append] at h1
 have:=encNum_pos m
 omega
theorem cnum_fr (base:Nat) (v:Value) (l:List (BitVec 8)) (n:Nat) (hn:n < 18446744073709551616) (w:World) (hown:OwnB w base v l) (hb:base ≤ w.heap.size) (hl:l.length + 10 ≤ 140737488355328) :
 Calls Tryz.prog 72 #[v,.int .u64 (n:Int)] w fun e w' => ∃ v',e = .returned v' ∧ OwnB w' base v' (l ++ encNum n) ∧ Fr w v w' v':=by
 have HO:Hid (OwnB w base v l):=hown
 have HN:Hid (n < 18446744073709551616):=hn
 have HL:Hid (l.length + 10 ≤ 140737488355328):=hl
 have HB:Hid (base ≤ w.heap.size):=hb
 clear hown hn hl hb
 go_enter Tryz.func72,Tryz.ntmps72
 go_wp2
 go_loopw [0,1] (fun u x wr => ∃ (p:List (BitVec 8)) (m:Nat),x = .int .u64 m ∧ NuF base w v l n m p u wr) (fun _ x _ => (intOf x).toNat)
 case atStart => exact ⟨[],n,rfl,by simpa using HO.out,Fr.refl _ _,rfl,HN.out⟩
 case round =>
  obtain ⟨p,m,rfl,hI⟩:=hrel
  have HI:Hid (NuF base w v l n m p u0 wr):=hI
  have HP:Hid (p.length < 10):=hI.le HN.out
  have HS:Hid (base ≤ wr.heap.size):=Nat.le_trans HB.out hI.bel.size
  clear hI
  by_cases hlt:m < 128
  · have hge:¬ (128 ≤ (m:Int)):=by omega
    have hx:(m:Int) % 256 = (m:Int):=by omega
    go_wp2_with (at_builtin;refine wpList_appendF rfl (.tmp 15) (.tmp 18) rfl base _ (l ++ p) rfl (HI.out.own.below ((Below.refl _ _).alloc (Nat.le_refl _) _) (Nat.le_refl _)) _ [BitVec.ofNat 8 m] rfl (reads_val wr _ _ ?_) (by have:=HL.out;have:=HP.out;simp;omega) (by have:=HS.out;simp;omega) ?_;simp;omega;intro v2 w2 hown2 hb2)
    have HR:Hid (OwnB w2 base v2 (l ++ encNum n)):=by
     rw [← HI.out.eq,encNum_lt hlt,← List.append_assoc];exact hown2
    have hB:Fr w v w2 v2:=(HI.out.bel.alloc _).trans hb2;clear hown2 hb2 HI;go_wp2;go_ret;exact ⟨_,rfl,HR.out,hB⟩
  · have hge:128 ≤ (m:Int):=by omega
    have HLT:Hid (¬ m < 128):=hlt;have hw:IntKind.u64.wrap ((m:Int) / 128) = (m:Int) / 128:=by have:=HI.out.lt;rw [IntKind.wrap_u64];omega
    clear hlt
    go_wp2_with (at_builtin;refine wpList_appendF rfl (.tmp 7) (.tmp 11) rfl base _ (l ++ p) rfl (HI.out.own.below ((Below.refl _ _).alloc (Nat.le_refl _) _) (Nat.le_refl _)) _ [BitVec.ofNat 8 (m % 128 + 128)] rfl (reads_val wr _ _ ?_) (by have:=HL.out;have:=HP.out;simp;omega) (by have:=HS.out;simp;omega) ?_;(go_loud (rw [or128 m]));intro v2 w2 hown2 hb2)
    have hJ:NuF base w v l n (m / 128) (p ++ [BitVec.ofNat 8 (m % 128 + 128)]) v2 w2:=⟨by rw [List.append_assoc] at hown2;exact hown2,(HI.out.bel.alloc _).trans hb2,enc_step HLT.out HI.out.eq,by have:=HI.out.lt;omega⟩
    clear hown2 hb2 HI;go_wp2;go_roundw
    case rel => exact ⟨_,m / 128,by simp,hJ⟩
    case measure => simp [intOf];omega
theorem ins_fr (base bv:Nat) (s v:Value) (l t e:List (BitVec 8)) (w:World) (hs:OwnB w base s (l ++ t)) (hv:OwnB w bv v e) (hsep:∀ k,s.ownBlock = some k → k < bv) (he:e ≠ []) (hbase:base ≤ bv) (hbv:bv ≤ w.heap.size) (hlen:l.length + t.length + e.length ≤ 140737488355328) :
 Calls Tryz.prog 122 #[s,.int .i64 (l.length:Int),v] w fun en w' => ∃ v',en = .returned v' ∧ OwnB w' base v' (l ++ (e ++ t)) ∧ Fr w s w' v':=by
 have hm:0 < e.length:=List.length_pos_iff.2 he
 have hR:=hv.reads
 have HS:Hid (OwnB w base s (l ++ t)):=hs
 obtain ⟨hv1,hv2⟩:=hv
 rcases hv2 with ⟨rfl,h0⟩ | ⟨vb,vc,vcur,rfl,hvg,hvh,hvc,hvm,hvs,hvt⟩
 · omega
 have HV:Blk w vb vcur.toList 5:=hvh
 rw [Nat.mul_one] at hvs hvt
 by_cases ht:t = []
 · subst ht
   rw [List.append_nil] at hs HS;have HRV:Hid (Reads w (.slice (some ⟨vb,0,none⟩) e.length vc) e):=hR;have hz1:¬ ((e.length:Int) = 0):=by omega
   obtain ⟨ad,cap,rfl,hcap,_,_⟩:=id hs.reads
   have hcb:cap ≤ maxLen:=by
    obtain ⟨_,h2⟩:=hs
    rcases h2 with ⟨h,_⟩ | ⟨g,cc,cur,h,_,_,_,h3,_⟩
    · simp only [Value.slice.injEq] at h;omega
    · simp only [Value.slice.injEq] at h;omega
   unfold maxLen at hcb;clear hs hR hvh HV hvs hvt hv1 hsep;obtain ⟨m,HM⟩:=sqn (e.length);obtain ⟨n,HNN⟩:=sqn (l.length);rw [← HM.out] at hm hlen hz1 hvc HRV;rw [← HM.out];rw [← HNN.out] at hlen hcap HS;rw [← HNN.out];have HB:Hid (base ≤ w.heap.size):=Nat.le_trans hbase hbv;clear hvm hvg;rw [List.append_nil];have HLN:Hid (l.length + e.length ≤ 140737488355328):=by show _ ≤ _;rw [← HM.out,← HNN.out];simp at hlen;omega
   by_cases hcn:cap = n
   · subst hcn
     go_enter Tryz.func122,Tryz.ntmps122
     go_wp2_with (at_builtin;refine wpList_appendF rfl _ _ rfl base _ l rfl HS.out _ e rfl HRV.out HLN.out HB.out ?_;intro v2 w2 hown2 hb2)
     go_ret;exact ⟨_,rfl,hown2,hb2⟩
   · go_enter Tryz.func122,Tryz.ntmps122
     go_wp2_with (at_builtin;refine wpList_appendF rfl _ _ rfl base _ l rfl HS.out _ e rfl HRV.out HLN.out HB.out ?_;intro v2 w2 hown2 hb2)
     go_ret;exact ⟨_,rfl,hown2,hb2⟩
 · have htl:0 < t.length:=List.length_pos_iff.2 ht
   obtain ⟨hs1,hs2⟩:=hs
   rcases hs2 with ⟨rfl,h0⟩ | ⟨b,c,cur,rfl,hg,hh,hc,hcm,hcs,hct⟩
   · rw [List.length_append] at h0;omega
   have HB:Blk w b cur.toList 5:=hh;rw [Nat.mul_one] at hcs hct;have hlt:b < bv:=hsep b rfl;have hne:vb ≠ b:=by omega
   have hmx:maxLen = 9223372036854775807:=rfl
   by_cases hroom:(l ++ t).length + e.length ≤ c
   · refine (ins_shift b (l ++ t).length c l.length vb e.length vc (cb (l ++ t)) (cb e) cur.toList vcur.toList w (by rw [List.length_append];omega) hm hroom (by omega) hne (cb_len _) (cb_len _) HB HV (by simpa using hcs) hct hvt (cb_one _) (cb_one _)).mono ?_
     rintro en w' ⟨rfl,rfl⟩;have hd:(cb (l ++ t)).drop l.length = cb t:=by rw [cb_drop,List.drop_left]
     rw [hd];have hcl:cur.toList.length = c:=by simpa using hcs
     have hk:=put_two HB.drew (cb e) (cb t) l.length (by rw [cb_len,cb_len,hcl];rw [List.length_append] at hroom;omega)
     rw [cb_len] at hk;have hb':Only b w ((w.drew.setCells b (l.length + e.length) (cb t)).setCells b l.length (cb e)):=Only.setCells _ _ _ (Only.setCells _ _ _ (Only.refl _ _).drew);refine ⟨_,rfl,?_,Fr.ofOnly hb' rfl rfl⟩
     have:=OwnB.of_blk (base:=base) (l:=l ++ (e ++ t)) hk hg (c:=c) (by rw [List.length_append] at hroom;simp only [List.length_append,List.length_take,List.length_drop,cb_len,hcl];omega) hcm (by simp;simp at hroom;omega) (by
      have e1:cur.toList.take l.length = cb l:=by
       have:=congrArg (List.take l.length) hct;rw [List.take_take,Nat.min_eq_left (by simp),cb_take,List.take_left] at this
       exact this
      rw [e1,List.take_append_of_le_length (by simp only [List.length_append,cb_len];omega),List.take_of_length_le (by simp only [List.length_append,cb_len];omega),cb_app,cb_app,List.append_assoc])
     have e2:(l ++ (e ++ t)).length = (l ++ t).length + e.length:=by simp;omega
     rw [e2] at this;exact this
   · refine (ins_grow b (l ++ t).length c l.length vb e.length vc (cb (l ++ t)) (cb e) cur.toList vcur.toList w (by rw [List.length_append];omega) hm hc (by omega) (by rw [List.length_append];omega) (cb_len _) (cb_len _) HB HV hct hvt (cb_one _) (cb_one _)).mono ?_
     rintro en w' ⟨G,row,rfl,hG1,hG2,hG3,hG4,rfl⟩;have hd:(cb (l ++ t)).drop l.length = cb t:=by rw [cb_drop,List.drop_left]
     rw [hd];have hN:=Blk.new w row 5;have hk:=put_two' hN.drew (cb e) (cb t) l.length (by rw [cb_len,cb_len,hG3];rw [List.length_append] at hG1;omega)
     rw [cb_len] at hk;have hwb:base ≤ w.heap.size:=Nat.le_trans hbase hbv;have hb':Below w.heap.size w (((w.alloc (.cells row.toArray 5)).drew.setCells w.heap.size l.length (cb e)).drew.setCells w.heap.size (l.length + e.length) (cb t)):=Below.setCells _ (Nat.le_refl _) _ _ _ (Below.setCells _ (Nat.le_refl _) _ _ _ ((Below.refl _ _).alloc (Nat.le_refl _) _).drew).drew;refine ⟨_,rfl,?_,Fr.ofBelow hb' (fun k hk => by cases hk;exact Nat.le_refl _)⟩
     have:=OwnB.of_blk (base:=base) (l:=l ++ (e ++ t)) hk hwb (c:=G) (by simp [cb_len,hG3];rw [List.length_append] at hG1;omega) hG2 (by simp;simp at hG1;omega) (by
      have e1:row.take l.length = cb l:=by rw [hG4,cb_take,List.take_left]
      rw [e1,List.take_append_of_le_length (by simp only [List.length_append,cb_len];omega),List.take_of_length_le (by simp only [List.length_append,cb_len];omega),cb_app,cb_app,List.append_assoc])
     have e2:(l ++ (e ++ t)).length = (l ++ t).length + e.length:=by simp;omega
     rw [e2] at this;exact this
theorem ctext_fr (base:Nat) (v vt:Value) (l t:List (BitVec 8)) (w:World) (hown:OwnB w base v l) (hr:Reads w vt t) (hb:base ≤ w.heap.size) (hl:l.length + t.length + 10 ≤ 140737488355328) :
 Calls Tryz.prog 97 #[v,vt] w fun e w' => ∃ v',e = .returned v' ∧ OwnB w' base v' (l ++ encText t) ∧ Fr w v w' v':=by
 have HO:Hid (OwnB w base v l):=hown
 have HR:Hid (Reads w vt t):=hr
 have HL:Hid (l.length + t.length + 10 ≤ 140737488355328):=hl
 have HB:Hid (base ≤ w.heap.size):=hb
 obtain ⟨ad,cap,rfl,_,_,_⟩:=id hown.reads
 obtain ⟨at',capt,rfl,_,_,_⟩:=id hr
 obtain ⟨n,HNN⟩:=sqn (l.length)
 obtain ⟨m,HM⟩:=sqn (t.length)
 rw [← HNN.out] at HO
 rw [← HM.out] at HR
 rw [← HNN.out,← HM.out]
 have hm:m < 140737488355328:=by have:=HL.out;have:=HM.out;omega
 clear hown hr hl hb
 go_enter Tryz.func97,Tryz.ntmps97
 go_wp2_with (at_builtin;refine wpList_appendF rfl (.tmp 5) (.tmp 6) rfl base _ l rfl HO.out _ t rfl HR.out (by have:=HL.out;omega) HB.out ?_;intro v2 w2 hown2 hb2)
 have HO2:Hid (OwnB w2 base v2 (l ++ t)):=hown2
 have HB2:Hid (Fr w (.slice ad n cap) w2 v2):=hb2
 have HS2:Hid (base ≤ w2.heap.size):=Nat.le_trans HB.out hb2.size
 clear hown2 hb2
 have hw:IntKind.u64.wrap (m:Int) = (m:Int):=by rw [IntKind.wrap_u64];omega
 go_wp2_with fail
 refine (cnum_any w2.heap.size _ [] m (by omega) w2 (OwnB.nil _ _) (Nat.le_refl _) (by simp)).mono ?_
 rintro e w3 ⟨v3,rfl,ho3,hb3⟩
 have HO3:Hid (OwnB w3 w2.heap.size v3 (encNum m)):=ho3
 have HB3:Hid (Below w2.heap.size w2 w3):=hb3
 clear ho3 hb3
 go_wp2_with fail
 have hO:=HO2.out.below' HB3.out (HO2.out.lt)
 have hn:(n:Int) = (l.length:Int):=by rw [HNN.out]
 rw [hn]
 refine (ins_fr base w2.heap.size v2 v3 l t (encNum m) w3 hO HO3.out HO2.out.lt (by intro h;have:=encNum_pos m;rw [h] at this;simp at this) HS2.out HB3.out.size (by have:=HL.out;have:=enc_len10 m (by omega);omega)).mono ?_
 rintro e w4 ⟨v4,rfl,ho4,hb4⟩
 have HO4:Hid (OwnB w4 base v4 (l ++ encText t)):=by show OwnB _ _ _ _;unfold encText;rw [← HM.out];exact ho4
 have HB4:Hid (Fr w (.slice ad n cap) w4 v4):=HB2.out.trans ((Fr.ofNew HB3.out v2).trans hb4)
 clear ho4 hb4 hO
 go_wp2
 go_ret
 exact ⟨_,rfl,HO4.out,HB4.out⟩
theorem wpSeq_convS {ops:Array Oper} {Q:Exit → Act → World → Prop} {rest:List Oper} {o:Oper} {a:Act} {w:World} (x:Operand) (ks:ByteArray) (k:Bs) (hk:ks = strB k) (ho:o.op = .convert 9 23 x) (hx:a.eval x = .string ks) (hw:Region.wanted o (yielded ops a.tmps) = true)
 (h:∀ ad n c w',Reads w' (.slice ad n c) k → Below w.heap.size w w' → wpList Tryz.prog ops Q rest (a.put o.dst (.slice ad n c)) w'):wpList Tryz.prog ops Q (o :: rest) a w:=by
 subst hk
 refine wpSeq_val _ _ hw ?_ (h _ _ _ _ (bytesWorld_reads k w) (bytesWorld_below k w))
 unfold execOp
 rw [ho]
 simp only [hx,Sem.run_bind,conv_string]
 rfl
theorem OwnB.neA {w:World} {base:Nat} {v:Value} {l:Bs} (h:OwnB w base v l) {g:Nat} {cs:List Value} {t:TypeId} (hb:Blk w g cs t) (ht:t ≠ 5):v.ownBlock ≠ some g:=fun e => by
 obtain ⟨h1,h2⟩:=h
 rcases h2 with ⟨rfl,h0⟩ | ⟨g2,cap,cur,rfl,hg,hh,_⟩
 · cases e
 · simp [Value.ownBlock] at e
   subst e;unfold Blk at hb;rw [hb] at hh;simp only [Option.some.injEq,Obj.cells.injEq] at hh;exact ht hh.2.1
theorem OwnB.ltS {w:World} {base:Nat} {v:Value} {l:Bs} (h:OwnB w base v l):∀ k,v.ownBlock = some k → base ≤ k ∧ k < w.heap.size:=World.ownsRow.lt h
theorem OwnB.sameS {w w':World} {base:Nat} {v:Value} {l:Bs} (h:OwnB w base v l) (hs:∀ k,v.ownBlock = some k → w'.heap[k]? = w.heap[k]?):OwnB w' base v l:=by
 obtain ⟨h1,h2⟩:=h
 refine ⟨h1,?_⟩
 rcases h2 with h2 | ⟨g,cap,cur,rfl,hg,hh,r⟩
 · exact Or.inl h2
 · exact Or.inr ⟨g,cap,cur,rfl,hg,by rw [hs g rfl];exact hh,r⟩
theorem OwnB.newS {w w':World} {base:Nat} {v:Value} {l:Bs} (h:OwnB w base v l) (hb:Below w.heap.size w w'):OwnB w' base v l:=h.sameS (fun k hk => hb.block k (h.ltS k hk).2)
theorem sWriteAct_any (base:Nat) (v vd:Value) (l:Bs) (a:ActT) (w:World) (hown:OwnB w base v l) (hb:base ≤ w.heap.size) (hd:∀ w' v',Fr w v w' v' → Reads w' vd a.data) (hl:l.length + a.key.length + a.data.length + 40 ≤ 140737488355328) :
 Calls Tryz.prog 73 #[v,.agg (actC a vd).toArray] w fun e w' => ∃ v',e = .returned v' ∧ OwnB w' base v' (l ++ encA a) ∧ Fr w v w' v':=by
 have HO:Hid (OwnB w base v l):=hown
 have HD:Hid (∀ w' v',Fr w v w' v' → Reads w' vd a.data):=hd
 have HL:Hid (l.length + a.key.length + a.data.length + 40 ≤ 140737488355328):=hl
 have HB:Hid (base ≤ w.heap.size):=hb
 obtain ⟨ad,n,c,hv⟩:=hown.reads.form
 obtain ⟨av,nv,cv,hvd⟩:=(hd w v (Fr.refl _ _)).form
 subst hv hvd
 obtain ⟨ks,HKS⟩:=sqn (strB a.key)
 obtain ⟨st,HST⟩:=sqn (a.set)
 rw [actC,← HKS.out,← HST.out]
 have HE:Hid (encA a = encText a.key ++ (if st then encNum 1 ++ encText a.data else encNum 0)):=by show _ = _;rw [encA,HST.out]
 have HEK:Hid ((encText a.key).length ≤ a.key.length + 10):=by show _ ≤ _;rw [encText,List.length_append];have:=enc_len10 a.key.length (by omega);omega
 clear hown hb hd hl
 cases st with
 | false =>
  go_enter Tryz.func73,Tryz.ntmps73
  obtain ⟨tk0,tk1,tk2,tk3⟩:=sqk4
  go_wp2_with (first
   | (clear tk0;with_reducible refine wpSeq_boxW 62 (.tmp 1) [.string ks,.bool false,.slice av nv cv] ?_ ?_ ?_ ?_
      · rfl
      · rfl
      · rfl
      intro g3 y1 nn;have HG3:Hid (Blk y1 g3 [.string ks,.bool false,.slice av nv cv] 62 ∧ w.heap.size ≤ g3):=⟨nn.blk,nn.ge⟩;have HF1:Hid (Fr w (.slice ad n c) y1 (.slice ad n c)):=Fr.ofNew nn.below _;have HO1:Hid (OwnB y1 base (.slice ad n c) l):=HO.out.newS nn.below;have c0:y1.cell? ⟨g3,0,none⟩ = some (.string ks):=nn.blk.cell 0;clear nn)
   | (clear tk1;with_reducible refine wpSeq_convS (.tmp 7) ks a.key HKS.out ?_ ?_ ?_ ?_
      · rfl
      · rfl
      · rfl
      intro ak nk ck y2 hrk hbk;have HRK:Hid (Reads y2 (.slice ak nk ck) a.key):=hrk;have HF2:Hid (Fr w (.slice ad n c) y2 (.slice ad n c)):=HF1.out.trans (Fr.ofNew hbk _);have HO2:Hid (OwnB y2 base (.slice ad n c) l):=HO1.out.newS hbk;have HG2:Hid (Blk y2 g3 [.string ks,.bool false,.slice av nv cv] 62):=HG3.out.1.below hbk HG3.out.1.lt;clear hrk hbk c0)
   | (clear tk2;go_at_call 97;refine (ctext_fr base _ _ l a.key _ HO2.out HRK.out (Nat.le_trans HB.out HF2.out.size) (by have:=HL.out;omega)).mono ?_;rintro e0 y3 ⟨v3,rfl,ho3,hf3⟩
      have HO3:Hid (OwnB y3 base v3 (l ++ encText a.key)):=ho3;have HF3:Hid (Fr w (.slice ad n c) y3 v3):=HF2.out.trans hf3;have HK3:Hid (Blk y3 g3 [.string ks,.bool false,.slice av nv cv] 62):=hf3.blk HG2.out (HO2.out.neA HG2.out (by decide))
      have c1:y3.cell? ⟨g3,1,none⟩ = some (.bool false):=HK3.out.cell 1;obtain ⟨a3,n3,c3,hv3⟩:=ho3.reads.form;subst hv3;clear ho3 hf3)
   | (clear tk3;go_at_call 72;refine (cnum_fr base _ _ 0 (by decide) _ HO3.out (Nat.le_trans HB.out HF3.out.size) (by rw [List.length_append];have h1:=HL.out;have h2:=HEK.out;omega)).mono ?_;rintro e0 y4 ⟨v4,rfl,ho4,hf4⟩
      have HO4:Hid (OwnB y4 base v4 (l ++ encA a)):=by rw [HE.out,if_neg Bool.false_ne_true,← List.append_assoc];exact ho4
      have HF4:Hid (Fr w (.slice ad n c) y4 v4):=HF3.out.trans hf4;obtain ⟨a4,n4,c4,hv4⟩:=ho4.reads.form;subst hv4;clear ho4 hf4 c1))
  go_ret
  exact ⟨_,rfl,HO4.out,HF4.out⟩
 | true =>
  go_enter Tryz.func73,Tryz.ntmps73
  obtain ⟨tk0,tk1,tk2⟩:=sqk3
  go_wp2_with (first
   | (clear tk0;with_reducible refine wpSeq_boxW 62 (.tmp 1) [.string ks,.bool true,.slice av nv cv] ?_ ?_ ?_ ?_
      · rfl
      · rfl
      · rfl
      intro g3 y1 nn;have HG3:Hid (Blk y1 g3 [.string ks,.bool true,.slice av nv cv] 62 ∧ w.heap.size ≤ g3):=⟨nn.blk,nn.ge⟩;have HF1:Hid (Fr w (.slice ad n c) y1 (.slice ad n c)):=Fr.ofNew nn.below _;have HO1:Hid (OwnB y1 base (.slice ad n c) l):=HO.out.newS nn.below;have c0:y1.cell? ⟨g3,0,none⟩ = some (.string ks):=nn.blk.cell 0;clear nn)
   | (clear tk1;with_reducible refine wpSeq_convS (.tmp 7) ks a.key HKS.out ?_ ?_ ?_ ?_
      · rfl
      · rfl
      · rfl
      intro ak nk ck y2 hrk hbk;have HRK:Hid (Reads y2 (.slice ak nk ck) a.key):=hrk;have HF2:Hid (Fr w (.slice ad n c) y2 (.slice ad n c)):=HF1.out.trans (Fr.ofNew hbk _);have HO2:Hid (OwnB y2 base (.slice ad n c) l):=HO1.out.newS hbk;have HG2:Hid (Blk y2 g3 [.string ks,.bool true,.slice av nv cv] 62):=HG3.out.1.below hbk HG3.out.1.lt;clear hrk hbk c0)
   | (clear tk2;go_at_call 97;refine (ctext_fr base _ _ l a.key _ HO2.out HRK.out (Nat.le_trans HB.out HF2.out.size) (by have:=HL.out;omega)).mono ?_;rintro e0 y3 ⟨v3,rfl,ho3,hf3⟩
      have HO3:Hid (OwnB y3 base v3 (l ++ encText a.key)):=ho3;have HF3:Hid (Fr w (.slice ad n c) y3 v3):=HF2.out.trans hf3;have HK3:Hid (Blk y3 g3 [.string ks,.bool true,.slice av nv cv] 62):=hf3.blk HG2.out (HO2.out.neA HG2.out (by decide))
      have c1:y3.cell? ⟨g3,1,none⟩ = some (.bool true):=HK3.out.cell 1;obtain ⟨a3,n3,c3,hv3⟩:=ho3.reads.form;subst hv3;clear ho3 hf3))
  clear c1
  refine wp_region_held_drew (S:=fun wx => Blk wx g3 [.string ks,.bool true,.slice av nv cv] 62) (by kernel_rfl) HK3.out.drew ?_
  intro hS
  have HO4:Hid (OwnB (World.drew y3) base (.slice a3 n3 c3) (l ++ encText a.key)):=HO3.out
  have HF4:Hid (Fr w (.slice ad n c) (World.drew y3) (.slice a3 n3 c3)):=HF3.out.trans (Fr.ofNew (Below.refl _ _).drew _)
  change wpAnyH _ _ _ _ _ _ _ _ (World.drew y3)
  generalize World.drew y3 = y4 at *
  refine tkc 0 (.slice a3 n3 c3) rfl hS ?_
  simp only [Act.put,sq]
  refine tkc 2 (.pointer (some ⟨g3,2,none⟩)) rfl hS ?_
  simp only [Act.put,sq]
  refine tka 3 (.slice av nv cv) rfl (fun wx hx => by (have hc:=hx.cell 2;simp at hc;simp [go_sem,hc])) hS ?_
  simp only [Act.put,sq]
  refine wpAnyH_enter 1 (by kernel_rfl) rfl (by rfl) (f:=72) (args:=#[.slice a3 n3 c3,.int .u64 ((1:Nat):Int)]) (by simp [go_sem]) (cnum_fr base _ _ 1 (by decide) _ HO4.out (Nat.le_trans HB.out HF4.out.size) (by rw [List.length_append];have h1:=HL.out;have h2:=HEK.out;omega)) ?_
  rintro e y5 ⟨v5,rfl,ho5,hf5⟩
  have hS5:Blk y5 g3 [.string ks,.bool true,.slice av nv cv] 62:=hf5.blk hS (HO4.out.neA hS (by decide))
  refine ⟨_,rfl,hS5,?_⟩
  obtain ⟨a5,n5,c5,hv5⟩:=ho5.reads.form
  subst hv5
  have HF5:Hid (Fr w (.slice ad n c) y5 (.slice a5 n5 c5)):=HF4.out.trans hf5
  have HO5:Hid (OwnB y5 base (.slice a5 n5 c5) (l ++ encText a.key ++ encNum 1)):=ho5
  clear ho5 hf5 hS
  simp only [Act.put,sq]
  refine wpAnyH_enter 4 (by kernel_rfl) rfl (by rfl) (f:=97) (args:=#[.slice a5 n5 c5,.slice av nv cv]) (by simp [go_sem]) (ctext_fr base _ _ _ a.data _ HO5.out (HD.out _ _ HF5.out) (Nat.le_trans HB.out HF5.out.size) (by rw [List.length_append,List.length_append,show (encNum 1).length = 1 from by rw [encNum_lt (by decide)];rfl];have h1:=HL.out;have h2:=HEK.out;omega)) ?_
  rintro e y6 ⟨v6,rfl,ho6,hf6⟩
  refine ⟨_,rfl,hf6.blk hS5 (HO5.out.neA hS5 (by decide)),?_⟩
  obtain ⟨a6,n6,c6,hv6⟩:=ho6.reads.form
  subst hv6
  have HF6:Hid (Fr w (.slice ad n c) y6 (.slice a6 n6 c6)):=HF5.out.trans hf6
  have HO6:Hid (OwnB y6 base (.slice a6 n6 c6) (l ++ encA a)):=by
   have he:=HE.out;simp only [if_true] at he;rw [he];simp only [List.append_assoc] at ho6 ⊢;exact ho6
  have hS6:=hf6.blk hS5 (HO5.out.neA hS5 (by decide))
  clear ho6 hf6 hS5
  simp only [Act.put,sq]
  refine tkc 5 (.slice a6 n6 c6) rfl hS6 ?_
  simp only [Act.put,sq]
  refine wpAnyH_done (by kernel_rfl) ?_ _
  go_wp2
  go_ret
  exact ⟨_,rfl,HO6.out,HF6.out⟩
theorem encAll_snoc (l:List ActT) (a:ActT):encAll encA (l ++ [a]) = encAll encA l ++ encA a:=by simp [encAll]
theorem batch_take {l:List ActT} {i:Nat} (hi:i < l.length):encNum l.length ++ encAll encA (l.take (i + 1)) = (encNum l.length ++ encAll encA (l.take i)) ++ encA (l.getD i ⟨[],false,[]⟩):=by rw [take_act hi,encAll_snoc,List.append_assoc]
theorem batch_pre (l:List ActT) (i:Nat):(encNum l.length ++ encAll encA (l.take i)).length ≤ (batchB l).length:=by
 have e:encAll encA l = encAll encA (l.take i) ++ encAll encA (l.drop i):=by
  rw [encAll,encAll,encAll,← List.flatten_append,← List.map_append,List.take_append_drop]
 unfold batchB encList
 rw [e,List.length_append,List.length_append,List.length_append]
 omega
theorem encA_len (a:ActT):a.key.length + a.data.length ≤ (encA a).length + (if a.set then 0 else a.data.length):=by
 unfold encA
 split <;> simp only [encText,List.length_append] <;> omega
theorem enc_in:∀ (l:List ActT) (a:ActT),a ∈ l → (encA a).length ≤ (encAll encA l).length
 | [],_,h => by cases h
 | b :: l,a,h => by
  rw [encAll_cons,List.length_append]
  rcases List.mem_cons.1 h with rfl | h
  · omega
  · have:=enc_in l a h
    omega
theorem encA_big {l:List ActT} {a:ActT} (ha:a ∈ l):(encA a).length ≤ (batchB l).length:=by
 unfold batchB encList
 rw [List.length_append]
 have:=enc_in l a ha
 omega
structure okZ (l:List ActT):Prop where
 n:l.length ≤ 1000000
 z:(batchB l).length ≤ 4500000000
 d:∀ a ∈ l,a.data.length ≤ 100000000
theorem sWithin_any (v:Value) (l:List ActT) (most:Int) (w:World) (hr:ReadsA w v l) (hz:okZ l):Calls Tryz.prog 46 #[v,.int .i64 most] w fun e w' => ∃ vb,e = .returned (.tuple #[vb,.bool (decide (((batchB l).length:Int) ≤ most))]) ∧ (((batchB l).length:Int) ≤ most → OwnB w' w.heap.size vb (batchB l)) ∧ Below w.heap.size w w':=by
 have HR:Hid (ReadsA w v l):=hr
 have HZ:Hid (okZ l):=hz
 obtain ⟨n,HN⟩:=sqn (l.length)
 obtain ⟨ad,c,hv⟩:=hr.form
 rw [← HN.out] at hv
 subst hv
 have HNB:Hid (n ≤ 1000000):=by rw [HN.out];exact hz.n
 have f0:IntKind.u64.wrap (n:Int) = (n:Int):=by rw [IntKind.wrap_u64];have:=HNB.out;omega
 obtain ⟨ok,HOK⟩:=sqn (decide (((batchB l).length:Int) ≤ most))
 rw [← HOK.out]
 clear hr hz
 go_enter Tryz.func46,Tryz.ntmps46
 have tk0:Hid True:=trivial
 go_wp2_with (first
  | (clear tk0;go_at_call 72;refine (cnum_fr w.heap.size (.slice none 0 0) [] n (by have:=HNB.out;omega) _ (OwnB.nil _ _) (Nat.le_refl _) (by simp)).mono ?_;rintro e0 y1 ⟨v1,rfl,ho1,hf1⟩
     have HB0:Hid (OwnB y1 w.heap.size v1 (encNum l.length ++ encAll encA (l.take 0))):=by
      show OwnB _ _ _ _;rw [List.nil_append] at ho1;rw [← HN.out,List.take_zero,show encAll encA [] = [] from rfl,List.append_nil];exact ho1
     have HB1:Hid (Below w.heap.size w y1):=hf1.below (Nat.le_refl _) (fun k hk => by cases hk)
     obtain ⟨a1,n1,c1,hv1⟩:=ho1.reads.form;subst hv1;clear ho1 hf1))
 clear f0
 go_loopw [6,7] (fun bv iv W => ∃ (ab:Option Addr) (nb cb i:Nat),bv = .slice ab nb cb ∧ iv = .int .i64 (i:Int) ∧ i ≤ n ∧ Hid (nb = (encNum l.length ++ encAll encA (l.take i)).length) ∧ Hid (OwnB W w.heap.size (.slice ab nb cb) (encNum l.length ++ encAll encA (l.take i))) ∧ Hid (Below w.heap.size w W)) (fun _ iv _ => n - (intOf iv).toNat)
 case atStart => exact ⟨a1,n1,c1,0,rfl,rfl,Nat.zero_le _,(by obtain ⟨x,y,h,_⟩:=HB0.out.reads;simp only [Value.slice.injEq] at h;exact h.2.1),HB0,HB1⟩
 case round =>
  clear HB0 HB1
  obtain ⟨ab,nb,cb,i,rfl,rfl,hi,HNb,HBB,HBW⟩:=hrel
  have HPRE:Hid (nb ≤ (batchB l).length):=by rw [HNb.out];exact batch_pre l i
  by_cases hin:i < n
  case pos =>
   have hlk:(i:Int) < (n:Int):=by omega
   by_cases hm:(nb:Int) ≤ most
   case pos =>
    have f1:IntKind.i64.wrap ((i:Int) + 1) = (i:Int) + 1:=by rw [IntKind.wrap_i64];have:=HNB.out;omega
    have HIN:Hid (i < n):=hin;have hil:i < l.length:=by rw [← HN.out];exact hin
    obtain ⟨b,off,vd,rfl,hrg,hrd⟩:=HR.out.at hil;have hbt:=batch_take hil;obtain ⟨a,HA⟩:∃ a,Hid (a = l.getD i ⟨[],false,[]⟩):=⟨_,rfl⟩;have hmem:a ∈ l:=by rw [HA.out,List.getD_eq_getElem?_getD,List.getElem?_eq_getElem hil];exact List.getElem_mem hil
    rw [← HA.out] at hrg hrd hbt;obtain ⟨ks,HKS⟩:=sqn (strB a.key);obtain ⟨st,HST⟩:=sqn (a.set);obtain ⟨av,nv,cv,hvd⟩:=hrd.form;subst hvd;have HCE:Hid (actC a (.slice av nv cv) = [.string ks,.bool st,.slice av nv cv]):=by show _ = _;rw [actC,HKS.out,HST.out]
    rw [HCE.out] at hrg;have HRG:Hid (wr.rangeAt b (off + i * 3) [.string ks,.bool st,.slice av nv cv]):=range_below hrg HBW.out (block_lt_of_cell (hrg 0 _ rfl))
    have HWA:Hid (Calls Tryz.prog 73 #[.slice ab nb cb,.agg [.string ks,.bool st,.slice av nv cv].toArray] wr fun e w' => ∃ v',e = .returned v' ∧ OwnB w' w.heap.size v' (encNum l.length ++ encAll encA (l.take (i + 1))) ∧ Fr wr (.slice ab nb cb) w' v'):=by
     have h:=sWriteAct_any w.heap.size (.slice ab nb cb) (.slice av nv cv) _ a wr HBB.out HBW.out.size (fun w' v' hf => hrd.below (HBW.out.trans (hf.below HBW.out.size (fun k hk => (HBB.out.ltS k hk).1)))) (by
      have h1:=HPRE.out;rw [HNb.out] at h1;have h2:=HZ.out.z;have h3:=encA_big hmem;have h4:=encA_len a;have h5:=HZ.out.d a hmem
      split at h4 <;> omega)
     rw [HCE.out,← hbt] at h;exact h
    clear hrg hrd hbt hmem hil;obtain ⟨tk0,tk1,tk2⟩:=sqk3
    go_wp2_with (first
     | (clear tk0;with_reducible refine wpSeq_idxA (.tmp 25) (.tmp 26) b off n c i HIN.out ?_ ?_ ?_ ?_ ?_
        · rfl
        · rfl
        · rfl
        · rfl)
     | (clear tk1;with_reducible refine wpSeq_loadW 62 (.tmp 27) b (off + i * 3) [.string ks,.bool st,.slice av nv cv] _ HRG.out Tryz.underlying62 rfl (info_act15 _ _ _) ?_ ?_ ?_ ?_
        · rfl
        · rfl
        · rfl)
     | (clear tk2;go_at_call 73;refine (HWA.out).mono ?_;rintro e0 y2 ⟨v2,rfl,ho2,hf2⟩
        have HO2:Hid (OwnB y2 w.heap.size v2 (encNum l.length ++ encAll encA (l.take (i + 1)))):=ho2;have HB2:Hid (Below w.heap.size w y2):=HBW.out.trans (hf2.below HBW.out.size (fun k hk => (HBB.out.ltS k hk).1))
        obtain ⟨n2,HN2⟩:=sqn ((encNum l.length ++ encAll encA (l.take (i + 1))).length);obtain ⟨a2,c2,hv2⟩:∃ a c,v2 = .slice a n2 c:=by obtain ⟨x,y,h,_⟩:=ho2.reads;exact ⟨x,y,by rw [HN2.out];exact h⟩
        subst hv2;clear ho2 hf2))
    go_roundw
    case rel => exact ⟨a2,n2,c2,i + 1,rfl,by simp,by omega,HN2,HO2,HB2⟩
    case measure => simp [intOf];omega
   case neg =>
    obtain rfl:ok = false:=by rw [HOK.out,decide_eq_false];have:=HPRE.out;omega
    have HNO:Hid (¬ (((batchB l).length:Int) ≤ most)):=by have:=HPRE.out;show ¬ _;omega
    go_wp2;refine bodyPost_ret (results_tmp2 rfl _ _ _) rfl ?_;exact ⟨_,rfl,fun h => absurd h (by have:=HNO.out;omega),HBW.out⟩
  case neg =>
   have hlk:¬ ((i:Int) < (n:Int)):=by omega
   have hall:encNum l.length ++ encAll encA (l.take i) = batchB l:=by rw [List.take_of_length_le (by rw [← HN.out];omega)];rfl
   rw [hall] at HNb HBB;have HBF:Hid (OwnB wr w.heap.size (.slice ab nb cb) (batchB l)):=HBB.out;have HOE:Hid (ok = decide ((nb:Int) ≤ most)):=by rw [HNb.out];exact HOK.out
   by_cases hm:(nb:Int) ≤ most
   · obtain rfl:ok = true:=by rw [HOE.out,decide_eq_true hm]
     go_wp2;refine bodyPost_ret (results_tmp2 rfl _ _ _) rfl ?_;exact ⟨_,rfl,fun _ => HBF.out,HBW.out⟩
   · obtain rfl:ok = false:=by rw [HOE.out,decide_eq_false hm]
     have HNO:Hid (¬ (((batchB l).length:Int) ≤ most)):=by rw [← HNb.out];exact hm
     go_wp2;refine bodyPost_ret (results_tmp2 rfl _ _ _) rfl ?_;exact ⟨_,rfl,fun h => absurd h (by have:=HNO.out;omega),HBW.out⟩
theorem oCheck_any (v:Value) (l:List ActT) (w:World) (hr:ReadsA w v l):Calls Tryz.prog 14 #[v] w fun e w' => e = .returned (.int .i64 (chkL l)) ∧ Below w.heap.size w w':=by
 have HR:Hid (ReadsA w v l):=hr
 obtain ⟨n,HN⟩:=sqn (l.length)
 obtain ⟨ad,c,hv⟩:=hr.form
 rw [← HN.out] at hv
 subst hv
 obtain ⟨X,HX⟩:=sqn (chkL l)
 rw [← HX.out]
 clear hr
 by_cases h4:4096 < n
 · have q1:(4096:Int) < (n:Int):=by omega
   obtain rfl:X = 1:=by rw [HX.out,chkL,if_neg (fun h => by have:=HN.out;omega)]
   go_enter Tryz.func14,Tryz.ntmps14
   go_wp2;go_ret;exact ⟨rfl,Below.refl _ _⟩
 have q1:¬ ((4096:Int) < (n:Int)):=by omega
 have H4:Hid (n ≤ 4096):=by show _ ≤ _;omega
 clear h4
 go_enter Tryz.func14,Tryz.ntmps14
 go_wp2
 clear q1
 go_loopw [3] (fun iv W => ∃ i:Nat,i ≤ n ∧ iv = .int .i64 (i:Int) ∧ Hid (goodF [] (l.take i) = true) ∧ Hid (Below w.heap.size w W)) (fun iv _ => n - (intOf iv).toNat)
 case atStart => exact ⟨0,Nat.zero_le _,rfl,rfl,Below.refl _ _⟩
 case round =>
  obtain ⟨i,hi,rfl,HGF,HBW⟩:=hrel
  by_cases hin:i < n
  case neg =>
   have hlk:¬ ((i:Int) < (n:Int)):=by omega
   obtain rfl:X = 0:=by
    have h:=HGF.out;rw [List.take_of_length_le (by rw [← HN.out];omega)] at h
    rw [HX.out,chkL,if_pos ⟨by rw [← HN.out];exact H4.out,h⟩]
   go_wp2;go_ret;exact ⟨rfl,HBW.out⟩
  case pos =>
   have hlk:(i:Int) < (n:Int):=by omega
   have f1:IntKind.i64.wrap ((i:Int) + 1) = (i:Int) + 1:=by rw [IntKind.wrap_i64];have:=H4.out;omega
   have HIN:Hid (i < n):=hin;have hil:i < l.length:=by rw [← HN.out];exact hin
   obtain ⟨b,off,vd,rfl,hrg,hrd⟩:=(HR.out.below HBW.out).at hil;have hst:=goodF_step hil HGF.out;obtain ⟨a,HA⟩:∃ a,Hid (a = l.getD i ⟨[],false,[]⟩):=⟨_,rfl⟩;rw [← HA.out] at hrg hrd hst;obtain ⟨ks,HKS⟩:=sqn (strB a.key);obtain ⟨st,HST⟩:=sqn (a.set);obtain ⟨nv,HNV⟩:=sqn (a.data.length);obtain ⟨av,cv,hvd⟩:∃ x c,vd = .slice x nv c:=by obtain ⟨x,c,hv,_⟩:=hrd;exact ⟨x,c,by rw [HNV.out];exact hv⟩
   subst hvd;have HRG:Hid (wr.rangeAt b (off + i * 3) [.string ks,.bool st,.slice av nv cv]):=by rw [HKS.out,HST.out];exact hrg
   obtain ⟨kn,HKN⟩:=sqn (a.key.length);have hsz:ks.size = kn:=by rw [HKS.out,strB_size,HKN.out]
   obtain ⟨lt,HLT⟩:=sqn (ltB (lastK [] (l.take i)) a.key);have HST2:Hid (goodF [] (l.take (i + 1)) = (lt && (decide (kn ≤ 64) && (if st then decide (nv ≤ 1048576) else decide (nv = 0))))):=by show _ = _;rw [hst,okA_may,mayD,HLT.out,HKN.out,HST.out,HNV.out]
   have HBAD:Hid (goodF [] (l.take (i + 1)) = false → X = 1):=fun h => by rw [HX.out,chkL,if_neg (fun h2 => by rw [goodF_bad h] at h2;cases h2.2)]
   have HK0:Hid (kn < 1 → lt = false):=fun h => by
    have e:a.key = []:=List.eq_nil_of_length_eq_zero (by rw [← HKN.out];omega)
    rw [HLT.out,e]
    cases lastK [] (l.take i) <;> rfl
   have HLT0:Hid (i = 0 → 1 ≤ kn → lt = true):=fun h0 h1 => by
    rw [HLT.out,h0];show ltB [] a.key = true;rw [ltB_nil];intro e;rw [HKN.out,e] at h1
    cases h1
   have HLTP:Hid (0 < i → (Op.bytesLess (strB a.key).toList (strB (l.getD (i - 1) ⟨[],false,[]⟩).key).toList || ((strB a.key).toList == (strB (l.getD (i - 1) ⟨[],false,[]⟩).key).toList)) = !lt):=fun h0 => by
    have h1:=lastK_step (l:=l) (i:=i - 1) (by omega)
    rw [show i - 1 + 1 = i by omega] at h1
    rw [leq_str,HLT.out,h1]
   clear hrg hrd hst
   by_cases h1:kn < 1
   · have q2:(kn:Int) < 1:=by omega
     obtain rfl:X = 1:=HBAD.out (by
      rw [HST2.out];rw [HK0.out h1];rfl)
     obtain ⟨tk0,tk1,tk2,tk3⟩:=sqk4
     go_wp2_with (first
      | (clear tk0;with_reducible refine wpSeq_idxA (.tmp 14) (.tmp 15) b off n c i HIN.out ?_ ?_ ?_ ?_ ?_
         · rfl
         · rfl
         · rfl
         · rfl)
      | (clear tk1;with_reducible refine wpSeq_loadW 62 (.tmp 16) b (off + i * 3) [.string ks,.bool st,.slice av nv cv] _ HRG.out Tryz.underlying62 rfl (info_act15 _ _ _) ?_ ?_ ?_ ?_
         · rfl
         · rfl
         · rfl)
      | (clear tk2;with_reducible refine wpSeq_allocA ?_ ?_ ?_
         · rfl
         · rfl
         intro g4 y1 nn;have HG4:Hid (Blk y1 g4 zA 62 ∧ wr.heap.size ≤ g4):=⟨nn.blk,nn.ge⟩;have HB1:Hid (Below wr.heap.size wr y1):=nn.below;clear nn)
      | (clear tk3;with_reducible refine wpSeq_storeRow 62 (.tmp 4) (.tmp 17) g4 zA [.string ks,.bool st,.slice av nv cv] HG4.out.1 rfl (info_act15 _ _ _) (one_act _ _ _ _ _) ?_ ?_ ?_ ?_ ?_
         · rfl
         · rfl
         · rfl
         · rfl
         intro y2 hset;have HK4:Hid (Blk y2 g4 [.string ks,.bool st,.slice av nv cv] 62):=hset.blk;have c0:y2.cell? ⟨g4,0,none⟩ = some (.string ks):=hset.blk.cell 0;have c1:y2.cell? ⟨g4,1,none⟩ = some (.bool st):=hset.blk.cell 1;have c2:y2.cell? ⟨g4,2,none⟩ = some (.slice av nv cv):=hset.blk.cell 2;have HB3:Hid (Below wr.heap.size wr y2):=HB1.out.trans (hset.only.below HG4.out.2 HB1.out.size);have HB2:Hid (Below w.heap.size w y2):=HBW.out.trans (HB3.out.mono HBW.out.size);clear hset))
     go_ret;exact ⟨rfl,HB2.out⟩
   have q2:¬ ((kn:Int) < 1):=by omega
   by_cases h2:64 < kn
   · have q3:(64:Int) < (kn:Int):=by omega
     obtain rfl:X = 1:=HBAD.out (by
      rw [HST2.out];rw [decide_eq_false (by omega)];simp)
     obtain ⟨tk0,tk1,tk2,tk3⟩:=sqk4
     go_wp2_with (first
      | (clear tk0;with_reducible refine wpSeq_idxA (.tmp 14) (.tmp 15) b off n c i HIN.out ?_ ?_ ?_ ?_ ?_
         · rfl
         · rfl
         · rfl
         · rfl)
      | (clear tk1;with_reducible refine wpSeq_loadW 62 (.tmp 16) b (off + i * 3) [.string ks,.bool st,.slice av nv cv] _ HRG.out Tryz.underlying62 rfl (info_act15 _ _ _) ?_ ?_ ?_ ?_
         · rfl
         · rfl
         · rfl)
      | (clear tk2;with_reducible refine wpSeq_allocA ?_ ?_ ?_
         · rfl
         · rfl
         intro g4 y1 nn;have HG4:Hid (Blk y1 g4 zA 62 ∧ wr.heap.size ≤ g4):=⟨nn.blk,nn.ge⟩;have HB1:Hid (Below wr.heap.size wr y1):=nn.below;clear nn)
      | (clear tk3;with_reducible refine wpSeq_storeRow 62 (.tmp 4) (.tmp 17) g4 zA [.string ks,.bool st,.slice av nv cv] HG4.out.1 rfl (info_act15 _ _ _) (one_act _ _ _ _ _) ?_ ?_ ?_ ?_ ?_
         · rfl
         · rfl
         · rfl
         · rfl
         intro y2 hset;have HK4:Hid (Blk y2 g4 [.string ks,.bool st,.slice av nv cv] 62):=hset.blk;have c0:y2.cell? ⟨g4,0,none⟩ = some (.string ks):=hset.blk.cell 0;have c1:y2.cell? ⟨g4,1,none⟩ = some (.bool st):=hset.blk.cell 1;have c2:y2.cell? ⟨g4,2,none⟩ = some (.slice av nv cv):=hset.blk.cell 2;have HB3:Hid (Below wr.heap.size wr y2):=HB1.out.trans (hset.only.below HG4.out.2 HB1.out.size);have HB2:Hid (Below w.heap.size w y2):=HBW.out.trans (HB3.out.mono HBW.out.size);clear hset))
     go_ret;exact ⟨rfl,HB2.out⟩
   have q3:¬ ((64:Int) < (kn:Int)):=by omega
   have HSM:Hid (1 ≤ kn ∧ kn ≤ 64):=⟨by omega,by omega⟩
   by_cases h3:st = false ∧ 0 < nv
   · obtain ⟨rfl,h3⟩:=h3
     have q4:(0:Int) < (nv:Int):=by omega
     obtain rfl:X = 1:=HBAD.out (by
      rw [HST2.out];have hq:¬ (nv = 0):=by omega
      rw [if_neg Bool.false_ne_true,decide_eq_false hq];simp)
     obtain ⟨tk0,tk1,tk2,tk3⟩:=sqk4
     go_wp2_with (first
      | (clear tk0;with_reducible refine wpSeq_idxA (.tmp 14) (.tmp 15) b off n c i HIN.out ?_ ?_ ?_ ?_ ?_
         · rfl
         · rfl
         · rfl
         · rfl)
      | (clear tk1;with_reducible refine wpSeq_loadW 62 (.tmp 16) b (off + i * 3) [.string ks,.bool false,.slice av nv cv] _ HRG.out Tryz.underlying62 rfl (info_act15 _ _ _) ?_ ?_ ?_ ?_
         · rfl
         · rfl
         · rfl)
      | (clear tk2;with_reducible refine wpSeq_allocA ?_ ?_ ?_
         · rfl
         · rfl
         intro g4 y1 nn;have HG4:Hid (Blk y1 g4 zA 62 ∧ wr.heap.size ≤ g4):=⟨nn.blk,nn.ge⟩;have HB1:Hid (Below wr.heap.size wr y1):=nn.below;clear nn)
      | (clear tk3;with_reducible refine wpSeq_storeRow 62 (.tmp 4) (.tmp 17) g4 zA [.string ks,.bool false,.slice av nv cv] HG4.out.1 rfl (info_act15 _ _ _) (one_act _ _ _ _ _) ?_ ?_ ?_ ?_ ?_
         · rfl
         · rfl
         · rfl
         · rfl
         intro y2 hset;have HK4:Hid (Blk y2 g4 [.string ks,.bool false,.slice av nv cv] 62):=hset.blk;have c0:y2.cell? ⟨g4,0,none⟩ = some (.string ks):=hset.blk.cell 0;have c1:y2.cell? ⟨g4,1,none⟩ = some (.bool false):=hset.blk.cell 1;have c2:y2.cell? ⟨g4,2,none⟩ = some (.slice av nv cv):=hset.blk.cell 2;have HB3:Hid (Below wr.heap.size wr y2):=HB1.out.trans (hset.only.below HG4.out.2 HB1.out.size);have HB2:Hid (Below w.heap.size w y2):=HBW.out.trans (HB3.out.mono HBW.out.size);clear hset))
     go_ret;exact ⟨rfl,HB2.out⟩
   by_cases h5:1048576 < nv
   · have q5:(1048576:Int) < (nv:Int):=by omega
     cases st with
     | false => exact absurd ⟨rfl,by omega⟩ h3
     | true =>
      obtain rfl:X = 1:=HBAD.out (by
       rw [HST2.out];have hq:¬ (nv ≤ 1048576):=by omega
       rw [if_pos rfl,decide_eq_false hq];simp)
      obtain ⟨tk0,tk1,tk2,tk3⟩:=sqk4
      go_wp2_with (first
       | (clear tk0;with_reducible refine wpSeq_idxA (.tmp 14) (.tmp 15) b off n c i HIN.out ?_ ?_ ?_ ?_ ?_
          · rfl
          · rfl
          · rfl
          · rfl)
       | (clear tk1;with_reducible refine wpSeq_loadW 62 (.tmp 16) b (off + i * 3) [.string ks,.bool true,.slice av nv cv] _ HRG.out Tryz.underlying62 rfl (info_act15 _ _ _) ?_ ?_ ?_ ?_
          · rfl
          · rfl
          · rfl)
       | (clear tk2;with_reducible refine wpSeq_allocA ?_ ?_ ?_
          · rfl
          · rfl
          intro g4 y1 nn;have HG4:Hid (Blk y1 g4 zA 62 ∧ wr.heap.size ≤ g4):=⟨nn.blk,nn.ge⟩;have HB1:Hid (Below wr.heap.size wr y1):=nn.below;clear nn)
       | (clear tk3;with_reducible refine wpSeq_storeRow 62 (.tmp 4) (.tmp 17) g4 zA [.string ks,.bool true,.slice av nv cv] HG4.out.1 rfl (info_act15 _ _ _) (one_act _ _ _ _ _) ?_ ?_ ?_ ?_ ?_
          · rfl
          · rfl
          · rfl
          · rfl
          intro y2 hset;have HK4:Hid (Blk y2 g4 [.string ks,.bool true,.slice av nv cv] 62):=hset.blk;have c0:y2.cell? ⟨g4,0,none⟩ = some (.string ks):=hset.blk.cell 0;have c1:y2.cell? ⟨g4,1,none⟩ = some (.bool true):=hset.blk.cell 1;have c2:y2.cell? ⟨g4,2,none⟩ = some (.slice av nv cv):=hset.blk.cell 2;have HB3:Hid (Below wr.heap.size wr y2):=HB1.out.trans (hset.only.below HG4.out.2 HB1.out.size);have HB2:Hid (Below w.heap.size w y2):=HBW.out.trans (HB3.out.mono HBW.out.size);clear hset))
      go_ret;exact ⟨rfl,HB2.out⟩
   have q5:¬ ((1048576:Int) < (nv:Int)):=by omega
   have HOK:Hid (goodF [] (l.take (i + 1)) = lt):=by
    show _ = _;rw [HST2.out,decide_eq_true HSM.out.2]
    cases st with
    | false => rw [if_neg Bool.false_ne_true,decide_eq_true (by have:¬ (0 < nv):=fun h => h3 ⟨rfl,h⟩;omega)];simp
    | true => rw [if_pos rfl,decide_eq_true (by omega)];simp
   have q4:st = false → ¬ ((0:Int) < (nv:Int)):=fun e h => h3 ⟨e,by omega⟩
   clear h1 h2 h3 h5
   by_cases h0:i = 0
   · have q6:¬ ((0:Int) < (i:Int)):=by omega
     have HGN:Hid (goodF [] (l.take (i + 1)) = true):=by rw [HOK.out];exact HLT0.out h0 HSM.out.1
     have HI0:Hid (i = 0):=h0;clear h0 q6;obtain ⟨sx,HSX⟩:=sqn (st);rw [← HSX.out] at HRG
     cases st
     all_goals (
      try (have q7:=q4 rfl)
      clear q4;obtain ⟨tk0,tk1,tk2,tk3⟩:=sqk4
      go_wp2_with (first
       | (clear tk0;with_reducible refine wpSeq_idxA (.tmp 14) (.tmp 15) b off n c i HIN.out ?_ ?_ ?_ ?_ ?_
          · rfl
          · rfl
          · rfl
          · rfl)
       | (clear tk1;with_reducible refine wpSeq_loadW 62 (.tmp 16) b (off + i * 3) [.string ks,.bool sx,.slice av nv cv] _ HRG.out Tryz.underlying62 rfl (info_act15 _ _ _) ?_ ?_ ?_ ?_
          · rfl
          · rfl
          · rfl)
       | (clear tk2;with_reducible refine wpSeq_allocA ?_ ?_ ?_
          · rfl
          · rfl
          intro g4 y1 nn;have HG4:Hid (Blk y1 g4 zA 62 ∧ wr.heap.size ≤ g4):=⟨nn.blk,nn.ge⟩;have HB1:Hid (Below wr.heap.size wr y1):=nn.below;clear nn)
       | (clear tk3;with_reducible refine wpSeq_storeRow 62 (.tmp 4) (.tmp 17) g4 zA [.string ks,.bool sx,.slice av nv cv] HG4.out.1 rfl (info_act15 _ _ _) (one_act _ _ _ _ _) ?_ ?_ ?_ ?_ ?_
          · rfl
          · rfl
          · rfl
          · rfl
          intro y2 hset;have HK4:Hid (Blk y2 g4 [.string ks,.bool sx,.slice av nv cv] 62):=hset.blk;have c0:y2.cell? ⟨g4,0,none⟩ = some (.string ks):=hset.blk.cell 0;have c1:y2.cell? ⟨g4,1,none⟩ = some (.bool sx):=hset.blk.cell 1;rw [HSX.out] at c1;have c2:y2.cell? ⟨g4,2,none⟩ = some (.slice av nv cv):=hset.blk.cell 2;have HB3:Hid (Below wr.heap.size wr y2):=HB1.out.trans (hset.only.below HG4.out.2 HB1.out.size);have HB2:Hid (Below w.heap.size w y2):=HBW.out.trans (HB3.out.mono HBW.out.size);clear hset))
      clear c0 c1 c2;refine wp_region_held_drew (S:=fun wx => Below w.heap.size w wx) (by kernel_rfl) HB2.out.drew ?_
      intro hS
      change wpAnyH _ _ _ _ _ _ _ _ (World.drew y2)
      generalize World.drew y2 = y3 at *
      refine tkc 0 (.int .i64 (i:Int)) rfl hS ?_;simp only [Act.put,sq];refine tka 1 (.bool false) rfl (fun wx hx => by (simp [go_sem];exact HI0.out)) hS ?_
      simp only [Act.put,sq];refine tkc 2 (.bool false) rfl hS ?_;simp only [Act.put,sq];refine tkb 3 rfl hS ?_;simp only [Act.put,sq];refine tkb 4 rfl hS ?_;simp only [Act.put,sq];refine tkb 5 rfl hS ?_;simp only [Act.put,sq];refine tkb 6 rfl hS ?_;simp only [Act.put,sq];refine tkb 7 rfl hS ?_;simp only [Act.put,sq];refine tkb 8 rfl hS ?_;simp only [Act.put,sq];refine tkb 9 rfl hS ?_;simp only [Act.put,sq];refine tkb 10 rfl hS ?_;simp only [Act.put,sq];refine tkb 11 rfl hS ?_;simp only [Act.put,sq];refine tkc 12 (.bool false) rfl hS ?_;simp only [Act.put,sq];refine wpAnyH_done (by kernel_rfl) ?_ _
      go_wp2;go_roundw
      case rel => exact ⟨i + 1,by omega,by simp,HGN,hS⟩
      case measure => simp [intOf];omega)
   · have q6:(0:Int) < (i:Int):=by omega
     have hp:i - 1 < l.length:=by omega
     obtain ⟨m,HM⟩:=sqn (i - 1);have f2:IntKind.i64.wrap ((i:Int) - 1) = (m:Int):=by rw [IntKind.wrap_i64];have h1:=HM.out;have h2:=H4.out;omega
     have HMN:Hid (m < n):=by have:=HM.out;show _ < _;omega
     obtain ⟨b',off',vd',e',hrg',hrd'⟩:=HR.out.at hp;simp only [Option.some.injEq,Addr.mk.injEq] at e';obtain ⟨rfl,rfl,_⟩:=e';rw [← HM.out] at hrg';have hlp:=HLTP.out (by omega)
     rw [← HM.out,← HKS.out] at hlp;obtain ⟨ps,HPS⟩:∃ s,Hid (s = strB (l.getD m ⟨[],false,[]⟩).key):=⟨_,rfl⟩;rw [← HPS.out] at hlp
     have HPC:Hid (∀ W,Below w.heap.size w W → W.cell? ⟨b,off + m * 3,none⟩ = some (.string ps)):=fun W hW => by
      have h:=range_below hrg' hW (block_lt_of_cell (hrg' 0 _ rfl)) 0 (.string (strB (l.getD m ⟨[],false,[]⟩).key)) rfl;rw [HPS.out];exact h
     have HLE:Hid ((Op.bytesLess ks.toList ps.toList || (ks.toList == ps.toList)) = !lt):=hlp;have HIP:Hid (0 < i):=by show 0 < i;omega
     clear hp hrg' hrd' hlp h0 q6;obtain ⟨sx,HSX⟩:=sqn (st);rw [← HSX.out] at HRG
     cases st
     all_goals (
      try (have q7:=q4 rfl)
      clear q4;obtain ⟨tk0,tk1,tk2,tk3⟩:=sqk4
      go_wp2_with (first
       | (clear tk0;with_reducible refine wpSeq_idxA (.tmp 14) (.tmp 15) b off n c i HIN.out ?_ ?_ ?_ ?_ ?_
          · rfl
          · rfl
          · rfl
          · rfl)
       | (clear tk1;with_reducible refine wpSeq_loadW 62 (.tmp 16) b (off + i * 3) [.string ks,.bool sx,.slice av nv cv] _ HRG.out Tryz.underlying62 rfl (info_act15 _ _ _) ?_ ?_ ?_ ?_
          · rfl
          · rfl
          · rfl)
       | (clear tk2;with_reducible refine wpSeq_allocA ?_ ?_ ?_
          · rfl
          · rfl
          intro g4 y1 nn;have HG4:Hid (Blk y1 g4 zA 62 ∧ wr.heap.size ≤ g4):=⟨nn.blk,nn.ge⟩;have HB1:Hid (Below wr.heap.size wr y1):=nn.below;clear nn)
       | (clear tk3;with_reducible refine wpSeq_storeRow 62 (.tmp 4) (.tmp 17) g4 zA [.string ks,.bool sx,.slice av nv cv] HG4.out.1 rfl (info_act15 _ _ _) (one_act _ _ _ _ _) ?_ ?_ ?_ ?_ ?_
          · rfl
          · rfl
          · rfl
          · rfl
          intro y2 hset;have HK4:Hid (Blk y2 g4 [.string ks,.bool sx,.slice av nv cv] 62):=hset.blk;have c0:y2.cell? ⟨g4,0,none⟩ = some (.string ks):=hset.blk.cell 0;have c1:y2.cell? ⟨g4,1,none⟩ = some (.bool sx):=hset.blk.cell 1;rw [HSX.out] at c1;have c2:y2.cell? ⟨g4,2,none⟩ = some (.slice av nv cv):=hset.blk.cell 2;have HB3:Hid (Below wr.heap.size wr y2):=HB1.out.trans (hset.only.below HG4.out.2 HB1.out.size);have HB2:Hid (Below w.heap.size w y2):=HBW.out.trans (HB3.out.mono HBW.out.size);clear hset))
      clear c0 c1 c2;refine wp_region_held_drew (S:=fun wx => Below w.heap.size w wx ∧ Blk wx g4 [.string ks,.bool sx,.slice av nv cv] 62) (by kernel_rfl) ⟨HB2.out.drew,HK4.out.drew⟩ ?_
      intro hS
      change wpAnyH _ _ _ _ _ _ _ _ (World.drew y2)
      generalize World.drew y2 = y3 at *
      refine tkc 0 (.int .i64 (i:Int)) rfl hS ?_;simp only [Act.put,sq];refine tka 1 (.bool true) rfl (fun wx hx => by (simp [go_sem];exact HIP.out)) hS ?_
      simp only [Act.put,sq];refine tkc 2 (.bool true) rfl hS ?_;simp only [Act.put,sq];refine tkc 3 (.pointer (some ⟨g4,0,none⟩)) rfl hS ?_;simp only [Act.put,sq];refine tka 4 (.string ks) rfl (fun wx hx => by (have hc:=hx.2.cell 0;simp at hc;simp [go_sem,hc])) hS ?_
      simp only [Act.put,sq];refine tkc 5 (.slice (some ⟨b,off,none⟩) n c) rfl hS ?_;simp only [Act.put,sq];refine tkc 6 (.int .i64 (i:Int)) rfl hS ?_;simp only [Act.put,sq];refine tka 7 (.int .i64 (m:Int)) rfl (fun wx hx => by simp [go_sem,f2]) hS ?_
      simp only [Act.put,sq];refine tka 8 (.pointer (some ⟨b,off + m * 3,none⟩)) rfl (fun wx hx => by exact idxA b off n c m HMN.out _ _ _ _ rfl rfl rfl _) hS ?_
      simp only [Act.put,sq];refine tkc 9 (.pointer (some ⟨b,off + m * 3,none⟩)) rfl hS ?_;simp only [Act.put,sq];refine tka 10 (.string ps) rfl (fun wx hx => by (have hc:=HPC.out wx hx.1;simp [go_sem,hc])) hS ?_
      simp only [Act.put,sq];refine tka 11 (.bool (!lt)) rfl (fun wx hx => by exact run_strOp .leq ks ps (!lt) HLE.out (Or.inr (Or.inl rfl)) _ _ _ _ rfl rfl rfl _) hS ?_
      simp only [Act.put,sq];refine tkc 12 (.bool (!lt)) rfl hS ?_;simp only [Act.put,sq];refine wpAnyH_done (by kernel_rfl) ?_ _
      cases lt with
      | true =>
       rw [Bool.not_true];go_wp2;go_roundw
       case rel => exact ⟨i + 1,by omega,by simp,HOK,hS.1⟩
       case measure => simp [intOf];omega
      | false =>
       obtain rfl:X = 1:=HBAD.out HOK.out;rw [Bool.not_false];go_wp2;go_ret;exact ⟨rfl,hS.1⟩)
theorem build_y1 (f:Operand → Value) (o:Oper) (b:BitVec 8) (ho:o.op = .buildSlice 23 1 #[(0,.const (.int .u8 (b.toNat:Int)))]) (hf:f (.const (.int .u8 (b.toNat:Int))) = .int .u8 (b.toNat:Int)) (w:World):(execOp f o).run Tryz.prog w = .ok (.value (.slice (some ⟨w.heap.size,0,none⟩) 1 1)) (w.alloc (.cells (cb [b]).toArray 5)):=by
 unfold execOp
 rw [ho]
 simp only [List.map_toArray,List.map_cons,List.map_nil,hf]
 kernel_rfl
theorem wpSeq_buildY1 {ops:Array Oper} {Q:Exit → Act → World → Prop} {rest:List Oper} {o:Oper} {a:Act} {w:World} (b:BitVec 8) (ho:o.op = .buildSlice 23 1 #[(0,.const (.int .u8 (b.toNat:Int)))]) (hw:Region.wanted o (yielded ops a.tmps) = true)
 (h:∀ g w',NewR (cb [b]) 5 w g w' → wpList Tryz.prog ops Q rest (a.put o.dst (.slice (some ⟨g,0,none⟩) 1 1)) w'):wpList Tryz.prog ops Q (o :: rest) a w:=
 wpSeq_val _ _ hw (build_y1 _ _ b ho rfl _) (h _ _ (NewR.of _ _ w))
theorem oBatch_any (v:Value) (l:List ActT) (w:World) (hr:ReadsA w v l) (hz:okZ l):Calls Tryz.prog 18 #[v] w fun e w' => ∃ vb,e = .returned vb ∧ OwnB w' w.heap.size vb (batchB l) ∧ Below w.heap.size w w':=by
 have HR:Hid (ReadsA w v l):=hr
 have HZ:Hid (okZ l):=hz
 obtain ⟨n,HN⟩:=sqn (l.length)
 obtain ⟨ad,c,hv⟩:=hr.form
 rw [← HN.out] at hv
 subst hv
 have HNB:Hid (n ≤ 1000000):=by rw [HN.out];exact hz.n
 have f0:IntKind.u64.wrap (n:Int) = (n:Int):=by rw [IntKind.wrap_u64];have:=HNB.out;omega
 clear hr hz
 go_enter Tryz.func18,Tryz.ntmps18
 have tk0:Hid True:=trivial
 go_wp2_with (first
  | (clear tk0;go_at_call 47;refine (qnum_any n (by have:=HNB.out;omega) _).mono ?_;rintro e0 y1 ⟨v1,rfl,ho1,hb1⟩
     have HB0:Hid (OwnB y1 w.heap.size v1 (encNum l.length ++ encAll encA (l.take 0))):=by
      show OwnB _ _ _ _;rw [← HN.out,List.take_zero,show encAll encA [] = [] from rfl,List.append_nil];exact ho1
     have HB1:Hid (Below w.heap.size w y1):=hb1;obtain ⟨a1,n1,c1,hv1⟩:=ho1.reads.form;subst hv1;clear ho1 hb1))
 clear f0
 go_loopw [3,4] (fun bv iv W => ∃ (ab:Option Addr) (nb cb i:Nat),bv = .slice ab nb cb ∧ iv = .int .i64 (i:Int) ∧ i ≤ n ∧ Hid (OwnB W w.heap.size (.slice ab nb cb) (encNum l.length ++ encAll encA (l.take i))) ∧ Hid (Below w.heap.size w W)) (fun _ iv _ => n - (intOf iv).toNat)
 case atStart => exact ⟨a1,n1,c1,0,rfl,rfl,Nat.zero_le _,HB0,HB1⟩
 case round =>
  clear HB0 HB1
  obtain ⟨ab,nb,cbb,i,rfl,rfl,hi,HBB,HBW⟩:=hrel
  by_cases hin:i < n
  case neg =>
   have hlk:¬ ((i:Int) < (n:Int)):=by omega
   have hall:encNum l.length ++ encAll encA (l.take i) = batchB l:=by rw [List.take_of_length_le (by rw [← HN.out];omega)];rfl
   rw [hall] at HBB;have HBF:Hid (OwnB wr w.heap.size (.slice ab nb cbb) (batchB l)):=HBB.out;go_wp2;go_ret;exact ⟨_,rfl,HBF.out,HBW.out⟩
  case pos =>
   have hlk:(i:Int) < (n:Int):=by omega
   have f1:IntKind.i64.wrap ((i:Int) + 1) = (i:Int) + 1:=by rw [IntKind.wrap_i64];have:=HNB.out;omega
   have HIN:Hid (i < n):=hin;have hil:i < l.length:=by rw [← HN.out];exact hin
   obtain ⟨b,off,vd,rfl,hrg,hrd⟩:=HR.out.at hil;have hbt:=batch_take hil;obtain ⟨a,HA⟩:∃ a,Hid (a = l.getD i ⟨[],false,[]⟩):=⟨_,rfl⟩;have hmem:a ∈ l:=by rw [HA.out,List.getD_eq_getElem?_getD,List.getElem?_eq_getElem hil];exact List.getElem_mem hil
   rw [← HA.out] at hrg hrd hbt;obtain ⟨ks,HKS⟩:=sqn (strB a.key);obtain ⟨st,HST⟩:=sqn (a.set);obtain ⟨av,nv,cv,hvd⟩:=hrd.form;subst hvd;obtain ⟨bl,HBL⟩:=sqn (encNum l.length ++ encAll encA (l.take i));rw [← HBL.out] at HBB hbt;have HBT:Hid (encNum l.length ++ encAll encA (l.take (i + 1)) = bl ++ (encText a.key ++ (if st then encNum 1 ++ encText a.data else encNum 0))):=by show _ = _;rw [hbt,encA,HST.out]
   have HLN:Hid (bl.length + (encText a.key).length + (encText a.data).length + 100 ≤ 10000000000 ∧ a.key.length + 10 ≤ 10000000000 ∧ a.data.length + 10 ≤ 10000000000):=by
    have h1:=batch_pre l i;rw [← HBL.out] at h1;have h2:=HZ.out.z;have h3:=encA_big hmem;have h4:=encA_len a;have h5:=HZ.out.d a hmem;have h6:(encText a.key).length ≤ (encA a).length:=by rw [encA,List.length_append];omega
    have h7:(encText a.data).length ≤ a.data.length + 10:=by rw [encText,List.length_append];have:=enc_len10 a.data.length (by omega);omega
    refine ⟨by omega,?_,by omega⟩
    split at h4 <;> omega
   have HCL:Hid (∀ W,Below w.heap.size w W → W.rangeAt b (off + i * 3) [.string ks,.bool st,.slice av nv cv]):=fun W hW => by rw [HKS.out,HST.out];exact range_below hrg hW (block_lt_of_cell (hrg 0 _ rfl))
   have HDD:Hid (∀ W,Below w.heap.size w W → Reads W (.slice av nv cv) a.data):=fun W hW => hrd.below hW
   clear hrg hrd hbt hmem hil;have c0:wr.cell? ⟨b,off + i * 3,none⟩ = some (.string ks):=HCL.out wr HBW.out 0 _ rfl
   cases st with
   | false =>
    obtain ⟨tk0,tk1,tk2,tk3,tk4,tk5,tk6⟩:=sqk7
    go_wp2_with (first
     | (clear tk0;with_reducible refine wpSeq_idxA (.tmp 16) (.tmp 17) b off n c i HIN.out ?_ ?_ ?_ ?_ ?_
        · rfl
        · rfl
        · rfl
        · rfl)
     | (clear tk1;with_reducible refine wpSeq_convS (.tmp 20) ks a.key HKS.out ?_ ?_ ?_ ?_
        · rfl
        · rfl
        · rfl
        intro ak nk ck y2 hrk hbk;have HRK:Hid (Reads y2 (.slice ak nk ck) a.key):=hrk;have HB2:Hid (Below w.heap.size w y2):=HBW.out.trans (hbk.mono HBW.out.size);have HO2:Hid (OwnB y2 w.heap.size (.slice ab nb cbb) bl):=HBB.out.newS hbk;clear hrk hbk c0)
     | (clear tk2;go_at_call 48;refine (qtext_any _ a.key _ HRK.out (by have:=HLN.out;omega)).mono ?_;rintro e0 y3 ⟨v3,rfl,hr3,hb3⟩
        have HR3:Hid (Reads y3 v3 (encText a.key)):=hr3;have HB3:Hid (Below w.heap.size w y3):=HB2.out.trans (hb3.mono HB2.out.size);have HO3:Hid (OwnB y3 w.heap.size (.slice ab nb cbb) bl):=HO2.out.newS hb3;obtain ⟨a3,n3,c3,hv3⟩:=hr3.form;subst hv3;clear hr3 hb3)
     | (clear tk3;at_builtin;refine wpList_appendB rfl (.tmp 15) (.tmp 22) rfl w.heap.size _ bl rfl HO3.out _ (encText a.key) rfl HR3.out (by have:=HLN.out;omega) HB3.out.size ?_
        intro v4 y4 ho4 hb4 _;have HO4:Hid (OwnB y4 w.heap.size v4 (bl ++ encText a.key)):=ho4;have HB4:Hid (Below w.heap.size w y4):=HB3.out.trans hb4;obtain ⟨a4,n4,c4,hv4⟩:=ho4.reads.form;subst hv4;have c1:y4.cell? ⟨b,off + i * 3 + 1,none⟩ = some (.bool false):=HCL.out y4 HB4.out 1 _ rfl;clear ho4 hb4)
     | (clear tk4;with_reducible refine wpSeq_idxA (.tmp 24) (.tmp 25) b off n c i HIN.out ?_ ?_ ?_ ?_ ?_
        · rfl
        · rfl
        · rfl
        · rfl)
     | (clear tk5;with_reducible refine wpSeq_buildY1 0 ?_ ?_ ?_
        · rfl
        · rfl
        intro g5 y5 nn;have HR5:Hid (Reads y5 (.slice (some ⟨g5,0,none⟩) 1 1) [0]):=nn.blk.reads rfl (Nat.le_refl _);have HB5:Hid (Below w.heap.size w y5):=HB4.out.trans (nn.below.mono HB4.out.size);have HO5:Hid (OwnB y5 w.heap.size (.slice a4 n4 c4) (bl ++ encText a.key)):=HO4.out.newS nn.below;clear nn c1)
     | (clear tk6;at_builtin;refine wpList_appendB rfl (.tmp 40) (.tmp 41) rfl w.heap.size _ _ rfl HO5.out _ [0] rfl HR5.out (by rw [List.length_append];have:=HLN.out;simp;omega) HB5.out.size ?_
        intro v9 y9 ho9 hb9 _
        have HO9:Hid (OwnB y9 w.heap.size v9 (encNum l.length ++ encAll encA (l.take (i + 1)))):=by
         have hbt:=HBT.out;simp only [Bool.false_eq_true,if_false] at hbt;show OwnB _ _ _ _;rw [hbt,← List.append_assoc,encNum_lt (by decide)]
         exact ho9
        have HB9:Hid (Below w.heap.size w y9):=HB5.out.trans hb9;obtain ⟨a9,n9,c9,hv9⟩:=ho9.reads.form;subst hv9;clear ho9 hb9))
    go_roundw
    case rel => exact ⟨a9,n9,c9,i + 1,rfl,by simp,by omega,HO9,HB9⟩
    case measure => simp [intOf];omega
   | true =>
    obtain ⟨tk0,tk1,tk2,tk3,tk4,tk5,tk6,tk7,tk8,tk9⟩:=sqk10
    go_wp2_with (first
     | (clear tk0;with_reducible refine wpSeq_idxA (.tmp 16) (.tmp 17) b off n c i HIN.out ?_ ?_ ?_ ?_ ?_
        · rfl
        · rfl
        · rfl
        · rfl)
     | (clear tk1;with_reducible refine wpSeq_convS (.tmp 20) ks a.key HKS.out ?_ ?_ ?_ ?_
        · rfl
        · rfl
        · rfl
        intro ak nk ck y2 hrk hbk;have HRK:Hid (Reads y2 (.slice ak nk ck) a.key):=hrk;have HB2:Hid (Below w.heap.size w y2):=HBW.out.trans (hbk.mono HBW.out.size);have HO2:Hid (OwnB y2 w.heap.size (.slice ab nb cbb) bl):=HBB.out.newS hbk;clear hrk hbk c0)
     | (clear tk2;go_at_call 48;refine (qtext_any _ a.key _ HRK.out (by have:=HLN.out;omega)).mono ?_;rintro e0 y3 ⟨v3,rfl,hr3,hb3⟩
        have HR3:Hid (Reads y3 v3 (encText a.key)):=hr3;have HB3:Hid (Below w.heap.size w y3):=HB2.out.trans (hb3.mono HB2.out.size);have HO3:Hid (OwnB y3 w.heap.size (.slice ab nb cbb) bl):=HO2.out.newS hb3;obtain ⟨a3,n3,c3,hv3⟩:=hr3.form;subst hv3;clear hr3 hb3)
     | (clear tk3;at_builtin;refine wpList_appendB rfl (.tmp 15) (.tmp 22) rfl w.heap.size _ bl rfl HO3.out _ (encText a.key) rfl HR3.out (by have:=HLN.out;omega) HB3.out.size ?_
        intro v4 y4 ho4 hb4 _;have HO4:Hid (OwnB y4 w.heap.size v4 (bl ++ encText a.key)):=ho4;have HB4:Hid (Below w.heap.size w y4):=HB3.out.trans hb4;obtain ⟨a4,n4,c4,hv4⟩:=ho4.reads.form;subst hv4;have c1:y4.cell? ⟨b,off + i * 3 + 1,none⟩ = some (.bool true):=HCL.out y4 HB4.out 1 _ rfl;clear ho4 hb4)
     | (clear tk4;with_reducible refine wpSeq_idxA (.tmp 24) (.tmp 25) b off n c i HIN.out ?_ ?_ ?_ ?_ ?_
        · rfl
        · rfl
        · rfl
        · rfl)
     | (clear tk5;with_reducible refine wpSeq_buildY1 1 ?_ ?_ ?_
        · rfl
        · rfl
        intro g5 y5 nn;have HR5:Hid (Reads y5 (.slice (some ⟨g5,0,none⟩) 1 1) [1]):=nn.blk.reads rfl (Nat.le_refl _);have HB5:Hid (Below w.heap.size w y5):=HB4.out.trans (nn.below.mono HB4.out.size);have HO5:Hid (OwnB y5 w.heap.size (.slice a4 n4 c4) (bl ++ encText a.key)):=HO4.out.newS nn.below;clear nn c1)
     | (clear tk6;at_builtin;refine wpList_appendB rfl (.tmp 29) (.tmp 30) rfl w.heap.size _ _ rfl HO5.out _ [1] rfl HR5.out (by rw [List.length_append];have:=HLN.out;simp;omega) HB5.out.size ?_
        intro v6 y6 ho6 hb6 _;have HO6:Hid (OwnB y6 w.heap.size v6 (bl ++ encText a.key ++ [1])):=ho6;have HB6:Hid (Below w.heap.size w y6):=HB5.out.trans hb6;obtain ⟨a6,n6,c6,hv6⟩:=ho6.reads.form;subst hv6;have c2:y6.cell? ⟨b,off + i * 3 + 2,none⟩ = some (.slice av nv cv):=HCL.out y6 HB6.out 2 _ rfl;clear ho6 hb6)
     | (clear tk7;with_reducible refine wpSeq_idxA (.tmp 33) (.tmp 34) b off n c i HIN.out ?_ ?_ ?_ ?_ ?_
        · rfl
        · rfl
        · rfl
        · rfl)
     | (clear tk8;go_at_call 48;refine (qtext_any _ a.data _ (HDD.out _ HB6.out) (by have:=HLN.out;omega)).mono ?_;rintro e0 y7 ⟨v7,rfl,hr7,hb7⟩
        have HR7:Hid (Reads y7 v7 (encText a.data)):=hr7;have HB7:Hid (Below w.heap.size w y7):=HB6.out.trans (hb7.mono HB6.out.size);have HO7:Hid (OwnB y7 w.heap.size (.slice a6 n6 c6) (bl ++ encText a.key ++ [1])):=HO6.out.newS hb7;obtain ⟨a7,n7,c7,hv7⟩:=hr7.form;subst hv7;clear hr7 hb7 c2)
     | (clear tk9;at_builtin;refine wpList_appendB rfl (.tmp 32) (.tmp 38) rfl w.heap.size _ _ rfl HO7.out _ (encText a.data) rfl HR7.out (by rw [List.length_append,List.length_append];have:=HLN.out;simp;omega) HB7.out.size ?_
        intro v9 y9 ho9 hb9 _
        have HO9:Hid (OwnB y9 w.heap.size v9 (encNum l.length ++ encAll encA (l.take (i + 1)))):=by
         have hbt:=HBT.out;simp only [if_true] at hbt;show OwnB _ _ _ _;rw [hbt,encNum_lt (by decide)]
         simp only [List.append_assoc] at ho9 ⊢;exact ho9
        have HB9:Hid (Below w.heap.size w y9):=HB7.out.trans hb9;obtain ⟨a9,n9,c9,hv9⟩:=ho9.reads.form;subst hv9;clear ho9 hb9))
    go_roundw
    case rel => exact ⟨a9,n9,c9,i + 1,rfl,by simp,by omega,HO9,HB9⟩
    case measure => simp [intOf];omega
structure Rd (w:World) (gr gi:Nat) (v:Value) (l:List (BitVec 8)):Prop where
 rd:Blk w gr [.pointer (some ⟨gi,0,none⟩)] 122
 inp:Blk w gi [v,.bool true,.bool false] 120
 byt:Reads w v l
def thrown (gi:Nat):Ending:=.panicked [{ v:=.iface 118 (.pointer (some ⟨gi,0,none⟩)),recovered:=false }]
structure Threw (gi:Nat) (w:World) (e:Ending) (w':World):Prop where
 eq:e = thrown gi
 bad:∃ v,Blk w' gi [v,.bool true,.bool true] 120 ∧ ∃ ad n c,v = .slice ad n c
 onl:Only gi w w'
theorem Rd.ne {w:World} {gr gi:Nat} {v:Value} {l:List (BitVec 8)} (h:Rd w gr gi v l):gr ≠ gi:=by
 intro he
 have h1:=h.rd
 have h2:=h.inp
 subst he
 unfold Blk at h1 h2
 rw [h1] at h2
 simp at h2
theorem Rd.slice {w:World} {gr gi:Nat} {v:Value} {l:List (BitVec 8)} (h:Rd w gr gi v l):∃ ad c,v = .slice ad l.length c:=by
 obtain ⟨ad,c,hv,_⟩:=h.byt
 exact ⟨ad,c,hv⟩
theorem Blk.apart {w:World} {gi:Nat} {u:Value} {x y:Bool} {t:TypeId} {l:List (BitVec 8)} (hb:Blk w gi [u,.bool x,.bool y] t) (hu:∃ ad n c,u = .slice ad n c):∀ b off,0 < l.length → (∀ j,j < l.length → w.cell? ⟨b,off + j,none⟩ = some (.int .u8 ((l.getD j 0).toNat:Int))) → b ≠ gi:=by
 intro b off hp hc he
 subst he
 have h0:=hc 0 hp
 rw [hb.cell] at h0
 obtain ⟨ad,n,c,rfl⟩:=hu
 match off,h0 with
 | 0,h0 => simp at h0
 | 1,h0 => simp at h0
 | 2,h0 => simp at h0
 | k + 3,h0 => simp at h0
theorem Reads.only {w w':World} {gi:Nat} {v u:Value} {x y:Bool} {t:TypeId} {l:List (BitVec 8)} (h:Reads w v l) (hb:Blk w gi [u,.bool x,.bool y] t) (hu:∃ ad n c,u = .slice ad n c) (ho:Only gi w w'):Reads w' v l:=by
 have ha:=hb.apart (l:=l) hu
 obtain ⟨ad,cap,rfl,hc,hn,hx⟩:=h
 refine ⟨ad,cap,rfl,hc,hn,fun hp => ?_⟩
 obtain ⟨b,off,h1,h2⟩:=hx hp
 exact ⟨b,off,h1,fun j hj => ho.cell (p:=⟨b,off + j,Option.none⟩) (ha b off hp h2) (h2 j hj)⟩
theorem Reads.take {w:World} {ad:Option Addr} {n c:Nat} {l:List (BitVec 8)} (h:Reads w (.slice ad n c) l) (k:Nat) (hk:k ≤ l.length):Reads w (.slice ad k c) (l.take k):=by
 obtain ⟨ad',cap,hv,hc,hn,hx⟩:=h
 simp only [Value.slice.injEq] at hv
 obtain ⟨rfl,rfl,rfl⟩:=hv
 have hl:(l.take k).length = k:=by rw [List.length_take];omega
 refine ⟨ad,c,by rw [hl],by omega,hn,fun hp => ?_⟩
 rw [hl] at hp ⊢
 obtain ⟨b,off,h1,h2⟩:=hx (by omega)
 refine ⟨b,off,h1,fun j hj => ?_⟩
 rw [h2 j (by omega)]
 simp [hj]
theorem Reads.drop {w:World} {ad:Addr} {n c:Nat} {l:List (BitVec 8)} (h:Reads w (.slice (Option.some ad) n c) l) (k:Nat) (hk:k ≤ l.length) (o:Addr) (ho:k < l.length → o = ad.add k):Reads w (.slice (Option.some o) (n - k) (c - k)) (l.drop k):=by
 obtain ⟨ad',cap,hv,hc,hn,hx⟩:=h
 simp only [Value.slice.injEq] at hv
 obtain ⟨rfl,rfl,rfl⟩:=hv
 have hl:(l.drop k).length = l.length - k:=by rw [List.length_drop]
 refine ⟨_,c - k,by rw [hl],by omega,(fun h => by cases h),fun hp => ?_⟩
 rw [hl] at hp ⊢
 obtain ⟨b',off',h1,h2⟩:=hx (by omega)
 simp only [Option.some.injEq] at h1
 subst h1
 have:=ho (by omega)
 rw [Addr.add_mid] at this
 subst this
 refine ⟨b',_,rfl,fun j hj => ?_⟩
 rw [Nat.add_assoc,h2 (k + j) (by omega)]
 simp
theorem Rd.next {w:World} {gr gi:Nat} {v:Value} {l:List (BitVec 8)} (h:Rd w gr gi v l) (v2:Value) (l2:List (BitVec 8)) (h2:Reads w v2 l2):Rd (w.setCell ⟨gi,0,none⟩ v2) gr gi v2 l2:=by
 obtain ⟨ad,c,hv⟩:=h.slice
 exact ⟨h.rd.other _ _ (by exact h.ne),h.inp.set 0 v2,h2.only h.inp ⟨ad,_,c,hv⟩ ((Only.refl _ _).setCell _ _)⟩
theorem cfail_any (gr gi:Nat) (v:Value) (l:List (BitVec 8)) (w:World) (h:Rd w gr gi v l) :
 Calls Tryz.prog 42 #[.pointer (some ⟨gr,0,none⟩)] w fun e w' => e = thrown gi ∧ w' = w.setCell ⟨gi,2,none⟩ (.bool true):=by
 have c1:w.cell? ⟨gr,0,none⟩ = some (.pointer (some ⟨gi,0,none⟩)):=h.rd.cell 0
 have c2:w.cell? ⟨gi,1,none⟩ = some (.bool true):=h.inp.cell 1
 have c3:w.cell? ⟨gi,2,none⟩ = some (.bool false):=h.inp.cell 2
 have f3:w.frozen? ⟨gi,2,none⟩ = false:=h.inp.frozen 2
 have hne:=h.ne
 unfold thrown
 clear h
 go_enter Tryz.func42,Tryz.ntmps42
 go_wp2
 exact ⟨rfl,rfl,rfl⟩
theorem Rd.threw {w:World} {gr gi:Nat} {v:Value} {l:List (BitVec 8)} (h:Rd w gr gi v l):Threw gi w (thrown gi) (w.setCell ⟨gi,2,none⟩ (.bool true)):=by
 obtain ⟨ad,c,hv⟩:=h.slice
 exact ⟨rfl,⟨v,h.inp.set 2 (.bool true),ad,_,c,hv⟩,(Only.refl _ _).setCell _ _⟩
theorem Threw.after {gi:Nat} {w w1 w2:World} {e:Ending} (ho:Only gi w w1) (h:Threw gi w1 e w2):Threw gi w e w2:=⟨h.eq,h.bad,ho.trans h.onl⟩
def RdDoes {α:Type} (gr gi:Nat) (v0:Value) (w:World) (o:Option (α × List (BitVec 8))) (R:α → World → Value → Prop) (e:Ending) (w':World):Prop:=
 (∃ a r v v',o = some (a,r) ∧ e = .returned v ∧ R a w' v ∧ Rd w' gr gi v' r ∧ Only gi w w' ∧ v'.ownBlock = v0.ownBlock) ∨ (o = none ∧ Threw gi w e w')
def cut (n:Nat) (l:List (BitVec 8)):Option (List (BitVec 8) × List (BitVec 8)):=if n ≤ l.length then some (l.take n,l.drop n) else none
theorem take_any (gr gi n:Nat) (v:Value) (l:List (BitVec 8)) (w:World) (h:Rd w gr gi v l) (hn:n < 4611686018427387904) :
 Calls Tryz.prog 96 #[.pointer (some ⟨gr,0,none⟩),.int .i64 (n:Int)] w fun e w' => RdDoes gr gi v w (cut n l) (fun a w' v => Reads w' v a) e w':=by
 have HR:Hid (Rd w gr gi v l):=h
 have c1:w.cell? ⟨gr,0,none⟩ = some (.pointer (some ⟨gi,0,none⟩)):=h.rd.cell 0
 have c0:w.cell? ⟨gi,0,none⟩ = some v:=h.inp.cell 0
 have c3:w.cell? ⟨gi,2,none⟩ = some (.bool false):=h.inp.cell 2
 have f0:w.frozen? ⟨gi,0,none⟩ = false:=h.inp.frozen 0
 have hne:=h.ne
 obtain ⟨ad,cap,rfl,hcap,hnn,hx⟩:=id h.byt
 obtain ⟨m,HM⟩:=sqn (l.length)
 rw [← HM.out] at HR c0 hcap
 rw [← HM.out]
 clear hx h
 by_cases hlt:n ≤ m
 · have hng:¬ ((m:Int) < (n:Int)):=by omega
   have HC:Hid (cut n l = some (l.take n,l.drop n)):=by show cut n l = _;unfold cut;rw [if_pos (by rw [← HM.out];exact hlt)]
   have HK:Hid (n ≤ l.length):=by rw [← HM.out];exact hlt
   have hfin:∀ v1 v2,Reads w v1 (l.take n) → Reads w v2 (l.drop n) → v2.ownBlock = (Value.slice ad m cap).ownBlock → RdDoes gr gi (.slice ad m cap) w (cut n l) (fun a w' v => Reads w' v a) (.returned v1) (w.setCell ⟨gi,0,none⟩ v2):=fun v1 v2 h1 h2 h3 =>
    Or.inl ⟨_,_,v1,v2,HC.out,rfl,h1.only HR.out.inp ⟨_,_,_,rfl⟩ ((Only.refl _ _).setCell _ _),HR.out.next v2 _ h2,(Only.refl _ _).setCell _ _,h3⟩
   have HF:Hid (∀ v1 v2,Reads w v1 (l.take n) → Reads w v2 (l.drop n) → v2.ownBlock = (Value.slice ad m cap).ownBlock → RdDoes gr gi (.slice ad m cap) w (cut n l) (fun a w' v => Reads w' v a) (.returned v1) (w.setCell ⟨gi,0,none⟩ v2)):=hfin
   clear hfin
   cases ad with
   | none =>
    have hc0:=hnn rfl;subst hc0;have hm0:m = 0:=by omega
    subst hm0;have hn0:n = 0:=by omega
    subst hn0;clear hnn hng hlt hcap
    go_enter Tryz.func96,Tryz.ntmps96
    go_wp2;go_ret;have hl0:l = []:=List.eq_nil_of_length_eq_zero HM.out.symm;refine HF.out _ _ ?_ ?_ rfl
    · rw [List.take_zero];exact ⟨none,0,rfl,Nat.le_refl _,fun _ => rfl,fun h => by cases h⟩
    · rw [List.drop_zero,hl0];exact ⟨none,0,rfl,Nat.le_refl _,fun _ => rfl,fun h => by cases h⟩
   | some ad =>
    clear hnn
    by_cases hcn:cap = n
    · subst hcn
      have hmn:m = cap:=by omega
      subst hmn;have HZ:Hid (m - m = 0):=Nat.sub_self m
      go_enter Tryz.func96,Tryz.ntmps96
      go_wp2;go_ret;refine HF.out _ _ ((HR.out.byt).take m HK.out) ?_ rfl;have:=HR.out.byt.drop m HK.out ad (fun h => by have:=HM.out;omega)
      rw [HZ.out] at this
      first | exact this | (rw [HZ.out];exact this)
    · go_enter Tryz.func96,Tryz.ntmps96
      go_wp2;go_ret;exact HF.out _ _ ((HR.out.byt).take n HK.out) (HR.out.byt.drop n HK.out _ (fun _ => rfl)) (by simp [Value.ownBlock,Addr.add];split <;> rfl)
 · have hgt:(m:Int) < (n:Int):=by omega
   have HC:Hid (cut n l = none):=by show cut n l = _;unfold cut;rw [if_neg (by rw [← HM.out];exact hlt)]
   go_enter Tryz.func96,Tryz.ntmps96
   go_wp2_with fail
   refine (cfail_any gr gi (.slice ad m cap) l w HR.out).mono ?_;rintro e w1 ⟨rfl,rfl⟩;have hT:=HR.out.threw;obtain ⟨w1,HW1⟩:∃ x,Hid (x = w.setCell ⟨gi,2,none⟩ (.bool true)):=⟨_,rfl⟩;rw [← HW1.out] at hT ⊢;unfold thrown at hT ⊢;go_wp2;exact ⟨rfl,Or.inr ⟨HC.out,hT⟩⟩
end Go.Proofs.YtheincjkoefalaaGreatDoor

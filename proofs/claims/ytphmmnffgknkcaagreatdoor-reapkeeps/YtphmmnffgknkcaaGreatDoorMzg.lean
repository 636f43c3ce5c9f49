import Derived.Test.YtphmmnffgknkcaaGreatDoorMzf
import Derived.RangeFuncFrom
import Derived.Maps.RangeWalk
import Derived.Shelf.SlLaysF0
import Derived.Test.YtphmmnffgknkcaaGreatDoorProg
import Derived.Shelf.SlSortCmp.NoneTotal
import Derived.Test.YtphmmnffgknkcaaGreatDoorRows
import Derived.Test.YtphmmnffgknkcaaGreatDoorMza
import Derived.ProofKit
import Derived.LaidMore
import Derived.OpenShut
import Derived.Stop.Joined
import Derived.Lib.LaidTab
import Derived.Carry
import Derived.ChangeSlices
import Derived.Test.YtphmmnffgknkcaaGreatDoorMzb
import Derived.Deep.Slices
import Derived.Deep.Strs
import Derived.Lib.SmallJoins
namespace Go.Proofs.YtphmmnffgknkcaaGreatDoor
open Go.RowKit
set_option maxRecDepth 100000
theorem wpAnyH_one {P:Program} {md:Region.Mode} {ops:Array Oper} {Q:Exit → Act → World → Prop} {S:World → Prop} {fuel:Nat} {listed:Array Bool} {a:Act} {w:World} (i:Nat) (hr:Region.ready md ops listed = [i])
    (h1:wpOp P ops Q i (fun a' w' => S w' ∧ wpAnyH P md ops Q S fuel (listed.setIfInBounds i true) a' w') a w):wpAnyH P md ops Q S (fuel + 1) listed a w:=by
  refine wpAnyH_all hr (by simp) (fun k hk => ?_)
  obtain rfl:k = i:=by simpa using hk
  exact h1
theorem wpAnyH_storeRow {md:Region.Mode} {ops:Array Oper} {Q:Exit → Act → World → Prop} {S:World → Prop} {fuel:Nat} {listed:Array Bool} {a:Act} {w:World} (i:Nat) {oi:Oper} (ty:TypeId) (x y:Operand) (g:Nat) (cs ns:List Value) (hb:Blk w g cs ty) (hl:ns.length = cs.length) (hi0:(Tryz.prog.info? ty).map (·.size) = some ns.length) (h1:∀ v ∈ ns,v.oneCell' = true)
    (hr:Region.ready md ops listed = [i]) (hi:ops[i]? = some oi) (hw:Region.wanted oi (yielded ops a.tmps) = true) (ho:oi.op = .store ty x y) (hx:a.eval x = .pointer (some ⟨g,0,none⟩)) (hy:a.eval y = .agg ns.toArray)
    (h:∀ w',SetR ns ty w g w' → S w' ∧ wpAnyH Tryz.prog md ops Q S fuel (listed.setIfInBounds i true) (a.put oi.dst undef) w'):wpAnyH Tryz.prog md ops Q S (fuel + 1) listed a w:=
  wpAnyH_law i hr hi hw (wp_store_mid ty x y ho g 0 ns.toArray hx hy (hb.there 0 _ (by rw [List.size_toArray,hl];omega)) (by rw [List.size_toArray];exact hi0) (all_oneCell_toArray h1) (by rw [List.toList_toArray];exact h _ (SetR.of hb hl)))
theorem one_nil18:∀ v ∈ [nilV,nilV],v.oneCell' = true:=fun v hv => by
  simp only [List.mem_cons,List.not_mem_nil,or_false] at hv
  rcases hv with rfl | rfl <;> rfl
theorem alI_new {w1 W:World} {g8:Nat} (hb:Below w1.heap.size w1 W) (hg:w1.heap.size ≤ g8) (h8:Blk W g8 [nilV,nilV] 43):AlI w1 w1.heap.size g8 (.slice none 0 0) (.slice none 0 0) (.slice none 0 0) (.slice none 0 0) (.slice none 0 0) [] [] [] [] [] [] W:=
  ⟨hb,hb.size,hg,(by intro e;cases e),OwnD.nil _ _,OwnX.nil _ _,OwnT18.nil _ _,rfl,(fun j u h => by simp at h),rfl,(fun j t h => by simp at h),h8,⟨⟨(OwnD.nil W 0).readsD,(OwnD.nil W 0).readsD⟩,fun k h => by rcases h with h | h <;> cases h⟩⟩
def TrsR (w:World) (v:Value) (ks:List (List Lf)):Prop:=∃ ad cap,v = .slice ad ks.length cap ∧ (0 < ks.length → ∃ g,ad = some ⟨g,0,none⟩ ∧ ∀ j,j < ks.length → ∃ a1 n1 c1 a2 n2 c2,w.rangeAt g (j * 2) [.slice a1 n1 c1,.slice a2 n2 c2] ∧ ReadsLf w (.slice a1 n1 c1) (.slice a2 n2 c2) (ks.getD j []))
theorem flatT_at:∀ (ts:List (Value × Value)) (j:Nat) (t:Value × Value),ts[j]? = some t → (flatT ts)[j * 2]? = some t.1 ∧ (flatT ts)[j * 2 + 1]? = some t.2
  | [],j,t,h => by simp at h
  | s :: r,0,t,h => by simp only [List.getElem?_cons_zero,Option.some.injEq] at h;subst h;exact ⟨rfl,rfl⟩
  | s :: r,j + 1,t,h => by
    have h2:=flatT_at r j t (by simpa using h)
    have e:flatT (s :: r) = s.1 :: s.2 :: flatT r:=rfl
    rw [e,show (j + 1) * 2 = j * 2 + 1 + 1 by omega]
    simpa using h2
theorem slice_of_row18 {W:World} {B z n:Nat} {t:TypeId} {v:Value} {xs:List Value} (h:W.ownsRow B t z v n xs):∃ a m c,v = .slice a m c:=by
  rcases h with ⟨_,⟨rfl,_⟩ | ⟨g,cap,cur,rfl,_⟩⟩
  · exact ⟨none,0,0,rfl⟩
  · exact ⟨_,_,_,rfl⟩
section
variable {w1 W:World} {B g8:Nat} {v5 v6 v7 xa xv:Value} {us:List Value} {ts:List (Value × Value)} {ds5:List By} {ks:List (List Lf)} {ps:List By} {l:List Lf}
theorem AlI.readsL (h:AlI w1 B g8 v5 v6 v7 xa xv us ts ds5 ks ps l W):ReadsL W v6 ps:=by
  have hl:=h.len6
  rcases h.own6 with ⟨_,⟨e1,h2⟩ | ⟨g,cap,cur,e1,hg,hh,hc,hm,hs,ht⟩⟩
  · have:ps = []:=List.eq_nil_of_length_eq_zero (by rw [← hl];exact h2)
    subst this
    exact ⟨none,0,e1,Nat.le_refl _,fun _ => rfl,fun hp => by simp at hp⟩
  · refine ⟨_,cap,by rw [e1,hl],by rw [← hl];exact hc,(fun e => by cases e),fun hp => ⟨g,0,rfl,fun j hj => ?_⟩⟩
    have hju:j < us.length:=by rw [hl];exact hj
    obtain ⟨g2,c2,e2,hc2,_⟩:=h.own6.at (j:=j) (u:=us[j]) (by rw [List.getElem?_eq_getElem hju])
    rw [e1] at e2
    cases e2
    exact ⟨us[j],by rw [Nat.zero_add];exact hc2,(h.e6 j us[j] (by rw [List.getElem?_eq_getElem hju])).1⟩
theorem AlI.trs (h:AlI w1 B g8 v5 v6 v7 xa xv us ts ds5 ks ps l W):TrsR W v7 ks:=by
  have hl:=h.len7
  rcases h.own7 with ⟨_,⟨e1,h2⟩ | ⟨g,cap,cur,e1,hg,hh,hc,hm,hs,ht⟩⟩
  · have:ks = []:=List.eq_nil_of_length_eq_zero (by rw [← hl];exact h2)
    subst this
    exact ⟨none,0,e1,fun hp => by simp at hp⟩
  · refine ⟨_,cap,by rw [e1,hl],fun hp => ⟨g,rfl,fun j hj => ?_⟩⟩
    have hju:j < ts.length:=by rw [hl];exact hj
    have he:=h.e7 j ts[j] (List.getElem?_eq_getElem hju)
    obtain ⟨a1,c1,e3⟩:=he.1.1.slice
    obtain ⟨a2,c2,e4⟩:=he.1.2.slice
    obtain ⟨f1,f2⟩:=flatT_at ts j ts[j] (List.getElem?_eq_getElem hju)
    refine ⟨a1,_,c1,a2,_,c2,?_,by rw [← e3,← e4];exact he.1⟩
    rw [← ht,List.getElem?_take_of_lt (by omega)] at f1 f2
    intro i v hv
    have hcell:∀ i,W.cell? ⟨g,i,none⟩ = cur[i]?:=fun i => cell_of_row W g i cur 43 (0,0) hh
    match i,hv with
    | 0,hv => cases hv;rw [Nat.add_zero,hcell,← e3];simpa using f1
    | 1,hv => cases hv;rw [hcell,← e4];simpa using f2
    | _ + 2,hv => simp at hv
theorem AlI.form6 (h:AlI w1 B g8 v5 v6 v7 xa xv us ts ds5 ks ps l W) {j:Nat} (hj:j < ps.length):∃ g c u,v6 = .slice (some ⟨g,0,none⟩) ps.length c ∧ us[j]? = some u ∧ W.cell? ⟨g,j,none⟩ = some u ∧ Reads W u (ps.getD j []):=by
  have hju:j < us.length:=by rw [h.len6];exact hj
  obtain ⟨g,c,e,hc,_⟩:=h.own6.at (j:=j) (u:=us[j]) (List.getElem?_eq_getElem hju)
  exact ⟨g,c,us[j],by rw [e,h.len6],List.getElem?_eq_getElem hju,hc,(h.e6 j _ (List.getElem?_eq_getElem hju)).1⟩
end
set_option maxRecDepth 100000 in
set_option maxHeartbeats 32000000 in
theorem all18_any (va vv vk:Value) (ds es:List By) (bs:List Bool) (w:World) (hK:KOk w) (hA:ReadsD w va ds) (hV:ReadsD w vv es) (hB:ReadsBo w vk bs) :
    Calls Tryz.prog 4 #[.agg #[va,vv,vk]] w fun e w' => ∃ v2 v3 v4,e = .returned (.tuple #[v2,v3,v4]) ∧ ReadsD w' v2 ((kps (ds.zip es) bs (min (min ds.length es.length) 20)).map fun l => dig (topPg 0 l)) ∧ ReadsL w' v3 (pgs (ds.zip es) (min (min ds.length es.length) 20)) ∧ TrsR w' v4 (kps (ds.zip es) bs (min (min ds.length es.length) 20)) ∧ Below w.heap.size w w':=by
  have HK:Hid (KOk w):=hK
  have HA:Hid (ReadsD w va ds):=hA
  have HV:Hid (ReadsD w vv es):=hV
  have HBO:Hid (ReadsBo w vk bs):=hB
  obtain ⟨z,HZ⟩:∃ x,Hid (x = ds.zip es):=⟨_,rfl⟩
  obtain ⟨n,HN⟩:∃ x,Hid (x = min (min ds.length es.length) 20):=⟨_,rfl⟩
  rw [← HZ.out,← HN.out]
  have HZO:Hid (okLf z):=by rw [HZ.out];exact zip_okR hA hV
  obtain ⟨ada,cpa,hva⟩:=hA.slice
  obtain ⟨adv,cpv,hvv⟩:=hV.slice
  obtain ⟨adk,cpk,hvk,hxk⟩:=id hB
  obtain ⟨nA,HNA⟩:∃ x,Hid (x = ds.length):=⟨_,rfl⟩
  obtain ⟨nV,HNV⟩:∃ x,Hid (x = es.length):=⟨_,rfl⟩
  obtain ⟨nK,HNK⟩:∃ x,Hid (x = bs.length):=⟨_,rfl⟩
  rw [← HNA.out] at hva
  rw [← HNV.out] at hvv
  rw [← HNK.out] at hvk
  subst hva hvv hvk
  have HXK:Hid (0 < bs.length → ∃ b off,adk = some ⟨b,off,none⟩ ∧ ∀ j,j < bs.length → w.cell? ⟨b,off + j,none⟩ = some (.bool (bs.getD j false))):=hxk
  have hn20:n ≤ 20:=by rw [HN.out];omega
  have hnA:n ≤ nA:=by rw [HN.out,HNA.out];omega
  have hnV:n ≤ nV:=by rw [HN.out,HNV.out];omega
  have hn3:n = nA ∨ n = nV ∨ n = 20:=by rw [HN.out,HNA.out,HNV.out];omega
  have hzl:n ≤ z.length:=by rw [HZ.out,List.length_zip,HN.out];omega
  clear hK hA hV hB hxk
  go_enter Tryz.func4,Tryz.ntmps4
  have ta0:Hid True:=trivial
  have ta1:Hid True:=trivial
  have ta2:Hid True:=trivial
  go_wp2_with (first
    | (clear ta0;with_reducible refine wpSeq_boxW 25 (.tmp 0) [Value.slice ada nA cpa,.slice adv nV cpv,.slice adk nK cpk] ?_ ?_ ?_ ?_
       · rfl
       · rfl
       · rfl
       intro g1 w1 nn
       have HB1:Hid (Below w.heap.size w w1):=nn.below
       have H1:Hid (Blk w1 g1 [Value.slice ada nA cpa,.slice adv nV cpv,.slice adk nK cpk] 25):=nn.blk
       clear nn)
    | (clear ta1;with_reducible refine wpSeq_allocLvs ?_ ?_ ?_
       · rfl
       · rfl
       intro g8 w2 nn
       have HNN:Hid (NewR [nilV,nilV] 43 w1 g8 w2):=nn
       clear nn)
    | (clear ta2;with_reducible refine wpSeq_storeRow 43 (.tmp 8) (.tmp 15) g8 [nilV,nilV] [nilV,nilV] HNN.out.blk rfl info_lvs one_nil18 ?_ ?_ ?_ ?_ ?_
       · rfl
       · rfl
       · rfl
       · rfl
       intro w3 sr
       have HI0:Hid (AlI w1 w1.heap.size g8 (.slice none 0 0) (.slice none 0 0) (.slice none 0 0) (.slice none 0 0) (.slice none 0 0) [] [] [] [] [] [] w3):=alI_new (HNN.out.below.trans (sr.only.below HNN.out.ge HNN.out.below.size)) HNN.out.ge sr.blk
       clear sr HNN))
  obtain ⟨B,HBB⟩:∃ x,Hid (x = w1.heap.size):=⟨_,rfl⟩
  rw [← HBB.out] at HI0
  have HW:Hid (∀ W,Below B w1 W → B ≤ W.heap.size ∧ KOk W ∧ Below w.heap.size w W ∧ Blk W g1 [Value.slice ada nA cpa,.slice adv nV cpv,.slice adk nK cpk] 25):=fun W hW => by
    rw [HBB.out] at hW ⊢
    exact ⟨hW.size,(HK.out.below HB1.out HK.out.lt).below hW (HK.out.below HB1.out HK.out.lt).lt,HB1.out.trans (hW.mono HB1.out.size),H1.out.below hW H1.out.lt⟩
  clear HB1 H1
  go_wp2
  go_loopw [5,6,7,9] (fun a b c i W => ∃ (q:Nat) (a5:Option Addr) (n5 c5:Nat) (a6:Option Addr) (n6 c6:Nat) (a7:Option Addr) (n7 c7:Nat) (us:List Value) (ts:List (Value × Value)) (axa:Option Addr) (nxa cxa:Nat) (axv:Option Addr) (nxv cxv:Nat),q ≤ n ∧ a = (.slice a5 n5 c5) ∧ b = (.slice a6 n6 c6) ∧ c = (.slice a7 n7 c7) ∧ i = .int .i64 (q:Int) ∧ Hid (AlI w1 B g8 (.slice a5 n5 c5) (.slice a6 n6 c6) (.slice a7 n7 c7) (.slice axa nxa cxa) (.slice axv nxv cxv) us ts ((kps z bs q).map fun l => dig (topPg 0 l)) (kps z bs q) (pgs z q) (allL z q) W)) (fun _ _ _ i _ => n - (intOf i).toNat)
  case atStart => exact ⟨0,none,0,0,none,0,0,none,0,0,[],[],none,0,0,none,0,0,Nat.zero_le _,rfl,rfl,rfl,rfl,HI0.out⟩
  case round =>
    clear HI0
    obtain ⟨q,a5,n5,c5,a6,n6,c6,a7,n7,c7,us,ts,axa,nxa,cxa,axv,nxv,cxv,hq,rfl,rfl,rfl,rfl,HI⟩:=hrel
    have cA:wr.cell? ⟨g1,0,none⟩ = some (.slice ada nA cpa):=(HW.out _ HI.out.bel).2.2.2.cell 0
    have cV:wr.cell? ⟨g1,1,none⟩ = some (.slice adv nV cpv):=(HW.out _ HI.out.bel).2.2.2.cell 1
    by_cases hlt:q < n
    case pos =>
      have hqA:(q:Int) < (nA:Int):=by omega
      have hqV:(q:Int) < (nV:Int):=by omega
      have hq20:(q:Int) < 20:=by omega
      have fq:IntKind.i64.wrap ((q:Int) + 1) = (q:Int) + 1:=by rw [IntKind.wrap_i64];omega
      obtain ⟨x,HX⟩:∃ y,Hid (y = ds.getD q []):=⟨_,rfl⟩
      obtain ⟨y,HY⟩:∃ x,Hid (x = es.getD q []):=⟨_,rfl⟩
      have HXL:Hid (x.length = 32):=by show _ = _;rw [HX.out];exact getD_mem32 HA.out.2 (by rw [← HNA.out];omega)
      have HYL:Hid (y.length = 32):=by show _ = _;rw [HY.out];exact getD_mem32 HV.out.2 (by rw [← HNV.out];omega)
      obtain ⟨ba,oa,ca2,hva,hya⟩:=HA.out.at (by rw [← HNA.out];omega)
      rw [← HNA.out] at hva hya
      simp only [Value.slice.injEq,true_and] at hva
      obtain ⟨rfl,rfl⟩:=hva
      obtain ⟨bv,ov,cv2,hvv,hyv⟩:=HV.out.at (by rw [← HNV.out];omega)
      rw [← HNV.out] at hvv hyv
      simp only [Value.slice.injEq,true_and] at hvv
      obtain ⟨rfl,rfl⟩:=hvv
      have hra:=hya q (by omega)
      have hrv:=hyv q (by omega)
      rw [← HX.out] at hra
      rw [← HY.out] at hrv
      have HXR:Hid (∀ W,Below B w1 W → W.rangeAt ba (oa + q * 32) (cb x) ∧ W.rangeAt bv (ov + q * 32) (cb y)):=fun W hW => ⟨rangeAt_below hra (HW.out W hW).2.2.1 (range_lt hra (by rw [cb_len,HXL.out];decide)),rangeAt_below hrv (HW.out W hW).2.2.1 (range_lt hrv (by rw [cb_len,HYL.out];decide))⟩
      clear hya hyv hra hrv
      obtain ⟨L,HL⟩:∃ y,Hid (y = allL z (q + 1)):=⟨_,rfl⟩
      have HLP:Hid (L = putL (allL z q) x y):=by
        show _ = _
        rw [HL.out,allL_succ (by omega),HX.out,HY.out,HZ.out]
        have h1:q < ds.length:=by rw [← HNA.out];omega
        have h2:q < es.length:=by rw [← HNV.out];omega
        have hz:(ds.zip es)[q]? = some (ds[q],es[q]):=by rw [List.getElem?_zip_eq_some];exact ⟨List.getElem?_eq_getElem h1,List.getElem?_eq_getElem h2⟩
        rw [List.getD_eq_getElem?_getD,hz,List.getD_eq_getElem?_getD,List.getD_eq_getElem?_getD,List.getElem?_eq_getElem h1,List.getElem?_eq_getElem h2]
        rfl
      have HLO:Hid (okLf L ∧ Up L ∧ L.length ≤ 20):=by rw [HL.out];have h:=allL_ok HZO.out (q + 1);exact ⟨h.1,h.2.1,by omega⟩
      have HLQ:Hid ((allL z q).length ≤ 20):=by show _ ≤ _;have h:=(allL_ok HZO.out q).2.2;omega
      obtain ⟨S,HS⟩:∃ y,Hid (y = saveL 0 L):=⟨_,rfl⟩
      have HSL:Hid (S.length ≤ 25601 ∧ ∀ p ∈ S,1 ≤ p.length ∧ p.length ≤ 512):=by rw [HS.out];exact ⟨save_few HLO.out.1 HLO.out.2.1 (by have:=HLO.out.2.2;omega),save_short 256 0 L (by omega) (fits_zero HLO.out.1 HLO.out.2.1)⟩
      obtain ⟨d,HDD⟩:∃ y,Hid (y = dig (topPg 0 L)):=⟨_,rfl⟩
      have HDL:Hid (d.length = 32):=by show _ = _;rw [HDD.out];exact len_dig' _
      obtain ⟨P,HP⟩:∃ y,Hid (y = pgs z q):=⟨_,rfl⟩
      have HPX:Hid (pgs z (q + 1) = addNew P S):=by show _ = _;rw [HS.out,HL.out,HP.out];rfl
      have HPL:Hid (P.Nodup ∧ P.length ≤ 53780):=by
        rw [HP.out]
        have h:=pgs_spec HZO.out q
        refine ⟨h.1,Nat.le_trans h.2.2.2 ?_⟩
        have:q * (q + 1) ≤ 20 * 21:=Nat.mul_le_mul (by omega) (by omega)
        omega
      rw [← HP.out] at HI
      go_wp2
      refine wp_region_held_drew (S:=Below B w1) (by kernel_rfl) (HI.out.bel.drew) ?_
      intro hS
      have HId:Hid (AlI w1 B g8 (.slice a5 n5 c5) (.slice a6 n6 c6) (.slice a7 n7 c7) (.slice axa nxa cxa) (.slice axv nxv cxv) us ts ((kps z bs q).map fun l => dig (topPg 0 l)) (kps z bs q) P (allL z q) wr.drew):=HI.out.next (Below.refl _ _).drew
      clear HI cA cV
      change wpAnyH _ _ _ _ _ _ _ _ (World.drew wr)
      generalize World.drew wr = wd at *
      refine wpAnyH_take (i:=1) (v:=.pointer (some ⟨g1,0,none⟩)) rfl (by kernel_rfl) (by kernel_rfl) (by kernel_rfl) (fun _ _ _ h => h) (Or.inl ⟨by rfl,fun wx hx => by simp [go_sem]⟩) hS ?_
      simp only [Act.put,List.getElem_toArray,List.getElem_cons_succ,List.getElem_cons_zero,List.setIfInBounds_toArray,List.set_cons_zero,List.set_cons_succ]
      refine wpAnyH_take (i:=2) (v:=.slice (some ⟨ba,oa,none⟩) nA cpa) rfl (by kernel_rfl) (by kernel_rfl) (by kernel_rfl) (fun _ _ _ h => h) (Or.inl ⟨by rfl,fun wx hx => by (have hq:=(HW.out wx hx).2.2.2.cell 0;simp [go_sem] at hq ⊢;simp [hq])⟩) hS ?_
      simp only [Act.put,List.getElem_toArray,List.getElem_cons_succ,List.getElem_cons_zero,List.setIfInBounds_toArray,List.set_cons_zero,List.set_cons_succ]
      refine wpAnyH_take (i:=3) (v:=.int .i64 (q:Int)) rfl (by kernel_rfl) (by kernel_rfl) (by kernel_rfl) (fun _ _ _ h => h) (Or.inl ⟨by rfl,fun wx hx => by simp [go_sem]⟩) hS ?_
      simp only [Act.put,List.getElem_toArray,List.getElem_cons_succ,List.getElem_cons_zero,List.setIfInBounds_toArray,List.set_cons_zero,List.set_cons_succ]
      refine wpAnyH_take (i:=4) (v:=.pointer (some ⟨ba,oa + q * 32,none⟩)) rfl (by kernel_rfl) (by kernel_rfl) (by kernel_rfl) (fun _ _ _ h => h) (Or.inl ⟨by rfl,fun wx hx => by exact idxD17 ba oa cpa nA q (by omega) _ _ _ _ rfl rfl rfl _⟩) hS ?_
      simp only [Act.put,List.getElem_toArray,List.getElem_cons_succ,List.getElem_cons_zero,List.setIfInBounds_toArray,List.set_cons_zero,List.set_cons_succ]
      refine wpAnyH_take (i:=5) (v:=.agg (cb x).toArray) rfl (by kernel_rfl) (by kernel_rfl) (by kernel_rfl) (fun _ _ _ h => h) (Or.inl ⟨by rfl,fun wx hx => by (have hr:=(HXR.out wx hx).1;exact load_run 39 _ rfl _ _ rfl (cb x) _ hr Tryz.underlying39 rfl (by rw [cb_len,HXL.out];exact info_digest))⟩) hS ?_
      simp only [Act.put,List.getElem_toArray,List.getElem_cons_succ,List.getElem_cons_zero,List.setIfInBounds_toArray,List.set_cons_zero,List.set_cons_succ]
      refine wpAnyH_take (i:=6) (v:=.pointer (some ⟨g1,1,none⟩)) rfl (by kernel_rfl) (by kernel_rfl) (by kernel_rfl) (fun _ _ _ h => h) (Or.inl ⟨by rfl,fun wx hx => by simp [go_sem]⟩) hS ?_
      simp only [Act.put,List.getElem_toArray,List.getElem_cons_succ,List.getElem_cons_zero,List.setIfInBounds_toArray,List.set_cons_zero,List.set_cons_succ]
      refine wpAnyH_take (i:=7) (v:=.slice (some ⟨bv,ov,none⟩) nV cpv) rfl (by kernel_rfl) (by kernel_rfl) (by kernel_rfl) (fun _ _ _ h => h) (Or.inl ⟨by rfl,fun wx hx => by (have hq:=(HW.out wx hx).2.2.2.cell 1;simp [go_sem] at hq ⊢;simp [hq])⟩) hS ?_
      simp only [Act.put,List.getElem_toArray,List.getElem_cons_succ,List.getElem_cons_zero,List.setIfInBounds_toArray,List.set_cons_zero,List.set_cons_succ]
      refine wpAnyH_take (i:=8) (v:=.int .i64 (q:Int)) rfl (by kernel_rfl) (by kernel_rfl) (by kernel_rfl) (fun _ _ _ h => h) (Or.inl ⟨by rfl,fun wx hx => by simp [go_sem]⟩) hS ?_
      simp only [Act.put,List.getElem_toArray,List.getElem_cons_succ,List.getElem_cons_zero,List.setIfInBounds_toArray,List.set_cons_zero,List.set_cons_succ]
      refine wpAnyH_take (i:=9) (v:=.pointer (some ⟨bv,ov + q * 32,none⟩)) rfl (by kernel_rfl) (by kernel_rfl) (by kernel_rfl) (fun _ _ _ h => h) (Or.inl ⟨by rfl,fun wx hx => by exact idxD17 bv ov cpv nV q (by omega) _ _ _ _ rfl rfl rfl _⟩) hS ?_
      simp only [Act.put,List.getElem_toArray,List.getElem_cons_succ,List.getElem_cons_zero,List.setIfInBounds_toArray,List.set_cons_zero,List.set_cons_succ]
      refine wpAnyH_take (i:=10) (v:=.agg (cb y).toArray) rfl (by kernel_rfl) (by kernel_rfl) (by kernel_rfl) (fun _ _ _ h => h) (Or.inl ⟨by rfl,fun wx hx => by (have hr:=(HXR.out wx hx).2;exact load_run 39 _ rfl _ _ rfl (cb y) _ hr Tryz.underlying39 rfl (by rw [cb_len,HYL.out];exact info_digest))⟩) hS ?_
      simp only [Act.put,List.getElem_toArray,List.getElem_cons_succ,List.getElem_cons_zero,List.setIfInBounds_toArray,List.set_cons_zero,List.set_cons_succ]
      refine wpAnyH_one 0 (by kernel_rfl) ?_
      refine wpOp_vl 0 (.agg #[.slice axa nxa cxa,.slice axv nxv cxv]) _ (by rfl) (by rfl) (load_run 43 _ rfl _ 0 rfl [Value.slice axa nxa cxa,.slice axv nxv cxv] _ HId.out.b8.range Tryz.underlying43 rfl info_lvs) ⟨hS,?_⟩
      simp only [Act.put,List.getElem_toArray,List.getElem_cons_zero,List.setIfInBounds_toArray,List.set_cons_zero,List.set_cons_succ]
      refine wpAnyH_enter 11 (by kernel_rfl) rfl (by rfl) (f:=11) (args:=#[.agg #[.slice axa nxa cxa,.slice axv nxv cxv],.agg (cb x).toArray,.agg (cb y).toArray]) (by simp [go_sem]) (lfPut_any _ _ (allL z q) x y wd HId.out.e8.1 (by have:=HLQ.out;omega) HXL.out HYL.out) ?_
      rintro e w5 ⟨ya,yv,rfl,ho,hb⟩
      rw [← HLP.out] at ho
      have hrd:=ho.reads
      obtain ⟨aya,cya,hya⟩:=hrd.1.slice
      obtain ⟨ayv,cyv,hyv⟩:=hrd.2.slice
      generalize (L.map (·.1)).length = nya at hya
      generalize (L.map (·.2)).length = nyv at hyv
      subst hya hyv
      have hS5:Below B w1 w5:=hS.trans (hb.mono (HW.out _ hS).1)
      have HI5:Hid (AlI w1 B g8 (.slice a5 n5 c5) (.slice a6 n6 c6) (.slice a7 n7 c7) (.slice axa nxa cxa) (.slice axv nxv cxv) us ts ((kps z bs q).map fun l => dig (topPg 0 l)) (kps z bs q) P (allL z q) w5):=HId.out.next hb
      have HLF:Hid (LfF (.slice a5 n5 c5) (.slice a6 n6 c6) (.slice a7 n7 c7) g8 w5 (.slice aya nya cya) (.slice ayv nyv cyv) L):=⟨hrd,fun k hk => by
        have h1:wd.heap.size ≤ k ∧ k < w5.heap.size:=hk.elim (fun h => ho.a.lt k h) (fun h => ho.v.lt k h)
        exact ⟨h1.2,(fun e => by have:=(HId.out.own5.lt k e).2;omega),(fun e => by have:=(HId.out.own6.lt k e).2;omega),(fun e => by have:=(HId.out.own7.lt k e).2;omega),fun e => by have:=HId.out.b8.lt;omega⟩⟩
      refine ⟨_,rfl,hS5,?_⟩
      simp only [Act.put,List.getElem_toArray,List.getElem_cons_succ,List.getElem_cons_zero,List.setIfInBounds_toArray,List.set_cons_zero,List.set_cons_succ]
      refine wpAnyH_storeRow 12 43 (.tmp 8) (.tmp 45) g8 [Value.slice axa nxa cxa,.slice axv nxv cxv] [Value.slice aya nya cya,.slice ayv nyv cyv] HI5.out.b8 rfl info_lvs one_lvs (by kernel_rfl) rfl (by rfl) (by rfl) (by rfl) (by rfl) ?_
      intro w6 sr
      have HI:Hid (AlI w1 B g8 (.slice a5 n5 c5) (.slice a6 n6 c6) (.slice a7 n7 c7) (.slice aya nya cya) (.slice ayv nyv cyv) us ts ((kps z bs q).map fun l => dig (topPg 0 l)) (kps z bs q) P L w6):=HI5.out.set sr.blk sr.only HLF.out
      refine ⟨HI.out.bel,?_⟩
      simp only [Act.put,List.getElem_toArray,List.getElem_cons_succ,List.getElem_cons_zero]
      refine wpAnyH_done (by kernel_rfl) ?_ _
      clear sr hS hS5 hb ho hrd HI5 HId HLF
      have tb0:Hid True:=trivial
      have tb1:Hid True:=trivial
      have tb2:Hid True:=trivial
      have tb3:Hid True:=trivial
      go_wp2_with (first
        | (clear tb0;with_reducible refine wpSeq_loadW 43 (.tmp 8) g8 0 [Value.slice aya nya cya,.slice ayv nyv cyv] _ HI.out.b8.range Tryz.underlying43 rfl info_lvs ?_ ?_ ?_ ?_
           · rfl
           · rfl
           · rfl)
        | (clear tb1;go_at_call 12;refine (eSave_zero L _ _ _ (HW.out _ HI.out.bel).2.1 (fits_zero HLO.out.1 HLO.out.2.1) HI.out.e8.1 (by have:=HLO.out.2.2;omega)).mono ?_;rintro e w7 ⟨vm,usm,rfl,hp,hb⟩
           rw [← HDD.out]
           rw [← HS.out] at hp
           obtain ⟨gm,cm,hvm,hcm,hce,hon⟩:=hp.row (by rw [HS.out,save_top];simp)
           have hml:=hp.len
           rw [hml] at hvm
           have hgm:=hp.own.lt gm (by rw [hvm];rfl)
           generalize hnm:S.length = nm at hvm
           have HNM:Hid (nm = S.length ∧ nm ≤ cm):=⟨hnm.symm,by rw [← hnm,← hml];exact hcm⟩
           subst hvm
           have hold:∀ k,w6.heap.size ≤ k → k < w7.heap.size → Fr4 (.slice a5 n5 c5) (.slice a6 n6 c6) (.slice a7 n7 c7) g8 w7 k:=fun k h1 h2 => ⟨h2,(fun e => by have:=(HI.out.own5.lt k e).2;omega),(fun e => by have:=(HI.out.own6.lt k e).2;omega),(fun e => by have:=(HI.out.own7.lt k e).2;omega),fun e => by have:=HI.out.b8.lt;omega⟩
           have HM:Hid (MoR (.slice a5 n5 c5) (.slice a6 n6 c6) (.slice a7 n7 c7) g8 gm usm S w7):=⟨hold gm hgm.1 hgm.2,(fun j u hj => by have:=hce j u hj;rwa [Nat.zero_add] at this),hml,fun j u hj => ⟨(hp.good j u hj).1,fun k hk => hold k (Nat.le_of_not_lt ((hp.good j u hj).2 k hk).2.2) ((hp.good j u hj).2 k hk).1⟩⟩
           replace HI:Hid (AlI w1 B g8 (.slice a5 n5 c5) (.slice a6 n6 c6) (.slice a7 n7 c7) (.slice aya nya cya) (.slice ayv nyv cyv) us ts ((kps z bs q).map fun l => dig (topPg 0 l)) (kps z bs q) P L w7):=HI.out.next hb
           clear hp hb hcm hce hon hml hgm hnm hold)
        | (clear tb2;with_reducible refine wpSeq_allocD ?_ ?_ ?_
           · rfl
           · rfl
           intro g10 w8 nn
           have HNN:Hid (Blk w8 g10 (cb zb32) 39 ∧ w7.heap.size ≤ g10 ∧ Below w7.heap.size w7 w8):=⟨nn.blk,nn.ge,nn.below⟩
           clear nn)
        | (clear tb3;with_reducible refine wpSeq_storeD (.tmp 10) (.tmp 49) g10 zb32 d zb32_len HDL.out HNN.out.1 ?_ ?_ ?_ ?_ ?_
           · rfl
           · rfl
           · rfl
           · rfl
           intro w9 h9
           have hb:Below w7.heap.size w7 w9:=HNN.out.2.2.trans (h9.only.below HNN.out.2.1 HNN.out.2.2.size)
           have H10:Hid (Blk w9 g10 (cb d) 39 ∧ Fr4 (.slice a5 n5 c5) (.slice a6 n6 c6) (.slice a7 n7 c7) g8 w9 g10):=⟨h9.blk,h9.blk.lt,(fun e => by have:=(HI.out.own5.lt g10 e).2;have:=HNN.out.2.1;omega),(fun e => by have:=(HI.out.own6.lt g10 e).2;have:=HNN.out.2.1;omega),(fun e => by have:=(HI.out.own7.lt g10 e).2;have:=HNN.out.2.1;omega),fun e => by have:=HI.out.b8.lt;have:=HNN.out.2.1;omega⟩
           replace HI:Hid (AlI w1 B g8 (.slice a5 n5 c5) (.slice a6 n6 c6) (.slice a7 n7 c7) (.slice aya nya cya) (.slice ayv nyv cyv) us ts ((kps z bs q).map fun l => dig (topPg 0 l)) (kps z bs q) P L w9):=HI.out.next hb
           replace HM:Hid (MoR (.slice a5 n5 c5) (.slice a6 n6 c6) (.slice a7 n7 c7) g8 gm usm S w9):=HM.out.step (.of_below hb)
           clear h9 HNN hb))
      have HIK:Hid (AlI w1 B g8 (.slice a5 n5 c5) (.slice a6 n6 c6) (.slice a7 n7 c7) (.slice aya nya cya) (.slice ayv nyv cyv) us ts ((kps z bs q).map fun l => dig (topPg 0 l)) (kps z bs q) (addNew P (S.take 0)) L w9 ∧ n6 = us.length):=⟨HI.out,by obtain ⟨a,c,h⟩:=HI.out.own6.form;simp only [Value.slice.injEq] at h;exact h.2.1⟩
      clear HI
      go_loopw [6,12] (fun b i W => ∃ (k:Nat) (a6:Option Addr) (n6 c6:Nat) (us:List Value),k ≤ nm ∧ b = (.slice a6 n6 c6) ∧ i = .int .i64 (k:Int) ∧ Hid (AlI w1 B g8 (.slice a5 n5 c5) (.slice a6 n6 c6) (.slice a7 n7 c7) (.slice aya nya cya) (.slice ayv nyv cyv) us ts ((kps z bs q).map fun l => dig (topPg 0 l)) (kps z bs q) (addNew P (S.take k)) L W ∧ n6 = us.length) ∧ Hid (MoR (.slice a5 n5 c5) (.slice a6 n6 c6) (.slice a7 n7 c7) g8 gm usm S W) ∧ Hid (Blk W g10 (cb d) 39 ∧ Fr4 (.slice a5 n5 c5) (.slice a6 n6 c6) (.slice a7 n7 c7) g8 W g10)) (fun _ i _ => nm - (intOf i).toNat)
      case atStart => exact ⟨0,a6,n6,c6,us,Nat.zero_le _,rfl,rfl,HIK.out,HM.out,H10.out⟩
      case round =>
        rename World => wq
        clear HIK HM H10
        obtain ⟨k,a6,n6,c6,us,hk,rfl,rfl,HIK,HM,H10⟩:=hrel
        have HI:Hid (AlI w1 B g8 (.slice a5 n5 c5) (.slice a6 n6 c6) (.slice a7 n7 c7) (.slice aya nya cya) (.slice ayv nyv cyv) us ts ((kps z bs q).map fun l => dig (topPg 0 l)) (kps z bs q) (addNew P (S.take k)) L wq):=HIK.out.1
        have HN6:Hid (n6 = us.length):=HIK.out.2
        clear HIK
        obtain ⟨Q,HQ⟩:∃ y,Hid (y = addNew P (S.take k)):=⟨_,rfl⟩
        rw [← HQ.out] at HI
        have HQL:Hid (n6 = Q.length ∧ Q.length ≤ 79381):=by
          refine ⟨by rw [HN6.out,HI.out.len6],?_⟩
          rw [HQ.out]
          have h:=(addNew_spec (S.take k) P HPL.out.1).2.2
          rw [List.length_take] at h
          have:=HPL.out.2
          have:=HSL.out.1
          omega
        by_cases hkl:k < nm
        case pos =>
          have hkli:(k:Int) < (nm:Int):=by omega
          have fk:IntKind.i64.wrap ((k:Int) + 1) = (k:Int) + 1:=by rw [IntKind.wrap_i64];have:=HSL.out.1;have:=HNM.out.1;omega
          have hks:k < S.length:=by rw [← HNM.out.1];exact hkl
          obtain ⟨p,HPP⟩:∃ y,Hid (y = S.getD k []):=⟨_,rfl⟩
          have HTK:Hid (addNew P (S.take (k + 1)) = if p ∈ Q then Q else Q ++ [p]):=by
            show _ = _
            have e:S.take (k + 1) = S.take k ++ [p]:=by rw [HPP.out,List.take_add_one,List.getElem?_eq_getElem hks,List.getD_eq_getElem?_getD,List.getElem?_eq_getElem hks,Option.toList_some,Option.getD_some]
            rw [e,addNew_snoc,HQ.out]
          obtain ⟨um,hum⟩:∃ u,usm[k]? = some u:=⟨usm[k]'(by rw [HM.out.len];exact hks),List.getElem?_eq_getElem _⟩
          have hrm:=(HM.out.e k um hum).1
          rw [← HPP.out] at hrm
          obtain ⟨np,HNP⟩:∃ y,Hid (y = p.length):=⟨_,rfl⟩
          obtain ⟨ap,cp,hvu⟩:∃ a c,um = .slice a np c:=by
            obtain ⟨a,c,h1,_⟩:=hrm
            exact ⟨a,c,by rw [h1,HNP.out]⟩
          subst hvu
          have HRM:Hid (∀ W,Below wq.heap.size wq W → W.cell? ⟨gm,k,none⟩ = some (.slice ap np cp) ∧ RdF (.slice a5 n5 c5) (.slice a6 n6 c6) (.slice a7 n7 c7) g8 W (.slice ap np cp) p):=fun W hW => by
            have h:=HM.out.step (.of_below hW)
            refine ⟨h.cl k _ hum,?_⟩
            have h2:=h.e k _ hum
            rw [← HPP.out] at h2
            exact h2
          clear hrm hum
          go_wp2
          go_loopw [13,14] (fun t i W => ∃ (j:Nat) (tb:Bool),j ≤ n6 ∧ t = .bool tb ∧ i = .int .i64 (j:Int) ∧ Hid (tb = decide (p ∈ Q.take j)) ∧ Hid (Below wq.heap.size wq W)) (fun _ i _ => n6 - (intOf i).toNat)
          case atStart => exact ⟨0,false,Nat.zero_le _,rfl,rfl,(by show _ = _;simp),Below.refl _ _⟩
          case round =>
            rename World => wj
            obtain ⟨j,tb,hj,rfl,rfl,HTB,HBQ⟩:=hrel
            by_cases hjl:j < n6
            case pos =>
              have hjli:(j:Int) < (n6:Int):=by omega
              have fj:IntKind.i64.wrap ((j:Int) + 1) = (j:Int) + 1:=by rw [IntKind.wrap_i64];have:=HQL.out;omega
              have hjq:j < Q.length:=by rw [← HQL.out.1];exact hjl
              obtain ⟨r,HR⟩:∃ y,Hid (y = Q.getD j []):=⟨_,rfl⟩
              obtain ⟨c2,HC2⟩:∃ y,Hid (y = decide (r = p)):=⟨_,rfl⟩
              have HTM:Hid (decide (p ∈ Q.take (j + 1)) = (tb || c2)):=by show _ = _;rw [mem_take17 Q p j hjq,← HTB.out,HC2.out,HR.out]
              have HBQ2:Hid (Below wq.heap.size wq wj.drew):=HBQ.out.drew
              cases tb with
              | true =>
                have HT1:Hid (true = decide (p ∈ Q.take (j + 1))):=by show _ = _;rw [HTM.out];rfl
                go_wp2
                refine wp_region_held_drew (S:=fun W => W = wj.drew) (by kernel_rfl) rfl ?_
                intro hS
                obtain ⟨yy,HYY⟩:∃ z,z = wj.drew:=⟨_,rfl⟩
                rw [← HYY] at HBQ2 hS ⊢
                refine wpAnyH_take (i:=0) (v:=.bool true) rfl (by kernel_rfl) (by kernel_rfl) (by kernel_rfl) (fun _ _ _ h => h) (Or.inl ⟨by rfl,fun wx hx => by simp [go_sem]⟩) hS ?_
                simp only [Act.put,List.getElem_toArray,List.getElem_cons_zero,List.setIfInBounds_toArray,List.set_cons_zero,List.set_cons_succ]
                refine wpAnyH_take (i:=1) (v:=.bool true) rfl (by kernel_rfl) (by kernel_rfl) (by kernel_rfl) (fun _ _ _ h => h) (Or.inl ⟨by rfl,fun wx hx => by simp [go_sem]⟩) hS ?_
                simp only [Act.put,List.getElem_toArray,List.getElem_cons_succ,List.getElem_cons_zero,List.setIfInBounds_toArray,List.set_cons_zero,List.set_cons_succ]
                refine wpAnyH_take (i:=2) (v:=undef) rfl (by kernel_rfl) (by kernel_rfl) (by kernel_rfl) (fun _ _ _ h => h) (Or.inr ⟨by rfl,rfl⟩) hS ?_
                simp only [Act.put,List.getElem_toArray,List.getElem_cons_succ,List.getElem_cons_zero,List.setIfInBounds_toArray,List.set_cons_zero,List.set_cons_succ]
                refine wpAnyH_take (i:=3) (v:=undef) rfl (by kernel_rfl) (by kernel_rfl) (by kernel_rfl) (fun _ _ _ h => h) (Or.inr ⟨by rfl,rfl⟩) hS ?_
                simp only [Act.put,List.getElem_toArray,List.getElem_cons_succ,List.getElem_cons_zero,List.setIfInBounds_toArray,List.set_cons_zero,List.set_cons_succ]
                refine wpAnyH_take (i:=4) (v:=undef) rfl (by kernel_rfl) (by kernel_rfl) (by kernel_rfl) (fun _ _ _ h => h) (Or.inr ⟨by rfl,rfl⟩) hS ?_
                simp only [Act.put,List.getElem_toArray,List.getElem_cons_succ,List.getElem_cons_zero,List.setIfInBounds_toArray,List.set_cons_zero,List.set_cons_succ]
                refine wpAnyH_take (i:=5) (v:=undef) rfl (by kernel_rfl) (by kernel_rfl) (by kernel_rfl) (fun _ _ _ h => h) (Or.inr ⟨by rfl,rfl⟩) hS ?_
                simp only [Act.put,List.getElem_toArray,List.getElem_cons_succ,List.getElem_cons_zero,List.setIfInBounds_toArray,List.set_cons_zero,List.set_cons_succ]
                refine wpAnyH_take (i:=6) (v:=undef) rfl (by kernel_rfl) (by kernel_rfl) (by kernel_rfl) (fun _ _ _ h => h) (Or.inr ⟨by rfl,rfl⟩) hS ?_
                simp only [Act.put,List.getElem_toArray,List.getElem_cons_succ,List.getElem_cons_zero,List.setIfInBounds_toArray,List.set_cons_zero,List.set_cons_succ]
                refine wpAnyH_take (i:=7) (v:=undef) rfl (by kernel_rfl) (by kernel_rfl) (by kernel_rfl) (fun _ _ _ h => h) (Or.inr ⟨by rfl,rfl⟩) hS ?_
                simp only [Act.put,List.getElem_toArray,List.getElem_cons_succ,List.getElem_cons_zero,List.setIfInBounds_toArray,List.set_cons_zero,List.set_cons_succ]
                refine wpAnyH_take (i:=8) (v:=undef) rfl (by kernel_rfl) (by kernel_rfl) (by kernel_rfl) (fun _ _ _ h => h) (Or.inr ⟨by rfl,rfl⟩) hS ?_
                simp only [Act.put,List.getElem_toArray,List.getElem_cons_succ,List.getElem_cons_zero,List.setIfInBounds_toArray,List.set_cons_zero,List.set_cons_succ]
                refine wpAnyH_take (i:=9) (v:=undef) rfl (by kernel_rfl) (by kernel_rfl) (by kernel_rfl) (fun _ _ _ h => h) (Or.inr ⟨by rfl,rfl⟩) hS ?_
                simp only [Act.put,List.getElem_toArray,List.getElem_cons_succ,List.getElem_cons_zero,List.setIfInBounds_toArray,List.set_cons_zero,List.set_cons_succ]
                refine wpAnyH_take (i:=10) (v:=undef) rfl (by kernel_rfl) (by kernel_rfl) (by kernel_rfl) (fun _ _ _ h => h) (Or.inr ⟨by rfl,rfl⟩) hS ?_
                simp only [Act.put,List.getElem_toArray,List.getElem_cons_succ,List.getElem_cons_zero,List.setIfInBounds_toArray,List.set_cons_zero,List.set_cons_succ]
                refine wpAnyH_take (i:=11) (v:=undef) rfl (by kernel_rfl) (by kernel_rfl) (by kernel_rfl) (fun _ _ _ h => h) (Or.inr ⟨by rfl,rfl⟩) hS ?_
                simp only [Act.put,List.getElem_toArray,List.getElem_cons_succ,List.getElem_cons_zero,List.setIfInBounds_toArray,List.set_cons_zero,List.set_cons_succ]
                refine wpAnyH_take (i:=12) (v:=undef) rfl (by kernel_rfl) (by kernel_rfl) (by kernel_rfl) (fun _ _ _ h => h) (Or.inr ⟨by rfl,rfl⟩) hS ?_
                simp only [Act.put,List.getElem_toArray,List.getElem_cons_succ,List.getElem_cons_zero,List.setIfInBounds_toArray,List.set_cons_zero,List.set_cons_succ]
                refine wpAnyH_take (i:=13) (v:=.bool true) rfl (by kernel_rfl) (by kernel_rfl) (by kernel_rfl) (fun _ _ _ h => h) (Or.inl ⟨by rfl,fun wx hx => by simp [go_sem]⟩) hS ?_
                simp only [Act.put,List.getElem_toArray,List.getElem_cons_succ,List.getElem_cons_zero,List.setIfInBounds_toArray,List.set_cons_zero,List.set_cons_succ]
                refine wpAnyH_take (i:=14) (v:=.bool true) rfl (by kernel_rfl) (by kernel_rfl) (by kernel_rfl) (fun _ _ _ h => h) (Or.inl ⟨by rfl,fun wx hx => by simp [go_sem]⟩) hS ?_
                simp only [Act.put,List.getElem_toArray,List.getElem_cons_succ,List.getElem_cons_zero,List.setIfInBounds_toArray,List.set_cons_zero,List.set_cons_succ]
                refine wpAnyH_done (by kernel_rfl) ?_ _
                clear hS HYY
                go_wp2
                go_roundw
                case rel => exact ⟨j + 1,true,by omega,rfl,by simp,HT1,HBQ2⟩
                case measure => simp [intOf];omega
              | false =>
                have HT1:Hid (c2 = decide (p ∈ Q.take (j + 1))):=by show _ = _;rw [HTM.out];rfl
                obtain ⟨g6,c6',u2,e6,hu2,hc2,hr2⟩:=(HI.out.next HBQ2.out).form6 hjq
                simp only [Value.slice.injEq] at e6
                obtain ⟨rfl,_,rfl⟩:=e6
                rw [← HR.out] at hr2
                obtain ⟨n2,HN2⟩:∃ z,Hid (z = r.length):=⟨_,rfl⟩
                obtain ⟨a2,p2,hv2⟩:∃ a c,u2 = .slice a n2 c:=by
                  obtain ⟨a,c,h1,_⟩:=hr2
                  exact ⟨a,c,by rw [h1,HN2.out]⟩
                subst hv2
                have HR2:Hid (Reads wj.drew (.slice a2 n2 p2) r):=hr2
                have HCE2:Hid (wj.drew.cell? ⟨g6,j,none⟩ = some (.slice a2 n2 p2)):=hc2
                have HR3:Hid (Reads wj.drew (.slice ap np cp) p):=(HRM.out _ HBQ2.out).2.1
                have HCE3:Hid (wj.drew.cell? ⟨gm,k,none⟩ = some (.slice ap np cp)):=(HRM.out _ HBQ2.out).1
                have HEQ:Hid (((strB r).toList == (strB p).toList) = c2):=by show _ = _;rw [strB_inj,HC2.out]
                clear hc2 hr2 hu2
                go_wp2
                refine wp_region_held_drew (S:=fun W => W = wj.drew) (by kernel_rfl) rfl ?_
                intro hS
                obtain ⟨yy,HYY⟩:∃ z,z = wj.drew:=⟨_,rfl⟩
                rw [← HYY] at HBQ2 HR2 HR3 HCE2 HCE3 hS ⊢
                refine wpAnyH_take (i:=0) (v:=.bool false) rfl (by kernel_rfl) (by kernel_rfl) (by kernel_rfl) (fun _ _ _ h => h) (Or.inl ⟨by rfl,fun wx hx => by simp [go_sem]⟩) hS ?_
                simp only [Act.put,List.getElem_toArray,List.getElem_cons_zero,List.setIfInBounds_toArray,List.set_cons_zero,List.set_cons_succ]
                refine wpAnyH_take (i:=1) (v:=.bool false) rfl (by kernel_rfl) (by kernel_rfl) (by kernel_rfl) (fun _ _ _ h => h) (Or.inl ⟨by rfl,fun wx hx => by simp [go_sem]⟩) hS ?_
                simp only [Act.put,List.getElem_toArray,List.getElem_cons_succ,List.getElem_cons_zero,List.setIfInBounds_toArray,List.set_cons_zero,List.set_cons_succ]
                refine wpAnyH_take (i:=2) (v:=.slice (some ⟨g6,0,none⟩) n6 c6) rfl (by kernel_rfl) (by kernel_rfl) (by kernel_rfl) (fun _ _ _ h => h) (Or.inl ⟨by rfl,fun wx hx => by simp [go_sem]⟩) hS ?_
                simp only [Act.put,List.getElem_toArray,List.getElem_cons_succ,List.getElem_cons_zero,List.setIfInBounds_toArray,List.set_cons_zero,List.set_cons_succ]
                refine wpAnyH_take (i:=3) (v:=.int .i64 (j:Int)) rfl (by kernel_rfl) (by kernel_rfl) (by kernel_rfl) (fun _ _ _ h => h) (Or.inl ⟨by rfl,fun wx hx => by simp [go_sem]⟩) hS ?_
                simp only [Act.put,List.getElem_toArray,List.getElem_cons_succ,List.getElem_cons_zero,List.setIfInBounds_toArray,List.set_cons_zero,List.set_cons_succ]
                refine wpAnyH_take (i:=4) (v:=.pointer (some ⟨g6,j,none⟩)) rfl (by kernel_rfl) (by kernel_rfl) (by kernel_rfl) (fun _ _ _ h => h) (Or.inl ⟨by rfl,fun wx hx => by exact idxP g6 n6 c6 j hjl _ _ _ _ rfl rfl rfl _⟩) hS ?_
                simp only [Act.put,List.getElem_toArray,List.getElem_cons_succ,List.getElem_cons_zero,List.setIfInBounds_toArray,List.set_cons_zero,List.set_cons_succ]
                refine wpAnyH_take (i:=5) (v:=.slice a2 n2 p2) rfl (by kernel_rfl) (by kernel_rfl) (by kernel_rfl) (fun _ _ _ h => h) (Or.inl ⟨by rfl,fun wx hx => by (rw [hx];have hc:=HCE2.out;simp [go_sem,hc])⟩) hS ?_
                simp only [Act.put,List.getElem_toArray,List.getElem_cons_succ,List.getElem_cons_zero,List.setIfInBounds_toArray,List.set_cons_zero,List.set_cons_succ]
                refine wpAnyH_take (i:=6) (v:=.string (strB r)) rfl (by kernel_rfl) (by kernel_rfl) (by kernel_rfl) (fun _ _ _ h => h) (Or.inl ⟨by rfl,fun wx hx => by (rw [hx];have hc:=conv_reads HR2.out;simp [go_sem,hc])⟩) hS ?_
                simp only [Act.put,List.getElem_toArray,List.getElem_cons_succ,List.getElem_cons_zero,List.setIfInBounds_toArray,List.set_cons_zero,List.set_cons_succ]
                refine wpAnyH_take (i:=7) (v:=.slice (some ⟨gm,0,none⟩) nm cm) rfl (by kernel_rfl) (by kernel_rfl) (by kernel_rfl) (fun _ _ _ h => h) (Or.inl ⟨by rfl,fun wx hx => by simp [go_sem]⟩) hS ?_
                simp only [Act.put,List.getElem_toArray,List.getElem_cons_succ,List.getElem_cons_zero,List.setIfInBounds_toArray,List.set_cons_zero,List.set_cons_succ]
                refine wpAnyH_take (i:=8) (v:=.int .i64 (k:Int)) rfl (by kernel_rfl) (by kernel_rfl) (by kernel_rfl) (fun _ _ _ h => h) (Or.inl ⟨by rfl,fun wx hx => by simp [go_sem]⟩) hS ?_
                simp only [Act.put,List.getElem_toArray,List.getElem_cons_succ,List.getElem_cons_zero,List.setIfInBounds_toArray,List.set_cons_zero,List.set_cons_succ]
                refine wpAnyH_take (i:=9) (v:=.pointer (some ⟨gm,k,none⟩)) rfl (by kernel_rfl) (by kernel_rfl) (by kernel_rfl) (fun _ _ _ h => h) (Or.inl ⟨by rfl,fun wx hx => by exact idxP gm nm cm k hkl _ _ _ _ rfl rfl rfl _⟩) hS ?_
                simp only [Act.put,List.getElem_toArray,List.getElem_cons_succ,List.getElem_cons_zero,List.setIfInBounds_toArray,List.set_cons_zero,List.set_cons_succ]
                refine wpAnyH_take (i:=10) (v:=.slice ap np cp) rfl (by kernel_rfl) (by kernel_rfl) (by kernel_rfl) (fun _ _ _ h => h) (Or.inl ⟨by rfl,fun wx hx => by (rw [hx];have hc:=HCE3.out;simp [go_sem,hc])⟩) hS ?_
                simp only [Act.put,List.getElem_toArray,List.getElem_cons_succ,List.getElem_cons_zero,List.setIfInBounds_toArray,List.set_cons_zero,List.set_cons_succ]
                refine wpAnyH_take (i:=11) (v:=.string (strB p)) rfl (by kernel_rfl) (by kernel_rfl) (by kernel_rfl) (fun _ _ _ h => h) (Or.inl ⟨by rfl,fun wx hx => by (rw [hx];have hc:=conv_reads HR3.out;simp [go_sem,hc])⟩) hS ?_
                simp only [Act.put,List.getElem_toArray,List.getElem_cons_succ,List.getElem_cons_zero,List.setIfInBounds_toArray,List.set_cons_zero,List.set_cons_succ]
                refine wpAnyH_take (i:=12) (v:=.bool c2) rfl (by kernel_rfl) (by kernel_rfl) (by kernel_rfl) (fun _ _ _ h => h) (Or.inl ⟨by rfl,fun wx hx => by (have hs:=HEQ.out;simp [go_sem,hs])⟩) hS ?_
                simp only [Act.put,List.getElem_toArray,List.getElem_cons_succ,List.getElem_cons_zero,List.setIfInBounds_toArray,List.set_cons_zero,List.set_cons_succ]
                refine wpAnyH_take (i:=13) (v:=.bool c2) rfl (by kernel_rfl) (by kernel_rfl) (by kernel_rfl) (fun _ _ _ h => h) (Or.inl ⟨by rfl,fun wx hx => by simp [go_sem]⟩) hS ?_
                simp only [Act.put,List.getElem_toArray,List.getElem_cons_succ,List.getElem_cons_zero,List.setIfInBounds_toArray,List.set_cons_zero,List.set_cons_succ]
                refine wpAnyH_take (i:=14) (v:=.bool c2) rfl (by kernel_rfl) (by kernel_rfl) (by kernel_rfl) (fun _ _ _ h => h) (Or.inl ⟨by rfl,fun wx hx => by simp [go_sem]⟩) hS ?_
                simp only [Act.put,List.getElem_toArray,List.getElem_cons_succ,List.getElem_cons_zero,List.setIfInBounds_toArray,List.set_cons_zero,List.set_cons_succ]
                refine wpAnyH_done (by kernel_rfl) ?_ _
                clear hS HYY
                go_wp2
                go_roundw
                case rel => exact ⟨j + 1,c2,by omega,rfl,by simp,HT1,HBQ2⟩
                case measure => simp [intOf];omega
            case neg =>
              have hje:j = n6:=by omega
              have HTA:Hid (tb = decide (p ∈ Q)):=by show _ = _;rw [HTB.out,hje,HQL.out.1,List.take_length]
              have HIJ:Hid (AlI w1 B g8 (.slice a5 n5 c5) (.slice a6 n6 c6) (.slice a7 n7 c7) (.slice aya nya cya) (.slice ayv nyv cyv) us ts ((kps z bs q).map fun l => dig (topPg 0 l)) (kps z bs q) Q L wj):=HI.out.next HBQ.out
              have HMJ:Hid (MoR (.slice a5 n5 c5) (.slice a6 n6 c6) (.slice a7 n7 c7) g8 gm usm S wj):=HM.out.step (.of_below HBQ.out)
              have H1J:Hid (Blk wj g10 (cb d) 39 ∧ Fr4 (.slice a5 n5 c5) (.slice a6 n6 c6) (.slice a7 n7 c7) g8 wj g10):=⟨H10.out.1.below HBQ.out H10.out.1.lt,H10.out.2.step (.of_below HBQ.out)⟩
              have ckm:=(HRM.out _ HBQ.out).1
              have HRJ:Hid (RdF (.slice a5 n5 c5) (.slice a6 n6 c6) (.slice a7 n7 c7) g8 wj (.slice ap np cp) p):=(HRM.out _ HBQ.out).2
              subst hje
              cases tb with
              | true =>
                have HNX:Hid (addNew P (S.take (k + 1)) = Q):=by show _ = _;rw [HTK.out,if_pos (of_decide_eq_true HTA.out.symm)]
                go_wp2
                go_roundw
                case rel => exact ⟨k + 1,a6,j,c6,us,by omega,rfl,by simp,⟨by rw [HNX.out];exact HIJ.out,HN6.out⟩,HMJ.out,H1J.out⟩
                case measure => simp [intOf];omega
              | false =>
                have HNX:Hid (addNew P (S.take (k + 1)) = Q ++ [p]):=by show _ = _;rw [HTK.out,if_neg (of_decide_eq_false HTA.out.symm)]
                clear HI HM H10 HRM HBQ
                have tc0:Hid True:=trivial
                have tc1:Hid True:=trivial
                have tc2:Hid True:=trivial
                go_wp2_with (first
                  | (clear tc0;with_reducible refine wpSeq_idxQ17 (.tmp 80) (.tmp 81) gm 0 nm cm k hkl ?_ ?_ ?_ ?_ ?_
                     · rfl
                     · rfl
                     · rfl
                     · rfl
                     rw [Nat.zero_add]
                     have HQ1:Hid True:=trivial)
                  | (clear tc1;with_reducible refine wpSeq_buildX (.tmp 83) ap np cp ?_ ?_ ?_ ?_
                     · rfl
                     · rfl
                     · rfl
                     intro gX w14 hy hge hb
                     have HY:Hid (Blk w14 gX [.slice ap np cp] 48):=hy
                     replace HIJ:Hid (AlI w1 B g8 (.slice a5 n5 c5) (.slice a6 j c6) (.slice a7 n7 c7) (.slice aya nya cya) (.slice ayv nyv cyv) us ts ((kps z bs q).map fun l => dig (topPg 0 l)) (kps z bs q) Q L w14):=HIJ.out.next hb
                     replace HMJ:Hid (MoR (.slice a5 n5 c5) (.slice a6 j c6) (.slice a7 n7 c7) g8 gm usm S w14):=HMJ.out.step (.of_below hb)
                     replace HRJ:Hid (RdF (.slice a5 n5 c5) (.slice a6 j c6) (.slice a7 n7 c7) g8 w14 (.slice ap np cp) p):=HRJ.out.step (.of_below hb)
                     replace H1J:Hid (Blk w14 g10 (cb d) 39 ∧ Fr4 (.slice a5 n5 c5) (.slice a6 j c6) (.slice a7 n7 c7) g8 w14 g10):=⟨H1J.out.1.below hb H1J.out.1.lt,H1J.out.2.step (.of_below hb)⟩
                     clear hy hge hb ckm)
                  | (clear tc2;with_reducible refine wpSeq_appX (.tmp 79) (.tmp 84) B (.slice a6 j c6) (.slice ap np cp) us gX HIJ.out.own6 HY.out rfl (by have h1:=HN6.out;have h2:=HQL.out;omega) HIJ.out.le ?_ ?_ ?_ ?_ ?_
                     · rfl
                     · rfl
                     · rfl
                     · rfl
                     intro v15 w15 ho hg
                     obtain ⟨a15,c15,hv15⟩:=ho.form
                     have hn15:(us ++ [Value.slice ap np cp]).length = (us ++ [Value.slice ap np cp]).length:=rfl
                     generalize hn16:(us ++ [Value.slice ap np cp]).length = n15 at hv15
                     subst hv15
                     have HI15:Hid (AlI w1 B g8 (.slice a5 n5 c5) (Value.slice a15 n15 c15) (.slice a7 n7 c7) (.slice aya nya cya) (.slice ayv nyv cyv) (us ++ [Value.slice ap np cp]) ts ((kps z bs q).map fun l => dig (topPg 0 l)) (kps z bs q) (Q ++ [p]) L w15 ∧ n15 = (us ++ [Value.slice ap np cp]).length):=⟨HIJ.out.add6 ho hg HRJ.out,hn16.symm⟩
                     have HM15:Hid (MoR (.slice a5 n5 c5) (Value.slice a15 n15 c15) (.slice a7 n7 c7) g8 gm usm S w15):=HMJ.out.step (.of_six hg)
                     have H115:Hid (Blk w15 g10 (cb d) 39 ∧ Fr4 (.slice a5 n5 c5) (Value.slice a15 n15 c15) (.slice a7 n7 c7) g8 w15 g10):=⟨hg.mt.blk H1J.out.1 fun e => H1J.out.2.2.2.1 e,H1J.out.2.step (.of_six hg)⟩
                     clear ho hg HY hn15 hn16 HIJ HMJ HRJ H1J))
                go_roundw
                case rel => exact ⟨k + 1,a15,n15,c15,us ++ [Value.slice ap np cp],by omega,rfl,by simp,⟨by rw [HNX.out];exact HI15.out.1,HI15.out.2⟩,HM15.out,H115.out⟩
                case measure => simp [intOf];omega
        case neg =>
          have hke:k = nm:=by omega
          have HQP:Hid (Q = pgs z (q + 1)):=by show _ = _;rw [HQ.out,hke,HNM.out.1,List.take_length,HPX.out]
          subst hke
          have cK:wq.cell? ⟨g1,2,none⟩ = some (.slice adk nK cpk):=(HW.out _ HI.out.bel).2.2.2.cell 2
          obtain ⟨kb,HKB⟩:∃ y,Hid (y = (decide (q < bs.length) && bs.getD q false)):=⟨_,rfl⟩
          have HKX:Hid (kps z bs (q + 1) = kps z bs q ++ (if kb = true then [L] else [])):=by
            show _ = _
            rw [HKB.out,HL.out]
            simp only [kps,Bool.and_eq_true,decide_eq_true_eq]
          rw [HQP.out] at HI
          by_cases hkk:q < nK
          case neg =>
            have hkki:¬ (q:Int) < (nK:Int):=by omega
            have HK0:Hid (kps z bs (q + 1) = kps z bs q):=by
              show _ = _
              rw [HKX.out,HKB.out,decide_eq_false (by rw [← HNK.out];exact hkk),Bool.false_and,if_neg (by decide),List.append_nil]
            go_wp2
            go_roundw
            case rel => exact ⟨q + 1,a5,n5,c5,a6,n6,c6,a7,n7,c7,us,ts,aya,nya,cya,ayv,nyv,cyv,by omega,rfl,rfl,rfl,by simp,by rw [HK0.out,← HL.out];exact HI.out⟩
            case measure => simp [intOf];omega
          case pos =>
            have hkki:(q:Int) < (nK:Int):=by omega
            obtain ⟨bk,ok,rfl,hkc⟩:=HXK.out (by rw [← HNK.out];omega)
            have hkq:=hkc q (by rw [← HNK.out];exact hkk)
            have ckb:wq.cell? ⟨bk,ok + q,none⟩ = some (.bool kb):=by
              rw [(HW.out _ HI.out.bel).2.2.1.cell (p:=⟨bk,ok + q,none⟩) (block_lt_of_cell hkq),hkq,HKB.out,decide_eq_true (by rw [← HNK.out];exact hkk),Bool.true_and]
            clear hkc hkq
            cases kb with
            | false =>
              have HK0:Hid (kps z bs (q + 1) = kps z bs q):=by show _ = _;rw [HKX.out,if_neg (by decide),List.append_nil]
              go_wp2
              go_roundw
              case rel => exact ⟨q + 1,a5,n5,c5,a6,n6,c6,a7,n7,c7,us,ts,aya,nya,cya,ayv,nyv,cyv,by omega,rfl,rfl,rfl,by simp,by rw [HK0.out,← HL.out];exact HI.out⟩
              case measure => simp [intOf];omega
            | true =>
              have HK0:Hid (kps z bs (q + 1) = kps z bs q ++ [L]):=by show _ = _;rw [HKX.out,if_pos rfl]
              obtain ⟨E5,HE5⟩:∃ y,Hid (y = (kps z bs q).map fun l => dig (topPg 0 l)):=⟨_,rfl⟩
              have HE6:Hid ((kps z bs (q + 1)).map (fun l => dig (topPg 0 l)) = E5 ++ [d]):=by show _ = _;rw [HK0.out,List.map_append,List.map_cons,List.map_nil,HE5.out,HDD.out]
              have HEL:Hid (E5.length < 2000000 ∧ ts.length < 1000):=by
                have h:=kps_len (z:=z) (bs:=bs) q
                refine ⟨by rw [HE5.out,List.length_map];omega,by rw [HI.out.len7];omega⟩
              rw [← HE5.out] at HI
              clear HM HKX
              have td0:Hid True:=trivial
              have td1:Hid True:=trivial
              have td2:Hid True:=trivial
              have td3:Hid True:=trivial
              have td4:Hid True:=trivial
              have td5:Hid True:=trivial
              go_wp2_with (first
                | (clear td0;with_reducible refine wpSeq_loadD (.tmp 10) g10 d HDL.out H10.out.1 ?_ ?_ ?_ ?_
                   · rfl
                   · rfl
                   · rfl
                   have HQ2:Hid True:=trivial)
                | (clear td1;with_reducible refine wpSeq_buildD (.tmp 99) d HDL.out ?_ ?_ ?_ ?_
                   · rfl
                   · rfl
                   · rfl
                   intro gD w14 n8
                   have HY:Hid (Blk w14 gD (cb d) 39):=n8.blk
                   replace HI:Hid (AlI w1 B g8 (.slice a5 n5 c5) (.slice a6 n6 c6) (.slice a7 n7 c7) (.slice aya nya cya) (.slice ayv nyv cyv) us ts E5 (kps z bs q) (pgs z (q + 1)) L w14):=HI.out.next n8.below
                   clear n8 cK ckb H10)
                | (clear td2;with_reducible refine wpSeq_appendD (.tmp 98) (.tmp 100) B (.slice a5 n5 c5) E5 d gD HI.out.own5 HY.out HDL.out HEL.out.1 HI.out.le ?_ ?_ ?_ ?_ ?_
                   · rfl
                   · rfl
                   · rfl
                   · rfl
                   intro v15 w15 ho hg
                   obtain ⟨a15,c15,hv15⟩:=ho.slice
                   generalize hn15:(E5 ++ [d]).length = n15 at hv15
                   clear hn15
                   subst hv15
                   replace HI:Hid (AlI w1 B g8 (Value.slice a15 n15 c15) (.slice a6 n6 c6) (.slice a7 n7 c7) (.slice aya nya cya) (.slice ayv nyv cyv) us ts (E5 ++ [d]) (kps z bs q) (pgs z (q + 1)) L w15):=HI.out.add5 ho hg
                   clear ho hg HY)
                | (clear td3;with_reducible refine wpSeq_loadW 43 (.tmp 8) g8 0 [Value.slice aya nya cya,.slice ayv nyv cyv] _ HI.out.b8.range Tryz.underlying43 rfl info_lvs ?_ ?_ ?_ ?_
                   · rfl
                   · rfl
                   · rfl
                   have HQ3:Hid True:=trivial)
                | (clear td4;with_reducible refine wpSeq_buildT18 (.tmp 103) aya ayv nya nyv cya cyv ?_ ?_ ?_ ?_
                   · rfl
                   · rfl
                   · rfl
                   intro gT w16 hy hge hb
                   have HY:Hid (Blk w16 gT [Value.slice aya nya cya,.slice ayv nyv cyv] 43):=hy
                   replace HI:Hid (AlI w1 B g8 (Value.slice a15 n15 c15) (.slice a6 n6 c6) (.slice a7 n7 c7) (.slice aya nya cya) (.slice ayv nyv cyv) us ts (E5 ++ [d]) (kps z bs q) (pgs z (q + 1)) L w16):=HI.out.next hb
                   clear hy hge hb)
                | (clear td5;with_reducible refine wpSeq_appT18 (.tmp 102) (.tmp 104) B (.slice a7 n7 c7) (.slice aya nya cya) (.slice ayv nyv cyv) ts gT HI.out.own7 HY.out one_lvs HEL.out.2 HI.out.le ?_ ?_ ?_ ?_ ?_
                   · rfl
                   · rfl
                   · rfl
                   · rfl
                   intro v17 w17 ho hg
                   obtain ⟨a17,n17,c17,hv17⟩:=slice_of_row18 ho
                   subst hv17
                   have HI17:Hid (AlI w1 B g8 (Value.slice a15 n15 c15) (.slice a6 n6 c6) (Value.slice a17 n17 c17) (.slice aya nya cya) (.slice ayv nyv cyv) us (ts ++ [(Value.slice aya nya cya,Value.slice ayv nyv cyv)]) (E5 ++ [d]) (kps z bs q ++ [L]) (pgs z (q + 1)) L w17):=HI.out.add7 ho hg
                   clear ho hg HY HI))
              go_roundw
              case rel => exact ⟨q + 1,a15,n15,c15,a6,n6,c6,a17,n17,c17,us,ts ++ [(Value.slice aya nya cya,Value.slice ayv nyv cyv)],aya,nya,cya,ayv,nyv,cyv,by omega,rfl,rfl,rfl,by simp,by rw [HE6.out,HK0.out,← HL.out];exact HI17.out⟩
              case measure => simp [intOf];omega
    case neg =>
      have hqe:q = n:=by omega
      have HFI:Hid (ReadsD wr (.slice a5 n5 c5) ((kps z bs n).map fun l => dig (topPg 0 l)) ∧ ReadsL wr (.slice a6 n6 c6) (pgs z n) ∧ TrsR wr (.slice a7 n7 c7) (kps z bs n) ∧ Below w.heap.size w wr):=by
        rw [← hqe]
        exact ⟨HI.out.own5.readsD,HI.out.readsL,HI.out.trs,(HW.out _ HI.out.bel).2.2.1⟩
      subst hqe
      clear HI
      have key:(¬ (q:Int) < (nA:Int)) ∨ ((q:Int) < (nA:Int) ∧ ¬ (q:Int) < (nV:Int)) ∨ ((q:Int) < (nA:Int) ∧ (q:Int) < (nV:Int) ∧ ¬ (q:Int) < 20):=by omega
      rcases key with k1 | ⟨k1,k2⟩ | ⟨k1,k2,k3⟩
      all_goals
        go_wp2
        refine bodyPost_ret (results_tmp3 rfl _ _ _) rfl ?_
        exact ⟨_,_,_,rfl,HFI.out.1,HFI.out.2.1,HFI.out.2.2.1,HFI.out.2.2.2⟩
end Go.Proofs.YtphmmnffgknkcaaGreatDoor
namespace Go.Proofs.YtphmmnffgknkcaaGreatDoor
open Go.RowKit
set_option maxRecDepth 100000
abbrev Dg:={ l:By // l.length = 32 }
abbrev encD (x:Dg):Array Value:=#[.agg (cb x.1).toArray]
theorem lits_inv (d:Nat) (cs:List Value):∀ (L:List Nat) (ls:List (List Lit)),L.mapM (fun i => Tryz.prog.keyLits (d + 1) 5 ((cs.drop (i * 1)).take 1)) = some ls → ∀ i ∈ L,∃ b:BitVec 8,(cs.drop (i * 1)).take 1 = [.int .u8 (b.toNat:Int)]
  | [],_,_,i,hi => by cases hi
  | j :: L,ls,h,i,hi => by
    rw [List.mapM_cons] at h
    cases h1:Tryz.prog.keyLits (d + 1) 5 ((cs.drop (j * 1)).take 1) with
    | none => rw [h1] at h;cases h
    | some l1 =>
      rw [h1] at h
      cases h2:L.mapM (fun i => Tryz.prog.keyLits (d + 1) 5 ((cs.drop (i * 1)).take 1)) with
      | none => rw [h2] at h;cases h
      | some l2 =>
        rcases List.mem_cons.1 hi with e | e
        · subst e
          have hlen:((cs.drop (i * 1)).take 1).length ≤ 1:=by rw [List.length_take];omega
          generalize (cs.drop (i * 1)).take 1 = vs at h1 hlen ⊢
          match vs,hlen,h1 with
          | [],_,h1 => simp [Program.keyLits,Tryz.underlying5] at h1
          | v :: w :: t,hlen,_ => simp at hlen
          | [v],hl2,h1 =>
            clear hl2 hlen
            cases v <;> simp [Program.keyLits,Tryz.underlying5] at h1
            rename_i q' n'
            obtain ⟨⟨rfl,hw⟩,_⟩:=h1
            have hw2:0 ≤ n' ∧ n' < 256:=by
              simp [Lit.wf,IntKind.min,IntKind.max,IntKind.signed,IntKind.bits] at hw
              omega
            refine ⟨BitVec.ofNat 8 n'.toNat,?_⟩
            have e2:(((BitVec.ofNat 8 n'.toNat).toNat:Nat):Int) = n':=by
              rw [BitVec.toNat_ofNat,Nat.mod_eq_of_lt (by omega)]
              omega
            rw [e2]
        · exact lits_inv d cs L l2 h2 i e
theorem key_dig {key:Value} {kl:Lit} (h:keyOf Tryz.prog 39 key = some kl):∃ x:Dg,key = .agg (cb x.1).toArray ∧ kl = litD x.1:=by
  obtain ⟨m0,hm0⟩:=typesP
  have h0:=h
  unfold keyOf at h
  simp only [arrD.hu] at h
  split at h
  · rename_i hf
    rw [Bool.and_eq_true] at hf
    obtain ⟨xs,rfl,hxs⟩:∃ xs:Array Value,key = .agg xs ∧ xs.size = 32:=by
      have h1:=hf.2
      unfold Value.formed at h1
      split at h1
      all_goals first
        | (simp [arrD.hu] at h1;done)
        | skip
      all_goals first
        | (simp only [arrD.hu,arrD.size,beq_iff_eq] at h1;rename_i xs;exact ⟨xs,rfl,by simpa using h1⟩)
        | skip
    cases h2:Tryz.prog.keyLits (Tryz.prog.types.size + 1) 39 xs.toList with
    | none => rw [show (Value.agg xs).cells.toList = xs.toList from rfl,h2] at h;cases h
    | some ls =>
      rw [hm0] at h2
      unfold Program.keyLits at h2
      simp only [arrD.hu] at h2
      split at h2
      · rw [arrD.one] at h2
        cases h3:(List.range 32).mapM (fun i => Tryz.prog.keyLits (m0 + 1) 5 ((xs.toList.drop (i * 1)).take 1)) with
        | none => rw [h3] at h2;cases h2
        | some l3 =>
          have hall:=lits_inv m0 xs.toList (List.range 32) l3 h3
          have hx:∃ x:By,xs.toList = cb x:=by
            have key:∀ (vs:List Value),(∀ i,i < vs.length → ∃ b:BitVec 8,(vs.drop (i * 1)).take 1 = [.int .u8 (b.toNat:Int)]) → ∃ x:By,vs = cb x:=by
              intro vs
              induction vs with
              | nil => intro _;exact ⟨[],rfl⟩
              | cons v vs ih =>
                intro hv
                obtain ⟨b,hb⟩:=hv 0 (by simp)
                obtain ⟨x,hx⟩:=ih (fun i hi => by
                  obtain ⟨c,hc⟩:=hv (i + 1) (by simp;omega)
                  exact ⟨c,by simpa using hc⟩)
                refine ⟨b :: x,?_⟩
                simp at hb
                rw [hb,hx]
                rfl
            exact key xs.toList (fun i hi => hall i (List.mem_range.2 (by simp [hxs] at hi;exact hi)))
          obtain ⟨x,hx⟩:=hx
          have hl:x.length = 32:=by
            have:=congrArg List.length hx
            rw [cb_len] at this
            simp [hxs] at this
            exact this.symm
          have e:Value.agg xs = .agg (cb x).toArray:=by rw [← hx]
          rw [e,keyD hl] at h0
          exact ⟨⟨x,hl⟩,e,(Option.some.inj h0).symm⟩
      · cases h2
  · cases h
theorem sameD (x y:Dg):(litD x.1).sameKey (litD y.1) = decide (x = y):=by
  by_cases e:x = y
  · subst e
    simp [litD,Lit.sameKey]
  · rw [decide_eq_false e]
    have h:litD x.1 ≠ litD y.1:=fun h => e (Subtype.ext (litD_inj x.2 y.2 h))
    simp only [litD,Lit.sameKey]
    exact beq_eq_false_iff_ne.2 (fun h2 => h (by unfold litD;rw [h2]))
theorem wpSeqIn_val8 {n:Nat} {ops:Array Oper} {rest:List Oper} {Q:Exit → Act → World → Prop} {o:Oper} {v:Value} {a:Act} {w w':World} (hg:o.guard = none) (he:(execOp a.eval o).run Tryz.prog w = .ok (.value v) w') (h:wpListIn Fence.wide n Tryz.prog ops Q rest (a.put o.dst v) w'):wpListIn Fence.wide n Tryz.prog ops Q (o :: rest) a w:=wpListIn_plain hg fun K hK => by
  refine ⟨fun _ _ => trivial,?_⟩
  show Oper.uponIn _ _ _ _ _ _ _ ((execOp a.eval o).run Tryz.prog w)
  rw [he]
  exact hK _ _ h
theorem roundIn_wide18 {m k:Nat} {P:Program} {l:Nat} {f:FuncId} {tmps:Array Value} {assign body:Code} {w:World} {R:Ending → World → Prop} (h:RoundIn Fence.wide m P l f tmps assign body w R):RoundIn Fence.wide k P l f tmps assign body w R:=⟨h.1,fun c cs _ => h.2 c cs (room_wide _)⟩
theorem wpSeqIn_round8 {n m:Nat} {ops:Array Oper} {rest:List Oper} {Q:Exit → Act → World → Prop} {o:Oper} {l:Nat} {fn:FuncId} {tmps:Array Value} {assign body:Code} {a:Act} {w:World} {R:Ending → World → Prop} (hg:o.guard = none) (he:(execOp a.eval o).run Tryz.prog w = .ok (.round l fn tmps assign body) w) (hR:RoundIn Fence.wide m Tryz.prog l fn tmps assign body w R) (h:∀ e w',R e w' → ∃ v,e = .returned v ∧ wpListIn Fence.wide n Tryz.prog ops Q rest (a.put o.dst v) w'):wpListIn Fence.wide n Tryz.prog ops Q (o :: rest) a w:=wpListIn_plain hg fun K hK => by
  refine ⟨fun _ _ => trivial,?_⟩
  show Oper.uponIn _ _ _ _ _ _ _ ((execOp a.eval o).run Tryz.prog w)
  rw [he,Oper.uponIn_round]
  refine ⟨fun h => (by cases h),(roundIn_wide18 hR).mono fun e w' hr => ?_⟩
  obtain ⟨v,rfl,hk⟩:=h e w' hr
  exact hK _ _ hk
def SD (F:By → Option Nat):List Dg → Prop:=fun xs => xs.Nodup ∧ ∀ x:Dg,x ∈ xs ↔ (F x.1).isSome = true
structure RgD (gm r nn:Nat) (F:By → Option Nat) (D:DataW Unit) (ss:List Dg) (left:Lit → Bool) (cnt:Nat) (W:World):Prop where
  rg:W.ranges Tryz.prog 39 (plainElem Tryz.prog 3) gm r nn D left cnt
  cs:ss.length + cnt ≤ nn
  nd:ss.Nodup
  sub:∀ x ∈ ss,(F x.1).isSome = true
  lf:∀ x:Dg,left (litD x.1) = true ↔ (F x.1).isSome = true ∧ x ∉ ss
theorem RgD.all {gm r nn cnt:Nat} {F:By → Option Nat} {D:DataW Unit} {ss:List Dg} {left:Lit → Bool} {W:World} (h:RgD gm r nn F D ss left cnt W) (h0:∀ kl,left kl = false):SD F ss:=by
  refine ⟨h.nd,fun x => ⟨h.sub x,fun hx => ?_⟩⟩
  by_cases hm:x ∈ ss
  · exact hm
  · have:=(h.lf x).2 ⟨hx,hm⟩
    rw [h0] at this
    cases this
theorem RgD.step {gm r nn cnt cnt1:Nat} {F:By → Option Nat} {D:DataW Unit} {ss:List Dg} {left:Lit → Bool} {W W1:World} {x:Dg} (h:RgD gm r nn F D ss left cnt W) (hl:left (litD x.1) = true) (hr:W1.ranges Tryz.prog 39 (plainElem Tryz.prog 3) gm r nn D (fun z => left z && !z.sameKey (litD x.1)) cnt1) (hc:cnt1 < cnt):RgD gm r nn F D (ss ++ [x]) (fun z => left z && !z.sameKey (litD x.1)) cnt1 W1:=by
  obtain ⟨h1,h2⟩:=(h.lf x).1 hl
  refine ⟨hr,by have:=h.cs;rw [List.length_append];simp;omega,?_,fun y hy => ?_,fun y => ?_⟩
  · rw [List.nodup_append]
    refine ⟨h.nd,by simp,fun a ha b hb e => ?_⟩
    rw [List.mem_singleton] at hb
    subst hb
    subst e
    exact h2 ha
  · rcases List.mem_append.1 hy with hy | hy
    · exact h.sub y hy
    · rw [List.mem_singleton.1 hy];exact h1
  · rw [sameD,Bool.and_eq_true,h.lf y,List.mem_append,List.mem_singleton]
    simp
    constructor
    · rintro ⟨⟨a,b⟩,c⟩
      exact ⟨a,b,c⟩
    · rintro ⟨a,b,c⟩
      exact ⟨⟨a,b⟩,c⟩
theorem int_form {v:Value} {y:DataW Unit × List MemPlace} (h:plainElem Tryz.prog 3 v = some y):∃ i:Int,v = .int .i64 i:=by
  obtain ⟨i,h1,_⟩:=plainElem_int_inv Tryz.underlying3 h
  exact ⟨i,h1⟩
set_option maxRecDepth 100000 in
set_option maxHeartbeats 4000000 in
theorem keys1_stops (n:Nat) {gm nn gb:Nat} {F:By → Option Nat} (w:World) (hB:Blk w gb [.map (some gm)] 52) (hm:MapP w gm nn F):SeqStopsK Fence.wide n Tryz.prog 52 #[.pointer (some ⟨gb,0,none⟩)] encD KeepsWalks (fun xs => SD F xs ∧ xs.length ≤ nn) (fun _ => True) nn w:=fun lab J Jx W hW hJ hJx hY h0 => by
  have hmW:MapP W gm nn F:=hm.next hW
  obtain ⟨D,h1,h2⟩:=hmW.ex
  have hBW:Blk W gb [.map (some gm)] 52:=hB.below hW hB.lt
  have HD:Hid (W.ownsMap Tryz.prog 39 (plainElem Tryz.prog 3) gm nn D):=h1
  have HH:Hid (∀ x:Dg,Maps.has D (litD x.1) = (F x.1).isSome):=fun x => (h2 x.1 x.2).1
  have HSZ:Hid (Maps.size D ≤ nn):=h1.size_le
  have HY:Aside (∀ pre x X,J pre X → pre.length < nn → YieldAt Fence.wide (n - 1) Tryz.prog lab (encD x) X fun e Y => (e = .returned (.bool true) ∧ J (pre ++ [x]) Y ∧ KeepsWalks X Y) ∨ (e = .returned (.bool false) ∧ Jx (pre ++ [x]) Y)):=hY
  have HJ:Hid (AbidesFrom W.heap.size J):=hJ
  have HJX:Hid (AbidesFrom W.heap.size Jx):=hJx
  have HJ0:Hid (J [] W):=h0
  have c0:W.cell? ⟨gb,0,none⟩ = some (.map (some gm)):=hBW.cell 0
  clear hB hm hW hJ hJx hY h0 hmW h1 h2 hBW
  refine callsIn_wide.2 ?_
  simp only [List.append_toArray,List.cons_append,List.nil_append]
  go_enter Tryz.func52,Tryz.ntmps52
  have tk1:Hid True:=trivial
  go_wp2_with (first
    | (clear tk1;at_range;refine wpList_range_own W rfl _ 52 rfl 39 3 kD Tryz.underlying52 (plainElem Tryz.prog 3) gm nn D rfl HD.out ?_
       intro y1 hrg hg1 hs1
       have HI0:Hid (RgD gm W.heap.size nn F D [] (Maps.has D) (Maps.size D) y1):=⟨hrg,by have:=HSZ.out;simpa using this,List.nodup_nil,(fun p hp => by cases hp),fun x => by rw [HH.out x];simp⟩
       have HJ1:Hid (J [] y1):=HJ.out [] W y1 none HJ0.out hg1 (fun r e => by cases e)
       have HGS:Hid (W.heap.size ≤ y1.heap.size):=hg1.size
       clear hrg hg1 hs1 c0))
  go_frame
  obtain ⟨r,HR⟩:∃ x,Hid (x = W.heap.size):=⟨_,rfl⟩
  have HJ2:Hid (AbidesFrom r J ∧ AbidesFrom r Jx):=by rw [HR.out];exact ⟨HJ.out,HJX.out⟩
  rw [← HR.out] at HI0 ⊢
  clear HJ HJX HJ0 HD HSZ HGS
  go_loopw [3] (fun _ wr => ∃ ss left cnt,RgD gm r nn F D ss left cnt wr ∧ J ss wr) (fun _ wr => wr.rangeLeft gm r)
  case atStart => exact ⟨[],_,_,HI0.out,HJ1.out⟩
  case round =>
    clear HI0 HJ1
    obtain ⟨ss,left,cnt,hI,hj⟩:=hrel
    have HI:Hid (RgD gm r nn F D ss left cnt wr ∧ J ss wr):=⟨hI,hj⟩
    clear hI hj
    have tk2:Hid True:=trivial
    have tk3:Hid True:=trivial
    have tk4:Hid True:=trivial
    go_upto_region 3 with (first
      | (clear tk2;at_next;refine wpList_next_ranges wr rfl _ rfl 39 kD (plainElem Tryz.prog 3) (fun x:Dg => Value.agg (cb x.1).toArray) (fun i:Int => Value.int .i64 i) (fun key kl h => by obtain ⟨x,h,_⟩:=key_dig h;exact ⟨x,h⟩) (fun v y h => int_form h) gm r nn D left cnt rfl HI.out.1.rg (fun hc0 hl0 => ?_) (fun x c kl y w1 cnt1 hkey hlk hv hat hrg1 hlt hg1 hs1 hen => ?_))
      | (clear tk3;with_reducible refine wpSeq_allocD ?_ ?_ ?_
         · rfl
         · rfl
         intro g5 y3 nnb
         have HN3:Hid (NewB zb32 w1 g5 y3):=nnb
         clear nnb)
      | (clear tk4;with_reducible refine wpSeq_storeD (.tmp 3) (.tmp 9) g5 zb32 x.1 zb32_len x.2 HN3.out.blk ?_ ?_ ?_ ?_ ?_
         · rfl
         · rfl
         · rfl
         · rfl
         intro y4 sb
         have HB4:Hid (Blk y4 g5 (cb x.1) 39):=sb.blk
         have HW4:Hid (Below w1.heap.size w1 y4):=sb.only.below HN3.out.ge HN3.out.below.size |> HN3.out.below.trans
         clear sb HN3))
    · go_end0
      exact ⟨⟨_,rfl⟩,Or.inl ⟨ss,⟨HI.out.1.all hl0,Nat.le_trans (Nat.le_add_right _ _) HI.out.1.cs⟩,HI.out.2⟩⟩
    · obtain ⟨x2,ex,ek⟩:=key_dig hkey
      have exx:x2 = x:=by
        simp only [Value.agg.injEq] at ex
        exact Subtype.ext (cb_injP (by simpa using ex.symm))
      subst exx
      subst ek
      have hwi:=HI.out.1.rg.iter_walk
      have HI1:Hid (RgD gm r nn F D (ss ++ [x2]) (fun z => left z && !z.sameKey (litD x2.1)) cnt1 w1):=HI.out.1.step hlk hrg1 hlt
      have hj1:J ss w1:=HJ2.out.1 ss wr w1 (some r) HI.out.2 hg1 (fun k e => by cases e;exact ⟨Nat.le_refl _,hwi⟩)
      have hg4:w1.grownBy y4 none:=⟨HW4.out.os,HW4.out.tape,HW4.out.output,HW4.out.size,fun k hk _ => HW4.out.block k hk⟩
      have hj4:J ss y4:=HJ2.out.1 ss w1 y4 none hj1 hg4 (fun k e => by cases e)
      have hln:ss.length < nn:=by have:=HI1.out.cs;rw [List.length_append] at this;simp at this;omega
      obtain ⟨fn,tmps,assign,body,hyr,hR⟩:=HY.out ss x2 y4 hj4 hln
      dsimp only [encD] at hyr
      have HR4:Hid (y4.ranges Tryz.prog 39 (plainElem Tryz.prog 3) gm r nn D (fun z => left z && !z.sameKey (litD x2.1)) cnt1):=HI1.out.rg.kept hg4 (by simp) (by simp)
      have HLT:Hid (cnt1 < cnt):=hlt
      have HLE:Hid (wr.rangeLeft gm r = cnt):=HI.out.1.rg.left_eq
      clear hkey hlk hv hat hrg1 hlt hg1 hs1 hen hj1 hg4 hj4 hwi
      refine (wpIn_wide (n:=n)).1 ?_
      refine wpIn_region_lit ?_
      refine wpSeqIn_val8 (v:=.func (.yield lab) #[] #[]) (w':=y4) rfl (by simp [go_sem]) ?_
      simp only [Act.put,List.setIfInBounds_toArray,List.set_cons_zero,List.set_cons_succ]
      refine wpSeqIn_val8 (v:=.agg (cb x2.1).toArray) (w':=y4) rfl (loadDigest (.tmp 3) g5 x2.1 x2.2 HB4.out rfl rfl) ?_
      simp only [Act.put,List.setIfInBounds_toArray,List.set_cons_zero,List.set_cons_succ]
      refine wpSeqIn_round8 rfl (by simp [go_sem,hyr]) hR ?_
      rintro e5 y5 (⟨rfl,hj,hkp⟩ | ⟨rfl,hj⟩)
      · refine ⟨_,rfl,?_⟩
        simp only [Act.put,List.setIfInBounds_toArray,List.set_cons_zero,List.set_cons_succ]
        refine wpSeqIn_val8 (v:=.bool false) (w':=y5) rfl (by simp [go_sem]) ?_
        simp only [Act.put,List.setIfInBounds_toArray,List.set_cons_zero,List.set_cons_succ]
        refine wpListIn_nil ?_
        have hr5:=HR4.out.of_walks hkp
        have HF:Hid (RgD gm r nn F D (ss ++ [x2]) (fun z => left z && !z.sameKey (litD x2.1)) cnt1 y5 ∧ J (ss ++ [x2]) y5):=⟨⟨hr5,HI1.out.cs,HI1.out.nd,HI1.out.sub,HI1.out.lf⟩,hj⟩
        clear hj hkp hyr hR hr5
        go_wp2
        go_roundw
        case rel => exact ⟨_,_,_,HF.out.1,HF.out.2⟩
        case measure =>
          rw [HF.out.1.rg.left_eq,HLE.out]
          exact HLT.out
      · refine ⟨_,rfl,?_⟩
        simp only [Act.put,List.setIfInBounds_toArray,List.set_cons_zero,List.set_cons_succ]
        refine wpSeqIn_val8 (v:=.bool true) (w':=y5) rfl (by simp [go_sem]) ?_
        simp only [Act.put,List.setIfInBounds_toArray,List.set_cons_zero,List.set_cons_succ]
        refine wpListIn_nil ?_
        have HF:Hid (Jx (ss ++ [x2]) y5):=hj
        clear hj hyr hR
        go_wp2
        refine bodyPost_ret (results_none rfl _ _ _) rfl ?_
        exact ⟨⟨_,rfl⟩,Or.inr ⟨_,trivial,HF.out⟩⟩
end Go.Proofs.YtphmmnffgknkcaaGreatDoor
namespace Go.Proofs.YtphmmnffgknkcaaGreatDoor
open Go.RowKit
set_option maxRecDepth 100000
theorem own_growsD {β:Type} {B:Nat} {I:β → World → Prop} (h:OwnFrom B I) {s:β} {X Y:World} (hs:I s X) (hb:Below X.heap.size X Y):I s Y:=
  h s X Y none hs ⟨hb.os,hb.tape,hb.output,hb.size,fun k hk _ => hb.block k hk⟩ (fun r e => by cases e)
theorem walks_below {X Y:World} (hb:Below X.heap.size X Y):KeepsWalks X Y:=⟨hb.size,fun k _ hk _ => (hb.block k (Array.getElem?_eq_some_iff.1 hk).1).trans hk⟩
structure LpAd (L:LoopState → Option Code → Loop) (n:Nat) (s:LoopState) (p:Option Code) (X:World):Prop where
  lp:X.heap[n + 1]? = some (.loop (L s p))
  df:X.heap[n]? = some (.deferred (some []))
theorem LpAd.grows {L:LoopState → Option Code → Loop} {n:Nat} {s:LoopState} {p:Option Code} {X Y:World} (h:LpAd L n s p X) (hb:Below X.heap.size X Y):LpAd L n s p Y:=
  ⟨(hb.block _ (Array.getElem?_eq_some_iff.1 h.lp).1).trans h.lp,(hb.block _ (Array.getElem?_eq_some_iff.1 h.df).1).trans h.df⟩
theorem LpAd.put {L:LoopState → Option Code → Loop} {n:Nat} {s:LoopState} {p:Option Code} {X:World} (h:LpAd L n s p X) (s':LoopState) (p':Option Code):LpAd L n s' p' (X.putObj (n + 1) (.loop (L s' p'))):=
  ⟨World.putObj_heap_same (Array.getElem?_eq_some_iff.1 h.lp).1,(World.putObj_heap_other (by omega)).trans h.df⟩
theorem LpAd.others {L:LoopState → Option Code → Loop} {n:Nat} {s:LoopState} {p:Option Code} {X Y:World} (h:LpAd L n s p X) (hk:KeepsOthers X Y):LpAd L n s p Y:=⟨hk.same _ _ h.lp rfl,hk.same _ _ h.df rfl⟩
theorem LpAd.walk {L:LoopState → Option Code → Loop} {n:Nat} {s:LoopState} {p:Option Code} {X Y:World} {row:Option Nat} (h:LpAd L n s p X) (hg:X.grownBy Y row) (hr:∀ r,row = some r → n + 1 < r):LpAd L n s p Y:=
  ⟨(hg.block _ (Array.getElem?_eq_some_iff.1 h.lp).1 (fun e => by have:=hr _ e.symm;omega)).trans h.lp,(hg.block _ (Array.getElem?_eq_some_iff.1 h.df).1 (fun e => by have:=hr _ e.symm;omega)).trans h.df⟩
theorem range_dig {n:Nat} {g:Operand} {pv:Tmp} {assign body:Code} {Q:Exit → Act → World → Prop} {a:Act} {w:World} (h1:1 ≤ n) {gf:Nat} {lb:Array Value} (hg:a.eval g = .func (.func gf) #[] lb) (eg:∀ args w,(callFunc gf args).run Tryz.prog w = .ok (.enter gf args) w)
    {S Sp:List Dg → Prop} {N:Nat} {w0:World} (hseq:SeqStopsK Fence.wide (n - 1) Tryz.prog gf lb encD KeepsWalks S Sp N w0) (hb0:Below w0.heap.size w0 w)
    (I:List Dg → World → Prop) (hI:OwnFrom w.heap.size I) (h0:I [] w) (a₁:Nat → Dg → Act)
    (hassign:∀ (l:Nat) (x:Dg) (W:World) (K:Act → World → Prop),(∀ g5 W2,W.heap.size ≤ g5 → Blk W2 g5 (cb x.1) 39 → Below W.heap.size W W2 → K (a₁ g5 x) W2) → assign.wpIn (Fence.wide.inRound l) (n - 1 - 1) Tryz.prog (Exit.then K (fun _ _ _ => False)) { tmps:=a.tmps.setIfInBounds pv (.agg (cb x.1).toArray),defers:=[] } W)
    (hbody:∀ (l:Nat) (pre:List Dg) (x:Dg) (g5:Nat) (W:World),I pre W → Blk W g5 (cb x.1) 39 → pre.length < N → body.wpIn (Fence.wide.inRound l) (n - 1 - 1) Tryz.prog (ownPostK KeepsWalks I (fun _ _ _ => False) (pre ++ [x]) W) (a₁ g5 x) W)
    (hdone:∀ (D:Nat) (xs:List Dg) (W:World),w.heap.size ≤ D → S xs → I xs W → W.heap[D]? = some (.deferred (some [])) → Q .normal { a with defers:={ target:=.collected D,args:=#[] } :: a.defers } W) :
    (Code.rangeFunc g #[pv] assign body).wpIn Fence.wide n Tryz.prog Q a w:=by
  refine wpIn_rangeFunc fun fn hfn => ?_
  obtain ⟨L,hL⟩:∃ L:LoopState → Option Code → Loop,∀ s p,L s p = { state:=s,pending:=p,fn:=fn,tmps:=a.tmps,params:=#[pv],assign:=assign,body:=body,defers:=w.heap.size }:=⟨fun s p => { state:=s,pending:=p,fn:=fn,tmps:=a.tmps,params:=#[pv],assign:=assign,body:=body,defers:=w.heap.size },fun _ _ => rfl⟩
  obtain ⟨V,hV⟩:∃ V,V = (w.alloc (.deferred (some []))).alloc (.loop (L .ready none)):=⟨_,rfl⟩
  have hVs:V.heap.size = w.heap.size + 2:=by rw [hV];simp
  have hbw:Below w.heap.size w V:=by
    rw [hV]
    exact ((Below.refl _ w).alloc (Nat.le_refl _) _).alloc (by simp) _
  have hat:LpAd L w.heap.size .ready none V:=by
    rw [hV]
    refine ⟨?_,(Below.heap_alloc _ _ _ (by simp)).trans (World.alloc_heap_new w _)⟩
    have:=World.alloc_heap_new (w.alloc (.deferred (some []))) (.loop (L .ready none))
    rwa [World.size_alloc] at this
  refine ⟨w.heap.size + 1,[{ target:=.collected w.heap.size,args:=#[] }],V,{ target:=.fn (.func gf) lb,args:=#[.func (.yield (w.heap.size + 1)) #[] #[]] },V,gf,#[.func (.yield (w.heap.size + 1)) #[] #[]] ++ lb,V,?_,?_,fun _ _ => trivial,?_,fun _ => h1,?_⟩
  · rw [hV,hL]
    exact run_enterLoop_outer _ _ _ _ _
  · simp only [resolve,hg]
    simp [go_sem]
  · simp [invoke,go_sem,eg]
  have hput:∀ {b:List Dg} {X:World} {s:LoopState} {p:Option Code},I b X → LpAd L w.heap.size s p X → ∀ s' p',I b (X.putObj (w.heap.size + 1) (.loop (L s' p'))):=fun hb hl s' p' => hI.putObj _ hb (by omega) hl.lp rfl
  have hkp:∀ {X:World} {s:LoopState} {p:Option Code},LpAd L w.heap.size s p X → ∀ s' p',KeepsWalks X (X.putObj (w.heap.size + 1) (.loop (L s' p'))):=fun hl s' p' => KeepsWalks.putObj _ hl.lp rfl
  refine (hseq (w.heap.size + 1) (fun pre X => I pre X ∧ LpAd L w.heap.size .ready none X) (fun _ _ => False) V (hb0.trans (hbw.mono hb0.size)) (fun s X Y row h hgr hr => ⟨hI s X Y row h.1 hgr (fun r e => ?_),h.2.walk hgr (fun r e => ?_)⟩) (fun s X Y row h _ _ => h.elim) ?_ ⟨own_growsD hI h0 hbw,hat⟩).mono ?_
  · obtain ⟨h2,o,ho,hw⟩:=hr r e
    exact ⟨by omega,o,ho,Obj.not_cells_of_walk hw⟩
  · have:=(hr r e).1
    omega
  · rintro pre x X ⟨hi,hl⟩ hlen
    have hy:=run_yield (P:=Tryz.prog) (args:=encD x) hl.lp (by rw [hL];rfl)
    rw [hL] at hy
    have hz:∀ v:Value,(#[pv].zip #[v]).foldl (fun t (p,v) => t.setIfInBounds p v) a.tmps = a.tmps.setIfInBounds pv v:=fun v => by simp
    refine ⟨fn,_,assign,body,hy,roundIn_of_wpIn hfn ?_⟩
    simp only [encD,hz]
    refine hassign _ x X _ fun g5 X2 hg5 hB5 hbX => ?_
    have hl2:=hl.grows hbX
    have hi2:=own_growsD hI hi hbX
    have hbg:=run_beginRound (P:=Tryz.prog) hl2.lp (by rw [hL])
    have hbz:({ L .ready none with state:=.busy }:Loop) = L .busy none:=by rw [hL,hL]
    rw [hbz] at hbg
    refine ⟨_,hbg,?_⟩
    have hl3:=hl2.put .busy none
    have hlt:=(Array.getElem?_eq_some_iff.1 hl.lp).1
    have hB6:Blk (X2.putObj (w.heap.size + 1) (.loop (L .busy none))) g5 (cb x.1) 39:=(World.putObj_heap_other (by omega)).trans hB5
    refine wpIn_mono (hbody _ pre x g5 _ (hput hi2 hl2 .busy none) hB6 hlen) ?_
    have hend:∀ (Z:World),KeepsOthers (X2.putObj (w.heap.size + 1) (.loop (L .busy none))) Z → LpAd L w.heap.size .busy none Z ∧ (Instr.endRound (w.heap.size + 1) none).run Tryz.prog Z = .ok (.bool true) (Z.putObj (w.heap.size + 1) (.loop (L .ready none))):=fun Z hk => by
      have hz:=hl3.others hk
      have he:=run_endRound (P:=Tryz.prog) none hz.lp
      have e2:({ L .busy none with state:=if (none:Option Code).isNone then .ready else .done,pending:=none }:Loop) = L .ready none:=by rw [hL,hL];rfl
      rw [e2] at he
      exact ⟨hz,he⟩
    intro e b Z hp
    cases e with
    | normal =>
      obtain ⟨hk,hkz,hiz⟩:=hp
      obtain ⟨hz,he⟩:=hend Z hk
      exact ⟨_,_,he,Or.inl ⟨rfl,⟨hput hiz hz .ready none,hz.put .ready none⟩,(walks_below hbX).trans (((hkp hl2 .busy none).trans hkz).trans (hkp hz .ready none))⟩⟩
    | ret => exact hp.2.elim
    | exit id => exact hp.2.elim
    | goto t => exact hp.2.elim
    | panic ch => exact hp.elim
    | outgrown => exact hp.elim
  · rintro e Y ⟨⟨v,rfl⟩,⟨xs,hS,hi,hl⟩ | ⟨pre,hSp,hf⟩⟩
    · have he:=run_endLoop (P:=Tryz.prog) hl.lp (by rw [hL];simp)
      have e2:({ L .ready none with state:=.exhausted }:Loop) = L .exhausted none:=by rw [hL,hL]
      rw [e2,show (L .ready none).pending = none by rw [hL]] at he
      exact ⟨none,_,he,hdone _ xs _ (Nat.le_refl _) hS (hput hi hl .exhausted none) (hl.put .exhausted none).df⟩
    · exact hf.elim
theorem others_walks {X Y:World} (h:KeepsOthers X Y):KeepsWalks X Y:=⟨h.size,fun k o hk hw => h.same k o hk (Obj.not_cells_of_walk hw)⟩
theorem others_below {X Y:World} (hb:Below X.heap.size X Y):KeepsOthers X Y:=⟨hb.size,fun k _ hk _ => (hb.block k (Array.getElem?_eq_some_iff.1 hk).1).trans hk⟩
structure ApI (w1:World) (gb:Nat) (xs:List Dg) (v:Value) (W:World):Prop where
  bx:Blk W gb [v] 22
  own:OwnD W w1.heap.size v (xs.map (·.1))
  bel:Below w1.heap.size w1 W
theorem OwnD.neB {w:World} {base:Nat} {v:Value} {ds:List By} (h:OwnD w base v ds) {k:Nat} {o:Obj} (hk:w.heap[k]? = some o) (ho:∀ cur,o ≠ .cells cur 39 (0,0)):v.ownBlock ≠ some k:=fun e => by
  rcases h.1 with ⟨_,⟨rfl,_⟩ | ⟨g,cap,cur,rfl,_,hh,_⟩⟩
  · cases e
  · have:g = k:=by simpa [Value.ownBlock] using e
    subst this
    rw [hh] at hk
    exact ho _ (Option.some.inj hk).symm
theorem ApI.grow {w1 W Y:World} {gb:Nat} {xs:List Dg} {v:Value} {row:Option Nat} (h:ApI w1 gb xs v W) (hg:W.grownBy Y row) (hr:∀ r,row = some r → w1.heap.size ≤ r ∧ ∃ o:Obj,W.heap[r]? = some o ∧ o.isCells = false):ApI w1 gb xs v Y:=by
  refine ⟨?_,⟨h.own.1.kept hg ?_,h.own.2⟩,h.bel.grown hg h.bel.size (fun k e => (hr k e).1)⟩
  · refine (hg.block gb h.bx.lt (fun e => ?_)).trans h.bx
    obtain ⟨_,o,ho,hc⟩:=hr gb e.symm
    have:=h.bx
    unfold Blk at this
    rw [this] at ho
    cases ho
    cases hc
  · cases row with
    | none =>
      cases hv:v.ownBlock with
      | none => exact Or.inl rfl
      | some k => exact Or.inr (by simp)
    | some r =>
      obtain ⟨_,o,ho,hc⟩:=hr r rfl
      exact Or.inr (h.own.neB ho (fun cur e => by rw [e] at hc;cases hc))
theorem ApI.new {w1 W Y:World} {gb:Nat} {xs:List Dg} {v:Value} (h:ApI w1 gb xs v W) (hb:Below W.heap.size W Y):ApI w1 gb xs v Y:=
  h.grow (row:=none) ⟨hb.os,hb.tape,hb.output,hb.size,fun k hk _ => hb.block k hk⟩ (fun r e => by cases e)
def ApJ (w1:World) (gb:Nat) (xs:List Dg) (W:World):Prop:=∃ v,ApI w1 gb xs v W
theorem apJ_own (w1:World) (gb B:Nat) (hB:w1.heap.size ≤ B):OwnFrom B (ApJ w1 gb):=fun s W W' row h hg hr => by
  obtain ⟨v,hv⟩:=h
  exact ⟨v,hv.grow hg (fun r e => ⟨Nat.le_trans hB (hr r e).1,(hr r e).2⟩)⟩
set_option maxRecDepth 100000 in
set_option maxHeartbeats 4000000 in
theorem appSeq_any {gf:Nat} {lb:Array Value} (eg:∀ args w,(callFunc gf args).run Tryz.prog w = .ok (.enter gf args) w) {S Sp:List Dg → Prop} {N:Nat} {w0 w:World} (hseq:SeqStopsK Fence.wide 2 Tryz.prog gf lb encD KeepsWalks S Sp N w0) (hb0:Below w0.heap.size w0 w) (hN:N < 1000000) :
    Calls Tryz.prog 79 #[.slice none 0 0,.func (.func gf) #[] lb] w fun e w' => ∃ v xs,e = .returned v ∧ S xs ∧ OwnD w' w.heap.size v (xs.map (·.1)) ∧ Below w.heap.size w w':=by
  have HSQ:Aside (SeqStopsK Fence.wide 2 Tryz.prog gf lb encD KeepsWalks S Sp N w0):=hseq
  have HB0:Hid (Below w0.heap.size w0 w):=hb0
  have HN:Hid (N < 1000000):=hN
  have HEG:Aside (∀ args w,(callFunc gf args).run Tryz.prog w = .ok (.enter gf args) w):=eg
  clear hseq hb0 hN eg
  refine (callsIn_wide (n:=3)).1 ?_
  refine callsIn_of_wp_marks Tryz.func79 rfl trivial ?_ rfl
  simp only [Tryz.ntmps79,List.size_toArray,List.length_cons,List.length_nil,Nat.reduceAdd,Nat.reduceSub,Array.replicate_succ,Array.replicate_zero,List.push_toArray,List.append_toArray,List.nil_append,List.cons_append]
  gi_wp2
  obtain ⟨gb,HGB⟩:∃ z,Hid (z = w.heap.size):=⟨_,rfl⟩
  have HA0:Hid (ApI w gb [] (.slice none 0 0) (w.alloc (.cells #[.slice none 0 0] 22))):=⟨by rw [HGB.out];exact Blk.new w [.slice none 0 0] 22,OwnD.nil _ _,below_alloc _ _⟩
  rw [← HGB.out]
  generalize w.alloc (.cells #[.slice none 0 0] 22) = v1 at *
  refine range_dig (by omega) (gf:=gf) (lb:=lb) rfl HEG.out HSQ.out (HB0.out.trans (HA0.out.bel.mono HB0.out.size)) (ApJ w gb) (apJ_own w gb _ HA0.out.bel.size) ⟨_,HA0.out⟩
    (fun g5 x => { tmps:=#[.slice none 0 0,.func (.func gf) #[] lb,.pointer (some ⟨gb,0,none⟩),undef,.slice none 0 0,.pointer (some ⟨g5,0,none⟩),.func (.func gf) #[] lb,.agg (cb x.1).toArray,undef,undef,undef,undef,undef],defers:=[] }) ?assign ?body ?done
  case assign =>
    intro l x W K hK
    have HK:Aside (∀ g5 W2,W.heap.size ≤ g5 → Blk W2 g5 (cb x.1) 39 → Below W.heap.size W W2 → K { tmps:=#[.slice none 0 0,.func (.func gf) #[] lb,.pointer (some ⟨gb,0,none⟩),undef,.slice none 0 0,.pointer (some ⟨g5,0,none⟩),.func (.func gf) #[] lb,.agg (cb x.1).toArray,undef,undef,undef,undef,undef],defers:=[] } W2):=hK
    clear hK
    have td0:Hid True:=trivial
    have td1:Hid True:=trivial
    repeat (first | refine wpIn_round_list (by kernel_rfl) (by rintro ⟨_,_,h⟩;exact h) ?_ | gi_step)
    change wpList _ _ _ _ { tmps:=#[.slice none 0 0,.func (.func gf) #[] lb,.pointer (some ⟨gb,0,none⟩),undef,.slice none 0 0,undef,.func (.func gf) #[] lb,.agg (cb x.1).toArray,undef,undef,undef,undef,undef],defers:=[] } _
    go_wp2_with (first
      | (clear td0;with_reducible refine wpSeq_allocD ?_ ?_ ?_
         · rfl
         · rfl
         intro g5 y3 nnb
         have HN3:Hid (NewB zb32 W g5 y3):=nnb
         clear nnb)
      | (clear td1;with_reducible refine wpSeq_storeD (.tmp 5) (.tmp 7) g5 zb32 x.1 zb32_len x.2 HN3.out.blk ?_ ?_ ?_ ?_ ?_
         · rfl
         · rfl
         · rfl
         · rfl
         intro y4 sb
         have HB4:Hid (Blk y4 g5 (cb x.1) 39 ∧ Below W.heap.size W y4):=⟨sb.blk,HN3.out.below.trans (sb.only.below HN3.out.ge HN3.out.below.size)⟩
         clear sb))
    exact HK.out g5 y4 HN3.out.ge HB4.out.1 HB4.out.2
  case body =>
    rintro lab pre x g5 W ⟨v,hv⟩ hB5 hln
    obtain ⟨ad,cp,rfl⟩:=hv.own.slice
    have HI:Hid (ApI w gb pre (.slice ad (pre.map (·.1)).length cp) W):=hv
    have H5:Hid (Blk W g5 (cb x.1) 39):=hB5
    have HL:Hid ((pre.map (·.1)).length < 2000000):=by show _ < _;rw [List.length_map];have:=HN.out;omega
    generalize hnn:(pre.map (·.1)).length = nn at HI
    clear hv hB5 hln hnn
    have c2:W.cell? ⟨gb,0,none⟩ = some (.slice ad nn cp):=HI.out.bx.cell 0
    repeat (first | refine wpIn_round_list (by kernel_rfl) (by rintro ⟨_,_,h⟩;exact h) ?_ | gi_step)
    have td0:Hid True:=trivial
    have td1:Hid True:=trivial
    have td2:Hid True:=trivial
    go_wp2_with (first
      | (clear td0;with_reducible refine wpSeq_loadD (.tmp 5) g5 x.1 x.2 H5.out ?_ ?_ ?_ ?_
         · rfl
         · rfl
         · rfl)
      | (clear td1;with_reducible refine wpSeq_buildD (.tmp 9) x.1 x.2 ?_ ?_ ?_ ?_
         · rfl
         · rfl
         · rfl
         intro gD y3 nb
         have HY:Hid (Blk y3 gD (cb x.1) 39):=nb.blk
         have HI3:Hid (ApI w gb pre (.slice ad nn cp) y3 ∧ KeepsOthers W y3):=⟨HI.out.new nb.below,others_below nb.below⟩
         clear nb c2)
      | (clear td2;with_reducible refine wpSeq_appendD (.tmp 8) (.tmp 10) w.heap.size (.slice ad nn cp) (pre.map (·.1)) x.1 gD HI3.out.1.own HY.out x.2 HL.out HI3.out.1.bel.size ?_ ?_ ?_ ?_ ?_
         · rfl
         · rfl
         · rfl
         · rfl
         intro v4 y4 ho hg
         obtain ⟨a4,k4,hv4⟩:=ho.slice
         generalize hn4:(pre.map (·.1) ++ [x.1]).length = n4 at hv4
         clear hn4
         subst hv4
         have HO4:Hid (OwnD y4 w.heap.size (.slice a4 n4 k4) ((pre ++ [x]).map (·.1))):=by rw [List.map_append];exact ho
         have HB4:Hid (Blk y4 gb [.slice ad nn cp] 22):=by
           refine (hg.other gb (fun e => ?_) HI3.out.1.bx.lt).trans HI3.out.1.bx
           exact HI3.out.1.own.neB HI3.out.1.bx (fun cur e2 => by simp at e2) e.symm
         have HW4:Hid (Below w.heap.size w y4 ∧ KeepsOthers W y4):=by
           refine ⟨HI3.out.1.bel.trans hg.below,HI3.out.2.trans ⟨hg.below.size,fun k o hk ho2 => (hg.other k (fun e => ?_) (Array.getElem?_eq_some_iff.1 hk).1).trans hk⟩⟩
           exact HI3.out.1.own.neB hk (fun cur e2 => by rw [e2] at ho2;cases ho2) e.symm
         have c4:y4.cell? ⟨gb,0,none⟩ = some (.slice ad nn cp):=HB4.out.cell 0
         have d4:y4.frozen? ⟨gb,0,none⟩ = false:=HB4.out.frozen 0
         clear ho hg))
    have ho5:Only gb y4 (y4.setCell ⟨gb,0,none⟩ (.slice a4 n4 k4)):=Only.setCell (Only.refl _ _) _ _
    have hB5:Blk (y4.setCell ⟨gb,0,none⟩ (.slice a4 n4 k4)) gb [.slice a4 n4 k4] 22:=HB4.out.set 0 _
    generalize y4.setCell ⟨gb,0,none⟩ (.slice a4 n4 k4) = y5 at *
    have hgb:w.heap.size ≤ gb:=by rw [HGB.out];exact Nat.le_refl _
    have hb5:Below w.heap.size y4 y5:=ho5.below hgb HW4.out.1.size
    have hg5:y4.grownBy y5 (some gb):=⟨hb5.os,hb5.tape,hb5.output,hb5.size,fun k hk hne => ho5.block k (fun e => hne (by rw [e])) hk⟩
    have hk5:KeepsOthers W y5:=HW4.out.2.trans ⟨hb5.size,fun k o hk ho2 => (ho5.block k (fun e => by
      have h:=HB4.out
      unfold Blk at h
      rw [← e,hk] at h
      cases h
      cases ho2) (Array.getElem?_eq_some_iff.1 hk).1).trans hk⟩
    exact ⟨hk5,others_walks hk5,_,hB5,⟨HO4.out.1.kept hg5 (Or.inr (HO4.out.neB HB4.out (fun cur e2 => by simp at e2))),HO4.out.2⟩,HW4.out.1.trans hb5⟩
  case done =>
    rintro Dd xs W hD hxs ⟨v,hv⟩ hK
    obtain ⟨ad,cp,rfl⟩:=hv.own.slice
    have HI:Hid (ApI w gb xs (.slice ad (xs.map (·.1)).length cp) W):=hv
    have HKD:Hid (W.heap[Dd]? = some (.deferred (some []))):=hK
    have HKG:Hid (w.heap.size ≤ Dd):=Nat.le_trans HA0.out.bel.size hD
    have HXS:Hid (S xs):=hxs
    generalize hnn:(xs.map (·.1)).length = nn at HI
    have c2:W.cell? ⟨gb,0,none⟩ = some (.slice ad nn cp):=HI.out.bx.cell 0
    clear hv hK hD hxs hnn
    gi_wp2
    have hgp:=grownBy_putObj' W Dd (.deferred none)
    have hbl:Below w.heap.size w (W.putObj Dd (.deferred none)):=HI.out.bel.grown hgp HI.out.bel.size (fun k e => by cases e;exact HKG.out)
    have how:OwnD (W.putObj Dd (.deferred none)) w.heap.size (.slice ad nn cp) (xs.map (·.1)):=⟨HI.out.own.1.kept hgp (Or.inr (HI.out.own.neB HKD.out (fun cur e2 => by cases e2))),HI.out.own.2⟩
    refine ⟨by simp,.inl ⟨_,_,rfl,run_takeDeferred HKD.out,?_⟩⟩
    exact ⟨_,results_tmp rfl _ _ _,Value.slice ad nn cp,xs,rfl,HXS.out,how,hbl⟩
set_option maxRecDepth 100000 in
set_option maxHeartbeats 4000000 in
theorem collect_any {gf:Nat} {lb:Array Value} (eg:∀ args w,(callFunc gf args).run Tryz.prog w = .ok (.enter gf args) w) {S Sp:List Dg → Prop} {N:Nat} {w0 w:World} (hseq:SeqStopsK Fence.wide 2 Tryz.prog gf lb encD KeepsWalks S Sp N w0) (hb0:Below w0.heap.size w0 w) (hN:N < 1000000) :
    Calls Tryz.prog 50 #[.func (.func gf) #[] lb] w fun e w' => ∃ v xs,e = .returned v ∧ S xs ∧ OwnD w' w.heap.size v (xs.map (·.1)) ∧ Below w.heap.size w w':=by
  have HC:=appSeq_any eg hseq hb0 hN
  go_enter Tryz.func50,Tryz.ntmps50
  go_wp2_with (go_at_call 79;refine HC.mono ?_;rintro e w' ⟨v,xs,rfl,h1,h2,h3⟩)
  go_ret
  exact ⟨v,xs,rfl,h1,h2,h3⟩
set_option maxRecDepth 100000 in
set_option maxHeartbeats 4000000 in
theorem keys_any (gm:Nat) (w:World):Calls Tryz.prog 32 #[.map (some gm)] w fun e w' => ∃ gb,e = .returned (.func (.func 52) #[] #[.pointer (some ⟨gb,0,none⟩)]) ∧ Blk w' gb [.map (some gm)] 52 ∧ Below w.heap.size w w':=by
  go_enter Tryz.func32,Tryz.ntmps32
  go_wp2
  go_ret
  exact ⟨_,rfl,Blk.new w [.map (some gm)] 52,below_alloc _ _⟩
end Go.Proofs.YtphmmnffgknkcaaGreatDoor
namespace Go.Proofs.YtphmmnffgknkcaaGreatDoor
open Go.Shelf
set_option maxRecDepth 100000
def sortA_ren:Go.Shelf.Ren:=⟨fun | 6 => 51 | 15 => 81 | 14 => 80 | 28 => 105 | 29 => 106 | 20 => 97 | 21 => 98 | 22 => 99 | 23 => 100 | 24 => 101 | 25 => 102 | 26 => 103 | 27 => 104 | 46 => 112 | 47 => 113 | 48 => 114 | 49 => 115 | 50 => 116 | 57 => 120 | n => n,fun | 22 => 22 | 24 => 39 | 25 => 74 | 3 => 3 | 39 => 95 | 0 => 0 | 53 => 91 | 55 => 90 | 4 => 4 | 46 => 144 | 45 => 143 | 50 => 76 | 5 => 5 | 9 => 9 | 66 => 154 | 70 => 158 | 76 => 163 | 77 => 164 | n => n,fun | n => n⟩
theorem sortA:Go.Proofs.SlLaysF0.n6 Tryz.prog sortA_ren:={
  mixed:=by kernel_rfl
  f6:=⟨Tryz.f51.name,by decide,Tryz.func51.trans (congrArg some (by kernel_rfl))⟩
  f14:=⟨Tryz.f80.name,by decide,Tryz.func80.trans (congrArg some (by kernel_rfl))⟩
  f15:=Tryz.func81.trans (congrArg some (by kernel_rfl))
  f20:=⟨Tryz.f97.name,by decide,Tryz.func97.trans (congrArg some (by kernel_rfl))⟩
  f21:=⟨Tryz.f98.name,by decide,Tryz.func98.trans (congrArg some (by kernel_rfl))⟩
  f22:=⟨Tryz.f99.name,by decide,Tryz.func99.trans (congrArg some (by kernel_rfl))⟩
  f23:=⟨Tryz.f100.name,by decide,Tryz.func100.trans (congrArg some (by kernel_rfl))⟩
  f24:=⟨Tryz.f101.name,by decide,Tryz.func101.trans (congrArg some (by kernel_rfl))⟩
  f25:=⟨Tryz.f102.name,by decide,Tryz.func102.trans (congrArg some (by kernel_rfl))⟩
  f26:=⟨Tryz.f103.name,by decide,Tryz.func103.trans (congrArg some (by kernel_rfl))⟩
  f27:=⟨Tryz.f104.name,by decide,Tryz.func104.trans (congrArg some (by kernel_rfl))⟩
  f28:=Tryz.func105.trans (congrArg some (by kernel_rfl))
  f29:=Tryz.func106.trans (congrArg some (by kernel_rfl))
  f46:=⟨Tryz.f112.name,by decide,Tryz.func112.trans (congrArg some (by kernel_rfl))⟩
  f47:=Tryz.func113.trans (congrArg some (by kernel_rfl))
  f48:=Tryz.func114.trans (congrArg some (by kernel_rfl))
  f49:=⟨Tryz.f115.name,by decide,Tryz.func115.trans (congrArg some (by kernel_rfl))⟩
  f50:=⟨Tryz.f116.name,by decide,Tryz.func116.trans (congrArg some (by kernel_rfl))⟩
  f57:=⟨Tryz.f120.name,by decide,Tryz.func120.trans (congrArg some (by kernel_rfl))⟩
  t0:=Tryz.underlying0
  a0:=Tryz.isAgg0
  z0:=Tryz.sizeOf0
  v0:=Tryz.zeroValue0
  t3:=Tryz.underlying3
  a3:=Tryz.isAgg3
  z3:=Tryz.sizeOf3
  v3:=Tryz.zeroValue3
  t4:=Tryz.underlying4
  a4:=Tryz.isAgg4
  z4:=Tryz.sizeOf4
  v4:=Tryz.zeroValue4
  t5:=Tryz.underlying5
  a5:=Tryz.isAgg5
  z5:=Tryz.sizeOf5
  v5:=Tryz.zeroValue5
  t9:=Tryz.underlying9
  a9:=Tryz.isAgg9
  z9:=Tryz.sizeOf9
  v9:=Tryz.zeroValue9
  t22:=Tryz.underlying22
  a22:=Tryz.isAgg22
  z22:=Tryz.sizeOf22
  v22:=Tryz.zeroValue22
  t25:=Tryz.underlying74
  a25:=Tryz.isAgg74
  z25:=Tryz.sizeOf74
  v25:=Tryz.zeroValue74
  t39:=Tryz.underlying95
  a39:=Tryz.isAgg95
  z39:=Tryz.sizeOf95
  v39:=Tryz.zeroValue95
  t45:=Tryz.underlying143
  a45:=Tryz.isAgg143
  z45:=Tryz.sizeOf143
  v45:=Tryz.zeroValue143
  t46:=Tryz.underlying144
  a46:=Tryz.isAgg144
  z46:=Tryz.sizeOf144
  v46:=Tryz.zeroValue144
  t50:=Tryz.underlying76
  a50:=Tryz.isAgg76
  z50:=Tryz.sizeOf76
  v50:=Tryz.zeroValue76
  t53:=Tryz.underlying91
  a53:=Tryz.isAgg91
  z53:=Tryz.sizeOf91
  v53:=Tryz.zeroValue91
  t55:=Tryz.underlying90
  a55:=Tryz.isAgg90
  z55:=Tryz.sizeOf90
  v55:=Tryz.zeroValue90
  t66:=Tryz.underlying154
  a66:=Tryz.isAgg154
  z66:=Tryz.sizeOf154
  v66:=Tryz.zeroValue154
  t70:=Tryz.underlying158
  a70:=Tryz.isAgg158
  z70:=Tryz.sizeOf158
  v70:=Tryz.zeroValue158
  t76:=Tryz.underlying163
  a76:=Tryz.isAgg163
  z76:=Tryz.sizeOf163
  v76:=Tryz.zeroValue163
  t77:=Tryz.underlying164
  a77:=Tryz.isAgg164
  z77:=Tryz.sizeOf164
  v77:=Tryz.zeroValue164 }
end Go.Proofs.YtphmmnffgknkcaaGreatDoor
namespace Go.Proofs.YtphmmnffgknkcaaGreatDoor
open Go.RowKit Go.Shelf
set_option maxRecDepth 100000
@[reducible] def dgI:Inhabited Dg:=⟨⟨zb32,zb32_len⟩⟩
def encG (x:Dg):List Value:=cb x.1
def cfD (x y:Dg):Int:=cmpB x.1 y.1
theorem lessB_tri:∀ (x y:By),x.length = y.length → lessB x y = true ∨ x = y ∨ lessB y x = true
  | [],[],_ => Or.inr (Or.inl rfl)
  | [],_ :: _,h => by simp at h
  | _ :: _,[],h => by simp at h
  | a :: x,b :: y,h => by
    by_cases e:a = b
    · subst e
      rcases lessB_tri x y (by simpa using h) with h1 | h1 | h1
      · exact Or.inl (by simp [lessB,h1])
      · exact Or.inr (Or.inl (by rw [h1]))
      · exact Or.inr (Or.inr (by simp [lessB,h1]))
    · have e2:¬ b = a:=fun h => e h.symm
      by_cases h1:a.toNat < b.toNat
      · exact Or.inl (by simp [lessB,e,h1])
      · refine Or.inr (Or.inr ?_)
        have:b.toNat < a.toNat:=by
          have:a.toNat ≠ b.toNat:=fun h2 => e (BitVec.eq_of_toNat_eq h2)
          omega
        simp [lessB,e2,this]
theorem lt_cfD (x y:Dg):ltOf cfD x y = lessB x.1 y.1:=by
  unfold ltOf cfD
  exact cmp_less _ _ (by rw [x.2,y.2])
theorem swoD:Sort.SWO (ltOf cfD) where
  irrefl x:=by rw [lt_cfD,lessB_self]
  trans x y z h1 h2:=by rw [lt_cfD] at *;exact lessB_trans _ _ _ h1 h2
  ntrans x y z h1 h2:=by
    rw [lt_cfD] at *
    cases h3:lessB x.1 z.1 with
    | false => rfl
    | true =>
      rcases lessB_tri x.1 y.1 (by rw [x.2,y.2]) with h | h | h
      · rw [h] at h1;cases h1
      · rw [h,h2] at h3;cases h3
      · rw [lessB_trans _ _ _ h h3] at h2;cases h2
set_option maxRecDepth 100000 in
set_option maxHeartbeats 4000000 in
theorem live1_any (x y:Dg) (W:World):Calls Tryz.prog 33 #[.agg (encG x).toArray,.agg (encG y).toArray] W fun e w' => e = .returned (.int .i64 (cfD x y)) ∧ ∃ q os',w' = Sort.grow (W.drewN q) os':=by
  unfold encG
  obtain ⟨ca,HCA⟩:∃ z,Hid (z = cb x.1):=⟨_,rfl⟩
  obtain ⟨ce,HCE⟩:∃ z,Hid (z = cb y.1):=⟨_,rfl⟩
  rw [← HCA.out,← HCE.out]
  have h1:=Blk.new W ca 39
  have h2:=Blk.new (W.alloc (.cells ca.toArray 39)) ce 39
  have h1b:Blk ((W.alloc (.cells ca.toArray 39)).alloc (.cells ce.toArray 39)) W.heap.size ca 39:=h1.below (below_alloc _ _) h1.lt
  obtain ⟨w1,HW1⟩:∃ z,Hid (z = (W.alloc (.cells ca.toArray 39)).alloc (.cells ce.toArray 39)):=⟨_,rfl⟩
  obtain ⟨c,HC⟩:∃ c,Hid (c = cfD x y):=⟨_,rfl⟩
  rw [← HC.out]
  rw [HCA.out,HCE.out] at h1b h2
  rw [World.size_alloc] at h2
  have HCON:Hid (Calls Tryz.prog 34 #[.slice (some ⟨W.heap.size,0,none⟩) 32 32,.slice (some ⟨W.heap.size + 1,0,none⟩) 32 32] w1.drew fun e w' => e = .returned (.int .i64 c) ∧ w' = w1.drew):=by
    show Calls _ _ _ _ _
    rw [HC.out,HW1.out]
    refine bCompareR_any x.1 y.1 x.2 y.2 _ _ 0 0 _ ?_ ?_
    · rw [HCA.out,HCE.out];exact h1b.drew.range
    · rw [HCA.out,HCE.out];exact h2.drew.range
  have HFIN:Hid (∃ q os',w1.drew = Sort.grow (W.drewN q) os'):=by
    rw [HW1.out]
    exact ⟨1,_,by rw [Sort.alloc_eq_grow,Sort.alloc_eq_grow,Sort.grow_grow];rfl⟩
  clear h1 h2 h1b
  go_enter Tryz.func33,Tryz.ntmps33
  go_wp2_with fail
  rw [← HW1.out]
  refine wp_region_any (by kernel_rfl) ?_
  change wpAny _ _ _ _ _ _ _ (World.drew w1)
  refine wpAny_take (i:=0) (v:=.slice (some ⟨W.heap.size,0,none⟩) 32 32) rfl (by kernel_rfl) (by kernel_rfl) (by kernel_rfl) (fun _ _ _ h => h) (Or.inl ⟨by rfl,fun wx => by simp [execOp,Act.eval,slice_dig17]⟩) ?_
  simp only [Act.put,List.getElem_toArray,List.getElem_cons_zero,List.setIfInBounds_toArray,List.set_cons_zero,List.set_cons_succ]
  refine wpAny_take (i:=1) (v:=.slice (some ⟨W.heap.size + 1,0,none⟩) 32 32) rfl (by kernel_rfl) (by kernel_rfl) (by kernel_rfl) (fun _ _ _ h => h) (Or.inl ⟨by rfl,fun wx => by simp [execOp,Act.eval,slice_dig17]⟩) ?_
  simp only [Act.put,List.getElem_toArray,List.getElem_cons_succ,List.getElem_cons_zero,List.setIfInBounds_toArray,List.set_cons_zero,List.set_cons_succ]
  refine wpAny_enter 2 (by kernel_rfl) rfl (by rfl) (f:=34) (args:=#[.slice (some ⟨W.heap.size,0,none⟩) 32 32,.slice (some ⟨W.heap.size + 1,0,none⟩) 32 32]) (by simp [go_sem]) HCON.out ?_
  rintro e wz ⟨rfl,hz⟩
  rw [hz];clear hz wz
  refine ⟨_,rfl,?_⟩
  simp only [Act.put,List.getElem_toArray,List.getElem_cons_succ,List.getElem_cons_zero,List.setIfInBounds_toArray,List.set_cons_zero,List.set_cons_succ]
  refine wpAny_take (i:=3) (v:=.int .i64 c) rfl (by kernel_rfl) (by kernel_rfl) (by kernel_rfl) (fun _ _ _ h => h) (Or.inl ⟨by rfl,fun wx => by simp [go_sem]⟩) ?_
  simp only [Act.put,List.getElem_toArray,List.getElem_cons_succ,List.getElem_cons_zero,List.setIfInBounds_toArray,List.set_cons_zero,List.set_cons_succ]
  refine wpAny_done (by kernel_rfl) ?_ _
  go_wp2
  go_ret
  exact ⟨rfl,HFIN.out⟩
theorem cmpLaysD (blk off size:Nat) (w:World):letI:=dgI;CmpLays Tryz.prog 33 #[] encG 32 cfD blk off size w:=by
  letI:=dgI
  exact fun _ _ _ _ x y => live1_any x y _
theorem agg_dig:∀ w,(isAgg 39).run Tryz.prog w = .ok true w:=fun w => by kernel_rfl
theorem size_dig:∀ w,(Go.sizeOf 39).run Tryz.prog w = .ok 32 w:=fun w => by kernel_rfl
theorem flat_dig (ps:List Dg) (t:Nat) (ht:t < ps.length * 32):letI:=dgI;(flatD (ps.map (·.1)))[t]? = some (Sort.flatK encG 32 ps.toArray)[t]!:=by
  letI:=dgI
  rw [Sort.get_flatK _ _ _ _ (by simpa using ht)]
  have hq:t / 32 < ps.length:=by omega
  have h3:t % 32 < 32:=Nat.mod_lt _ (by decide)
  have e1:(ps.toArray)[t / 32]! = ps[t / 32]:=by
    rw [getElem!_pos _ _ (by simpa using hq)]
    simp
  rw [e1]
  have hl:(cb ps[t / 32].1).length = 32:=by rw [cb_len,ps[t / 32].2]
  have h4:=flatD_at (ds:=ps.map (·.1)) (fun d hd => by obtain ⟨z,_,e⟩:=List.mem_map.1 hd;rw [← e];exact z.2) (t / 32) (t % 32) ((cb ps[t / 32].1)[t % 32]'(by rw [hl];exact h3)) (by simpa using hq) (by
    rw [List.getD_eq_getElem?_getD,List.getElem?_map,List.getElem?_eq_getElem hq]
    simp only [Option.map_some,Option.getD_some]
    exact List.getElem?_eq_getElem _)
  rw [show t / 32 * 32 + t % 32 = t from by omega] at h4
  rw [h4]
  exact congrArg some (getElem!_pos (encG ps[t / 32]) (t % 32) (by unfold encG;rw [hl];exact h3)).symm
def RiseD (xs:List Dg):Prop:=xs.Pairwise fun a b => lessB a.1 b.1 = true
theorem sorted_rise {ts:List Dg} (hn:ts.Nodup) (hs:ts.Pairwise fun a b => lessB b.1 a.1 = false):RiseD ts:=by
  induction ts with
  | nil => exact List.Pairwise.nil
  | cons t ts ih =>
    obtain ⟨h1,h2⟩:=List.nodup_cons.1 hn
    obtain ⟨h3,h4⟩:=List.pairwise_cons.1 hs
    refine List.pairwise_cons.2 ⟨fun d hd => ?_,ih h2 h4⟩
    rcases lessB_tri t.1 d.1 (by rw [t.2,d.2]) with h | h | h
    · exact h
    · exact absurd (Subtype.ext h ▸ hd) h1
    · rw [h3 d hd] at h;cases h
set_option maxRecDepth 100000 in
theorem sortD_any {W:World} {base:Nat} {v:Value} {ps:List Dg} (hnd:ps.Nodup) (how:OwnD W base v (ps.map (·.1))) (hl:ps.length < 1000000) (hb:base ≤ W.heap.size) :
    Calls Tryz.prog 51 #[v,.func (.func 33) #[] #[]] W fun e w' => e = .returned (.tuple #[]) ∧ ∃ ts:List Dg,ts.Perm ps ∧ RiseD ts ∧ OwnD w' base v (ts.map (·.1)) ∧ Below base W w':=by
  letI:=dgI
  have hdl:∀ qs:List Dg,∀ d ∈ qs.map (·.1),d.length = 32:=fun qs d hd => by obtain ⟨z,_,e⟩:=List.mem_map.1 hd;rw [← e];exact z.2
  have hmap:(ps.map (·.1)).length = ps.length:=List.length_map _
  obtain ⟨hl1,⟨rfl,h0⟩ | ⟨g,cap,cur,rfl,hg,hh,hc,hm,hs,ht⟩⟩:=how.1
  · have hp0:ps = []:=List.eq_nil_of_length_eq_zero (by rw [← hmap];exact h0)
    subst hp0
    refine (AnyF.slices_SortFunc_none sortA none 0 (.func (.func 33) #[] #[]) W).mono ?_
    rintro e w' ⟨rfl,rfl⟩
    exact ⟨rfl,[],List.Perm.nil,List.Pairwise.nil,how,Below.refl _ _⟩
  rw [hmap] at hc ht
  have hlt:g < W.heap.size:=(Array.getElem?_eq_some_iff.1 hh).1
  obtain ⟨d,hd⟩:∃ d:Array Dg,d = ps.toArray:=⟨_,rfl⟩
  have hds:d.size = ps.length:=by rw [hd];simp
  have hH:Sort.HoldsK encG 32 W g 0 d:=fun t htl => by
    rw [Sort.size_flatK,hds] at htl
    have h1:=flat_dig ps t htl
    rw [← hd,← ht,List.getElem?_take_of_lt htl] at h1
    refine ⟨?_,?_⟩
    · rw [Nat.zero_add,World.cell?,hh]
      simpa using h1
    · simp [World.frozen?,hh]
  have eg:∀ args w,(callFunc 33 args).run Tryz.prog w = .ok (.enter 33 args) w:=enters_of Tryz.func33 (by kernel_rfl) rfl
  have hcon:=AnyQ.slices_SortFunc sortA 32 agg_dig size_dig encG (fun x => by unfold encG;rw [cb_len,x.2]) (fun x v hv => cb_one x.1 v hv) cfD swoD 33 #[] g 0 cap d W eg (cmpLaysD g 0 d.size W) hH hlt (by rw [hds];omega)
  rw [hds] at hcon
  rw [hmap]
  refine hcon.mono ?_
  rintro e w' ⟨rfl,d',n,os,⟨hp1,_,hp3⟩,hso,rfl⟩
  have hd's:d'.size = ps.length:=hp1.trans hds
  have hperm:d'.toList.Perm ps:=by
    have e1:(d'.extract 0 ps.length).toList = d'.toList:=by rw [← hd's];simp
    have e2:(d.extract 0 ps.length).toList = d.toList:=by rw [← hds];simp
    rw [e1,e2,hd] at hp3
    exact hp3
  have hlts:d'.toList.length = ps.length:=hperm.length_eq
  refine ⟨rfl,d'.toList,hperm,sorted_rise (hperm.nodup_iff.2 hnd) ?_,⟨⟨by rw [flatD_len _ (hdl _),List.length_map],Or.inr ⟨g,cap,Sort.putCells id 0 (Sort.flatK encG 32 d') cur,by rw [List.length_map,hlts],hg,?_,by rw [List.length_map,hlts];exact hc,hm,?_,?_⟩⟩,hdl _⟩,?_⟩
  · rw [List.pairwise_iff_getElem]
    intro i j hi hj hij
    have h1:=hso i j (Nat.zero_le _) hij (by rw [← hd's];simpa using hj)
    rw [lt_cfD,getElem!_pos d' i (by simpa using hi),getElem!_pos d' j (by simpa using hj)] at h1
    simpa using h1
  · unfold sortWorldK
    rw [Sort.heap_grow_old _ _ (by simp [Sort.putRowK];exact hlt)]
    simp [Sort.putRowK,Sort.putRow,Sort.mapBlock,Array.getElem?_modify,hh,Sort.onCells]
  · simp [Sort.putCells,hs]
  · apply List.ext_getElem?
    intro t
    rw [List.length_map,hlts]
    by_cases htl:t < ps.length * 32
    · rw [List.getElem?_take_of_lt htl]
      have h1:=flat_dig d'.toList t (by rw [hlts];exact htl)
      rw [h1]
      have hcz:t < cur.size:=by rw [hs];have:=Nat.mul_le_mul_right 32 hc;omega
      simp [Sort.putCells,hcz,hd's,htl]
    · rw [List.getElem?_eq_none (by simp;omega),List.getElem?_eq_none (by rw [flatD_len _ (hdl _),List.length_map,hlts];omega)]
  · refine ⟨rfl,rfl,rfl,by simp [sortWorldK,Sort.putRowK],fun k hk => ?_⟩
    have hkl:k < W.heap.size:=Nat.lt_of_lt_of_le hk hb
    unfold sortWorldK
    rw [Sort.heap_grow_old _ _ (by simp [Sort.putRowK];exact hkl)]
    simp [Sort.putRowK,Sort.putRow,Sort.mapBlock,Array.getElem?_modify,show g ≠ k by omega]
end Go.Proofs.YtphmmnffgknkcaaGreatDoor
namespace Go.Proofs.YtphmmnffgknkcaaGreatDoor
open Go.RowKit
set_option maxRecDepth 100000
set_option maxRecDepth 100000 in
set_option maxHeartbeats 16000000 in
theorem reapKnown_none (vl vp:Value) (x:By) (ps:List By) (w:World) (hK:KOk w) (hx:x.length = 32) (hD:ReadsD w vl [x]) (hP:ReadsL w vp ps) (hn:ps.length < 100000) (hb:∀ p ∈ ps,p.length < 1000000) (hp:∀ p ∈ ps,dig p ≠ x) :
    Calls Tryz.prog 15 #[vl,vp] w fun e w' => e = .returned (.tuple #[.map none,.int .i64 7]) ∧ Below w.heap.size w w':=by
  have HK:Hid (KOk w):=hK
  have HP:Hid (ReadsL w vp ps):=hP
  have HPL:Hid (ps.length < 100000 ∧ ∀ p ∈ ps,p.length < 1000000):=⟨hn,hb⟩
  have HNO:Hid (∀ p ∈ ps,dig p ≠ x):=hp
  have HD:Hid (ReadsD w vl [x]):=hD
  obtain ⟨adl,cpl,hvl⟩:=hD.slice
  obtain ⟨m,HM⟩:∃ z:Nat,Hid (z = 1):=⟨1,rfl⟩
  rw [show [x].length = 1 from rfl,← HM.out] at hvl
  subst hvl
  obtain ⟨d,HDD⟩:∃ z,Hid (z = x):=⟨_,rfl⟩
  have HDL:Hid (d.length = 32):=by show _ = _;rw [HDD.out];exact hx
  clear hK hP hn hb hp hD hx
  go_enter Tryz.func15,Tryz.ntmps15
  have ta0:Hid True:=trivial
  go_wp2_with (first
    | (clear ta0;with_reducible refine wpSeq_mkMapP ?_ ?_ ?_
       · rfl
       · rfl
       intro gm w1 hm hge hb1
       have HI0:Hid (KnI w gm 0 (fun _ => none) [] w1):=knI_new hb1 hge hm
       clear hm hge hb1))
  go_loopw [18] (fun i W => ∃ (k n:Nat) (F:By → Option Nat),i = .int .i64 (k:Int) ∧ Hid (k = 0 ∧ F d = none) ∧ Hid (KnI w gm n F [] W)) (fun i _ => m - (intOf i).toNat)
  case atStart => exact ⟨0,0,fun _ => none,rfl,⟨rfl,rfl⟩,HI0.out⟩
  case round =>
    obtain ⟨k,n,F,rfl,HK0,HI⟩:=hrel
    have hlt:k < m:=by have h1:=HK0.out.1;have h2:=HM.out;omega
    have hlti:(k:Int) < (m:Int):=by omega
    obtain ⟨bl,ol,cl2,hva,hya⟩:=HD.out.at (by simp)
    rw [show [x].length = 1 from rfl,← HM.out] at hva
    simp only [Value.slice.injEq,true_and] at hva
    obtain ⟨rfl,rfl⟩:=hva
    have hrk:=hya 0 (by simp)
    have hdk:[x].getD 0 [] = d:=HDD.out.symm
    rw [hdk,show (0:Nat) = k from HK0.out.1.symm] at hrk
    have HRK:Hid (∀ W,Below w.heap.size w W → W.rangeAt bl (ol + k * 32) (cb d)):=fun W hW => rangeAt_below hrk hW (range_lt hrk (by rw [cb_len,HDL.out];decide))
    clear hya hrk hdk
    have e2:((((F d).getD 0:Nat):Int) == 2) = false:=by rw [HK0.out.2];rfl
    have HLD:Hid (∀ W,Below w.heap.size w W → Calls Tryz.prog 8 #[.agg (cb d).toArray,vp] W fun e w' => e = .returned (.tuple #[.pointer none,.int .i64 7]) ∧ Below W.heap.size W w'):=fun W hW => by
      have hdl:=HDL.out
      rw [HDD.out] at hdl ⊢
      exact pgLoad_none x vp ps W (HK.out.below hW HK.out.lt) hdl (HP.out.below hW) HPL.out.1 (fun p hp => Nat.lt_trans (HPL.out.2 p hp) (by decide)) HNO.out
    have tb0:Hid True:=trivial
    have tb1:Hid True:=trivial
    have tb2:Hid True:=trivial
    have tb3:Hid True:=trivial
    have tb4:Hid True:=trivial
    have tb5:Hid True:=trivial
    have tb6:Hid True:=trivial
    go_wp2_with (first
      | (clear tb0;with_reducible refine wpSeq_idxD17 (.tmp 16) (.tmp 18) bl ol m cpl k hlt ?_ ?_ ?_ ?_ ?_
         · rfl
         · rfl
         · rfl
         · rfl
         have HQ1:Hid True:=trivial)
      | (clear tb1;with_reducible refine wpSeq_ldAt17 (.tmp 20) bl (ol + k * 32) d HDL.out (HRK.out _ HI.out.bel) ?_ ?_ ?_ ?_
         · rfl
         · rfl
         · rfl
         have HQ2:Hid True:=trivial)
      | (clear tb2;with_reducible refine wpSeq_allocD ?_ ?_ ?_
         · rfl
         · rfl
         intro g8 w2 nn
         have HNN:Hid (Blk w2 g8 (cb zb32) 39 ∧ wr.heap.size ≤ g8 ∧ Below wr.heap.size wr w2):=⟨nn.blk,nn.ge,nn.below⟩
         clear nn)
      | (clear tb3;with_reducible refine wpSeq_storeD (.tmp 8) (.tmp 21) g8 zb32 d zb32_len HDL.out HNN.out.1 ?_ ?_ ?_ ?_ ?_
         · rfl
         · rfl
         · rfl
         · rfl
         intro w3 h9
         have hb:Below wr.heap.size wr w3:=HNN.out.2.2.trans (h9.only.below HNN.out.2.1 HNN.out.2.2.size)
         have H8:Hid (Blk w3 g8 (cb d) 39):=h9.blk
         replace HI:Hid (KnI w gm n F [] w3):=HI.out.next hb
         have hlk:=HI.out.mp.look1 HDL.out
         clear h9 HNN hb)
      | (clear tb4;with_reducible refine wpSeq_loadD (.tmp 8) g8 d HDL.out H8.out ?_ ?_ ?_ ?_
         · rfl
         · rfl
         · rfl
         have HQ3:Hid True:=trivial)
      | (clear tb5;with_reducible refine wpSeq_loadD (.tmp 8) g8 d HDL.out H8.out ?_ ?_ ?_ ?_
         · rfl
         · rfl
         · rfl
         have HQ4:Hid True:=trivial)
      | (clear tb6;go_at_call 8;refine (HLD.out _ HI.out.bel).mono ?_;rintro e w4 ⟨rfl,hb⟩
         replace HI:Hid (KnI w gm n F [] w4):=HI.out.next hb
         clear hb hlk))
    refine bodyPost_ret (results_tmp2 rfl _ _ _) rfl ?_
    exact ⟨rfl,HI.out.bel⟩
end Go.Proofs.YtphmmnffgknkcaaGreatDoor
namespace Go.Proofs.YtphmmnffgknkcaaGreatDoor
open Go.RowKit
set_option maxRecDepth 100000
set_option maxRecDepth 100000 in
set_option maxHeartbeats 16000000 in
theorem sorted_any {gf:Nat} {lb:Array Value} (eg:∀ args w,(callFunc gf args).run Tryz.prog w = .ok (.enter gf args) w) {F:By → Option Nat} {Sp:List Dg → Prop} {N:Nat} {w0 w:World} (hseq:SeqStopsK Fence.wide 2 Tryz.prog gf lb encD KeepsWalks (fun xs => SD F xs ∧ xs.length ≤ N) Sp N w0) (hb0:Below w0.heap.size w0 w) (hN:N < 1000000) :
    Calls Tryz.prog 31 #[.func (.func gf) #[] lb,.func (.func 33) #[] #[]] w fun e w' => ∃ v ts,e = .returned v ∧ RiseD ts ∧ SD F ts ∧ OwnD w' w.heap.size v (ts.map (·.1)) ∧ Below w.heap.size w w':=by
  have HC:=collect_any eg hseq hb0 hN
  have HS:Aside (∀ {W:World} {v:Value} {ps:List Dg},ps.Nodup → OwnD W w.heap.size v (ps.map (·.1)) → ps.length < 1000000 → w.heap.size ≤ W.heap.size → Calls Tryz.prog 51 #[v,.func (.func 33) #[] #[]] W fun e w' => e = .returned (.tuple #[]) ∧ ∃ ts:List Dg,ts.Perm ps ∧ RiseD ts ∧ OwnD w' w.heap.size v (ts.map (·.1)) ∧ Below w.heap.size W w'):=fun h1 h2 h3 h4 => sortD_any h1 h2 h3 h4
  go_enter Tryz.func31,Tryz.ntmps31
  go_wp2_with (first
    | (go_at_call 50;refine HC.mono ?_;rintro e w1 ⟨v,xs,rfl,h1,h2,h3⟩
       have HX:Hid (SD F xs ∧ xs.length ≤ N ∧ OwnD w1 w.heap.size v (xs.map (·.1)) ∧ Below w.heap.size w w1):=⟨h1.1,h1.2,h2,h3⟩
       clear h1 h2 h3)
    | (go_at_call 51;refine (HS.out HX.out.1.1 HX.out.2.2.1 (Nat.lt_of_le_of_lt HX.out.2.1 hN) HX.out.2.2.2.size).mono ?_;rintro e w2 ⟨rfl,ts,k1,k2,k3,k4⟩
       have HY:Hid (ts.Perm xs ∧ RiseD ts ∧ OwnD w2 w.heap.size v (ts.map (·.1)) ∧ Below w.heap.size w1 w2):=⟨k1,k2,k3,k4⟩
       clear k1 k2 k3 k4))
  refine ⟨rfl,_,results_tmp rfl _ _ _,?_⟩
  refine ⟨v,ts,rfl,HY.out.2.1,⟨HY.out.1.nodup_iff.2 HX.out.1.1,fun y => ?_⟩,HY.out.2.2.1,HX.out.2.2.2.trans HY.out.2.2.2⟩
  rw [HY.out.1.mem_iff]
  exact HX.out.1.2 y
set_option maxRecDepth 100000 in
set_option maxHeartbeats 16000000 in
theorem live_any (vl vp:Value) (ks:List (List Lf)) (ps:List By) (w:World) (hK:KOk w) (hD:ReadsD w vl (ks.map fun l => dig (topPg 0 l))) (hP:ReadsL w vp ps) (hg:∀ l ∈ ks,GoodT ps l) (ha:Apart17 ps) (hk:ks.length ≤ 20) (hn:ps.length < 100000) (hb:∀ p ∈ ps,p.length < 1000000) :
    Calls Tryz.prog 14 #[vl,vp] w fun e w' => ∃ v ts,e = .returned (.tuple #[v,.int .i64 0]) ∧ RiseD ts ∧ (∀ x:Dg,x ∈ ts ↔ keyIn ks x.1) ∧ OwnD w' w.heap.size v (ts.map (·.1)) ∧ Below w.heap.size w w':=by
  have HKN:Hid (Calls Tryz.prog 15 #[vl,vp] w fun e w' => ∃ gm n F,e = .returned (.tuple #[.map (some gm),.int .i64 0]) ∧ KnI w gm n F ks w' ∧ n ≤ ks.length * 30000):=reapKnown_any vl vp ks ps w hK hD hP hg ha (by omega) hn hb
  have HKL:Hid (ks.length ≤ 20):=hk
  clear hK hD hP hg ha hk hn hb
  go_enter Tryz.func14,Tryz.ntmps14
  go_wp2_with (first
    | (go_at_call 15;refine HKN.out.mono ?_;rintro e w1 ⟨gm,n,F,rfl,h1,h2⟩
       have HI:Hid (KnI w gm n F ks w1 ∧ n < 1000000):=⟨h1,by have:=HKL.out;have:ks.length * 30000 ≤ 20 * 30000:=Nat.mul_le_mul_right _ (by omega);omega⟩
       clear h1 h2)
    | (go_at_call 32;refine (keys_any gm _).mono ?_;rintro e w2 ⟨gb,rfl,h1,h2⟩
       have HB2:Hid (Blk w2 gb [.map (some gm)] 52 ∧ Below w1.heap.size w1 w2):=⟨h1,h2⟩
       clear h1 h2)
    | (go_at_call 31;refine (sorted_any (enters_of Tryz.func52 (by kernel_rfl) rfl) (keys1_stops 2 w2 HB2.out.1 (HI.out.1.mp.next HB2.out.2)) (Below.refl _ _) HI.out.2).mono ?_;rintro e w3 ⟨v,ts,rfl,h1,h2,h3,h4⟩
       have HT:Hid (RiseD ts ∧ SD F ts ∧ OwnD w3 w2.heap.size v (ts.map (·.1)) ∧ Below w2.heap.size w2 w3):=⟨h1,h2,h3,h4⟩
       clear h1 h2 h3 h4))
  refine ⟨rfl,_,results_tmp2 rfl _ _ _,?_⟩
  have hs:w.heap.size ≤ w2.heap.size:=Nat.le_trans HI.out.1.bel.size HB2.out.2.size
  refine ⟨v,ts,rfl,HT.out.1,fun y => ?_,HT.out.2.2.1.mono hs,(HI.out.1.bel.trans (HB2.out.2.mono HI.out.1.bel.size)).trans (HT.out.2.2.2.mono hs)⟩
  rw [HT.out.2.1.2 y]
  exact HI.out.1.has y.1
set_option maxRecDepth 100000 in
set_option maxHeartbeats 16000000 in
theorem live_none (vl vp:Value) (x:By) (ps:List By) (w:World) (hK:KOk w) (hx:x.length = 32) (hD:ReadsD w vl [x]) (hP:ReadsL w vp ps) (hn:ps.length < 100000) (hb:∀ p ∈ ps,p.length < 1000000) (hp:∀ p ∈ ps,dig p ≠ x) :
    Calls Tryz.prog 14 #[vl,vp] w fun e w' => e = .returned (.tuple #[.slice none 0 0,.int .i64 7]) ∧ Below w.heap.size w w':=by
  have HKN:Hid (Calls Tryz.prog 15 #[vl,vp] w fun e w' => e = .returned (.tuple #[.map none,.int .i64 7]) ∧ Below w.heap.size w w'):=reapKnown_none vl vp x ps w hK hx hD hP hn hb hp
  clear hK hD hP hn hb hp hx
  go_enter Tryz.func14,Tryz.ntmps14
  go_wp2_with (first
    | (go_at_call 15;refine HKN.out.mono ?_;rintro e w1 ⟨rfl,h1⟩
       have HI:Hid (Below w.heap.size w w1):=h1
       clear h1))
  refine ⟨rfl,_,results_tmp2 rfl _ _ _,?_⟩
  exact ⟨rfl,HI.out⟩
end Go.Proofs.YtphmmnffgknkcaaGreatDoor
namespace Go.Proofs.YtphmmnffgknkcaaGreatDoor
open Go.RowKit
set_option maxRecDepth 100000
theorem whole_0:wholeL 0 [] = [0]:=by rfl
theorem dig_0:dig [0] ≠ zb32:=by decide +kernel
theorem dig_07:dig [0] ≠ dig [7]:=by decide +kernel
theorem save_0:saveL 0 [] = [[0]] ∧ topPg 0 [] = [0]:=by
  have h:(wholeL 0 []).length ≤ 512:=by rw [whole_0];decide
  exact ⟨by rw [save_one h,whole_0],by rw [top_one h,whole_0]⟩
theorem good_0 {ps:List By} (h:[0] ∈ ps):GoodT ps []:=⟨(fun p hp => by cases hp),List.Pairwise.nil,by decide,fun p hp => by rw [save_0.1,List.mem_singleton] at hp;rw [hp];exact h⟩
theorem keyIn_0 {x:By}:keyIn [[]] x ↔ dig [0] = x:=by
  unfold keyIn
  constructor
  · rintro ⟨l,hl,p,hp,e⟩
    rw [List.mem_singleton.1 hl,save_0.1,List.mem_singleton] at hp
    rw [← hp];exact e
  · intro e
    exact ⟨[],List.mem_singleton.2 rfl,[0],by rw [save_0.1];exact List.mem_singleton.2 rfl,e⟩
theorem need_0:needB [[]] [0] = true ∧ needB [[]] [7] = false:=by
  refine ⟨needB_iff.2 (keyIn_0.2 rfl),?_⟩
  cases h:needB [[]] [7] with
  | false => rfl
  | true => exact absurd (keyIn_0.1 (needB_iff.1 h)) dig_07
theorem apart_1 (t:By):Apart17 [t]:=fun i j hi hj => by simp at hi;omega
theorem apart_07:Apart17 [[0],[7]]:=fun i j hi hj he => by
  have hi2:i < 2:=hi
  have h1:i = 1:=by omega
  have h2:j = 0:=by omega
  subst h1
  subst h2
  exact absurd he dig_07
theorem rise_one {ts:List Dg} {a:Dg} (hr:RiseD ts) (hm:∀ x:Dg,x ∈ ts ↔ x = a):ts = [a]:=by
  match ts,hr,hm with
  | [],_,hm => exact absurd ((hm a).2 rfl) (by simp)
  | [b],_,hm => rw [(hm b).1 (by simp)]
  | b :: c :: r,hr,hm =>
    have h1:=(List.pairwise_cons.1 hr).1 c (by simp)
    rw [(hm b).1 (by simp),(hm c).1 (by simp),lessB_self] at h1
    cases h1
theorem build_l0 (f:Operand → Value) (o:Oper) (ho:o.op = .build 43 #[]) (w:World):(execOp f o).run Tryz.prog w = .ok (.value (.agg [.slice none 0 0,.slice none 0 0].toArray)) w:=by
  unfold execOp
  rw [ho]
  kernel_rfl
theorem wpSeq_buildL0 {ops:Array Oper} {Q:Exit → Act → World → Prop} {rest:List Oper} {o:Oper} {a:Act} {w:World} (ho:o.op = .build 43 #[]) (hw:Region.wanted o (yielded ops a.tmps) = true)
    (h:wpList Tryz.prog ops Q rest (a.put o.dst (.agg [.slice none 0 0,.slice none 0 0].toArray)) w):wpList Tryz.prog ops Q (o :: rest) a w:=
  wpSeq_val _ _ hw (build_l0 _ o ho w) h
theorem build_z0 (f:Operand → Value) (o:Oper) (ho:o.op = .build 39 #[]) (w:World):(execOp f o).run Tryz.prog w = .ok (.value (.agg (cb zb32).toArray)) w:=by
  unfold execOp
  rw [ho]
  kernel_rfl
theorem wpSeq_buildZD {ops:Array Oper} {Q:Exit → Act → World → Prop} {rest:List Oper} {o:Oper} {a:Act} {w:World} (ho:o.op = .build 39 #[]) (hw:Region.wanted o (yielded ops a.tmps) = true)
    (h:wpList Tryz.prog ops Q rest (a.put o.dst (.agg (cb zb32).toArray)) w):wpList Tryz.prog ops Q (o :: rest) a w:=
  wpSeq_val _ _ hw (build_z0 _ o ho w) h
theorem readsD_1 {w:World} {g:Nat} {p:By} (hp:p.length = 32) (h:Blk w g (cb p) 39):ReadsD w (.slice (some ⟨g,0,none⟩) 1 1) [p]:=
  ⟨⟨_,1,rfl,Nat.le_refl _,(fun e => by cases e),fun _ => ⟨g,0,rfl,fun j hj => by
    match j,hj with
    | 0,_ => exact h.range⟩⟩,fun d hd => by rw [List.mem_singleton.1 hd];exact hp⟩
abbrev SvQ (W:World) (dg:By) (e:Ending) (w':World):Prop:=∃ gv cv ub uo un uc,e = .returned (.tuple #[.agg (cb dg).toArray,.slice (some ⟨gv,0,none⟩) 1 cv]) ∧ ReadsL w' (.slice (some ⟨gv,0,none⟩) 1 cv) [[0]] ∧ w'.cell? ⟨gv,0,none⟩ = some (.slice (some ⟨ub,uo,none⟩) un uc) ∧ Reads w' (.slice (some ⟨ub,uo,none⟩) un uc) [0] ∧ Below W.heap.size W w'
theorem save_w0 (W:World) (hK:KOk W):Calls Tryz.prog 12 #[.agg #[.slice none 0 0,.slice none 0 0],.int .i64 0] W (SvQ W (dig [0])):=by
  have hn:ReadsD W (.slice none 0 0) []:=⟨⟨none,0,rfl,Nat.le_refl _,(fun _ => rfl),fun h => by cases h⟩,fun d hd => by cases hd⟩
  have h:=eSave_any 256 0 (by omega) [] (.slice none 0 0) (.slice none 0 0) W hK (fits_zero (fun p hp => by cases hp) List.Pairwise.nil) ⟨hn,hn⟩ (by decide) (by decide)
  refine h.mono ?_
  rintro e w' ⟨v,us,rfl,hp,hb⟩
  rw [save_0.1] at hp
  rw [save_0.2]
  have hlen:us.length = 1:=hp.len
  obtain ⟨u,hu⟩:=List.length_eq_one_iff.1 hlen
  subst hu
  obtain ⟨gv,cv,hv,hcell,_⟩:=hp.own.at (j:=0) (u:=u) rfl
  have hv:v = .slice (some ⟨gv,0,none⟩) 1 cv:=hv
  subst hv
  have hrd:=(hp.good 0 u rfl).1
  rw [List.getD_cons_zero] at hrd
  obtain ⟨ad,c,rfl,h2,h3,h4⟩:=id hrd
  obtain ⟨b,off,rfl,_⟩:=h4 (by decide)
  exact ⟨gv,cv,b,off,_,c,rfl,hp.readsL,hcell,hrd,hb⟩
abbrev LvQ (W:World) (dg:By) (e:Ending) (w':World):Prop:=∃ b o c,e = .returned (.tuple #[.slice (some ⟨b,o,none⟩) 1 c,.int .i64 0]) ∧ w'.rangeAt b o (cb dg) ∧ Below W.heap.size W w'
theorem live_w0 (W:World) (vl vp:Value) (hK:KOk W) (hD:ReadsD W vl [dig [0]]) (hP:ReadsL W vp [[0]]):Calls Tryz.prog 14 #[vl,vp] W (LvQ W (dig [0])):=by
  have h:=live_any vl vp [[]] [[0]] W hK (by rw [List.map_cons,List.map_nil,save_0.2];exact hD) hP (fun l hl => by rw [List.mem_singleton.1 hl];exact good_0 (by simp)) (apart_1 _) (by decide) (by decide) (fun p hp => by rw [List.mem_singleton.1 hp];decide)
  refine h.mono ?_
  rintro e w' ⟨v,ts,rfl,hr,hm,ho,hb⟩
  have e1:ts = [⟨dig [0],len_dig' _⟩]:=rise_one hr (fun x => by
    rw [hm x,keyIn_0]
    exact ⟨fun h => Subtype.ext h.symm,fun h => by rw [h]⟩)
  subst e1
  obtain ⟨b,off,c,hv,hy⟩:=ho.readsD.at (by simp)
  have hy0:=hy 0 (by simp)
  rw [Nat.zero_mul,Nat.add_zero] at hy0
  exact ⟨b,off,c,by rw [hv];rfl,hy0,hb⟩
theorem live_w1 (W:World) (vl vp:Value) (hK:KOk W) (hD:ReadsD W vl [zb32]) (hP:ReadsL W vp [[0]]):Calls Tryz.prog 14 #[vl,vp] W fun e w' => e = .returned (.tuple #[.slice none 0 0,.int .i64 7]) ∧ Below W.heap.size W w':=
  live_none vl vp zb32 [[0]] W hK zb32_len hD hP (by decide) (fun p hp => by rw [List.mem_singleton.1 hp];decide) (fun p hp => by rw [List.mem_singleton.1 hp];exact dig_0)
abbrev SpQ (W:World) (e:Ending) (w':World):Prop:=∃ a4 c4 a5 c5,e = .returned (.tuple #[.slice a4 1 c4,.slice a5 1 c5,.int .i64 0]) ∧ Below W.heap.size W w'
theorem split_w0 (W:World) (vl vp:Value) (hK:KOk W) (hD:ReadsD W vl [dig [0]]) (hP:ReadsL W vp [[0],[7]]):Calls Tryz.prog 7 #[vl,vp] W (SpQ W):=by
  have h:=reapSplit_any vl vp [[]] [[0],[7]] W hK (by rw [List.map_cons,List.map_nil,save_0.2];exact hD) hP (fun l hl => by rw [List.mem_singleton.1 hl];exact good_0 (by simp)) apart_07 (by decide) (by decide) (fun p hp => by
    simp only [List.mem_cons,List.not_mem_nil,or_false] at hp
    rcases hp with rfl | rfl <;> decide)
  refine h.mono ?_
  rintro e w' ⟨v4,v5,rfl,h4,h5,hb⟩
  have e4:[[0],[7]].filter (needB [[]]) = [[(0:BitVec 8)]]:=by rw [List.filter_cons,need_0.1,if_pos rfl,List.filter_cons,need_0.2];rfl
  have e5:([[0],[7]].filter fun p => !needB [[]] p) = [[(7:BitVec 8)]]:=by rw [List.filter_cons,need_0.1,List.filter_cons,need_0.2];rfl
  rw [e4] at h4
  rw [e5] at h5
  obtain ⟨a4,c4,hv4,_⟩:=h4
  obtain ⟨a5,c5,hv5,_⟩:=h5
  exact ⟨a4,c4,a5,c5,by rw [hv4,hv5];rfl,hb⟩
end Go.Proofs.YtphmmnffgknkcaaGreatDoor
namespace Go.Proofs.YtphmmnffgknkcaaGreatDoor
open Go.RowKit
set_option maxRecDepth 100000
theorem rangeAt_grow {w w':World} {b o:Nat} {x:By} (h:w.rangeAt b o (cb x)) (hb:Below w.heap.size w w'):w'.rangeAt b o (cb x):=fun j v hj => by
  have h1:=h j v hj
  rw [hb.cell (p:=⟨b,o + j,none⟩) (block_lt_of_cell h1)]
  exact h1
theorem wpOp_newW {P:Program} {ops:Array Oper} {Q:Exit → Act → World → Prop} {K:Act → World → Prop} {a:Act} {w:World} (i:Nat) {oi:Oper} (cs:List Value) (t:TypeId) (n:Nat) (hi:ops[i]? = some oi) (hw:Region.wanted oi (yielded ops a.tmps) = true)
    (he:(execOp a.eval oi).run P w = .ok (.value (.slice (some ⟨w.heap.size,0,none⟩) n n)) (w.alloc (.cells cs.toArray t))) (h:∀ g w',NewR cs t w g w' → K (a.put oi.dst (.slice (some ⟨g,0,none⟩) n n)) w'):wpOp P ops Q i K a w:=
  wpOp_vl i _ _ hi hw he (h _ _ (NewR.of cs t w))
theorem build_b7 (f:Operand → Value) (o:Oper) (ho:o.op = .buildSlice 48 1 #[(0,.const (.int .u8 7))]) (hf:f (.const (.int .u8 7)) = .int .u8 7) (w:World):(execOp f o).run Tryz.prog w = .ok (.value (.slice (some ⟨w.heap.size,0,none⟩) 1 1)) (w.alloc (.cells [Value.int .u8 7].toArray 5)):=by
  unfold execOp
  rw [ho]
  simp only [List.map_toArray,List.map_cons,List.map_nil,hf]
  kernel_rfl
theorem build_t2 (f:Operand → Value) (o:Oper) (x y:Operand) (ho:o.op = .buildSlice 26 2 #[(0,x),(1,y)]) (a b:Option Addr) (n c m d:Nat) (hx:f x = .slice a n c) (hy:f y = .slice b m d) (w:World):(execOp f o).run Tryz.prog w = .ok (.value (.slice (some ⟨w.heap.size,0,none⟩) 2 2)) (w.alloc (.cells [Value.slice a n c,.slice b m d].toArray 48)):=by
  unfold execOp
  rw [ho]
  simp only [List.map_toArray,List.map_cons,List.map_nil,hx,hy]
  kernel_rfl
theorem reads_b1 {w:World} {g:Nat} (h:Blk w g [.int .u8 7] 5):Reads w (.slice (some ⟨g,0,none⟩) 1 1) [7]:=
  ⟨_,1,rfl,Nat.le_refl _,(fun e => by cases e),fun _ => ⟨g,0,rfl,fun j hj => by
    have hj0:j = 0:=by simp at hj;exact hj
    subst hj0
    exact h.cell 0⟩⟩
theorem readsL_2b {w:World} {g:Nat} {va vb:Value} {la lb:By} (h:Blk w g [va,vb] 48) (ha:Reads w va la) (hb:Reads w vb lb):ReadsL w (.slice (some ⟨g,0,none⟩) 2 2) [la,lb]:=
  ⟨_,2,rfl,Nat.le_refl _,(fun e => by cases e),fun _ => ⟨g,0,rfl,fun j hj => by
    match j,hj with
    | 0,_ => exact ⟨va,h.cell 0,ha⟩
    | 1,_ => exact ⟨vb,h.cell 1,hb⟩⟩⟩
structure PrW (gv cv:Nat) (ub uo un uc:Nat) (W:World):Prop where
  rl:ReadsL W (.slice (some ⟨gv,0,none⟩) 1 cv) [[0]]
  cl:W.cell? ⟨gv,0,none⟩ = some (.slice (some ⟨ub,uo,none⟩) un uc)
  rd:Reads W (.slice (some ⟨ub,uo,none⟩) un uc) [0]
theorem PrW.next {gv cv ub uo un uc:Nat} {W W':World} (h:PrW gv cv ub uo un uc W) (hb:Below W.heap.size W W'):PrW gv cv ub uo un uc W':=
  ⟨h.rl.below hb,by rw [hb.cell (p:=⟨gv,0,none⟩) (block_lt_of_cell h.cl)];exact h.cl,h.rd.below hb⟩
set_option maxRecDepth 100000 in
set_option maxHeartbeats 16000000 in
theorem works18_any (w:World) (hK:KOk w):Calls Tryz.prog 6 #[] w fun e w' => e = .returned (.bool true) ∧ Below w.heap.size w w':=by
  have HK:Hid (KOk w):=hK
  have HBW:Hid (Below w.heap.size w w):=Below.refl _ _
  obtain ⟨dg,HDG⟩:∃ x,Hid (x = dig [0]):=⟨_,rfl⟩
  have HDL:Hid (dg.length = 32):=by show _ = _;rw [HDG.out];exact len_dig' _
  have hq:∀ wx:World,(Op.equalIn 10000 39 (.agg (cb dg).toArray) (.agg (cb dg).toArray)).run Tryz.prog wx = .ok true wx:=fun wx => eq_dig_same dg HDL.out wx
  obtain ⟨zz,HZ⟩:∃ x,Hid (x = zb32):=⟨_,rfl⟩
  have HSV:Hid (∀ W,KOk W → Calls Tryz.prog 12 #[.agg #[.slice none 0 0,.slice none 0 0],.int .i64 0] W (SvQ W dg)):=fun W h => by rw [HDG.out];exact save_w0 W h
  have HL0:Hid (∀ W vl vp,KOk W → ReadsD W vl [dg] → ReadsL W vp [[0]] → Calls Tryz.prog 14 #[vl,vp] W (LvQ W dg)):=fun W vl vp h1 h2 h3 => by rw [HDG.out] at h2 ⊢;exact live_w0 W vl vp h1 h2 h3
  have HL1:Hid (∀ W vl vp,KOk W → ReadsD W vl [zz] → ReadsL W vp [[0]] → Calls Tryz.prog 14 #[vl,vp] W fun e w' => e = .returned (.tuple #[.slice none 0 0,.int .i64 7]) ∧ Below W.heap.size W w'):=fun W vl vp h1 h2 h3 => by rw [HZ.out] at h2;exact live_w1 W vl vp h1 h2 h3
  have HSP:Hid (∀ W vl vp,KOk W → ReadsD W vl [dg] → ReadsL W vp [[0],[7]] → Calls Tryz.prog 7 #[vl,vp] W (SpQ W)):=fun W vl vp h1 h2 h3 => by rw [HDG.out] at h2;exact split_w0 W vl vp h1 h2 h3
  have HZL:Hid (zz.length = 32):=by show _ = _;rw [HZ.out];exact zb32_len
  clear hK
  go_enter Tryz.func6,Tryz.ntmps6
  have tk0:Hid True:=trivial
  have tk1:Hid True:=trivial
  have tk2:Hid True:=trivial
  have tk3:Hid True:=trivial
  have tk4:Hid True:=trivial
  have tk5:Hid True:=trivial
  have tk6:Hid True:=trivial
  have tk7:Hid True:=trivial
  have tk8:Hid True:=trivial
  have tk9:Hid True:=trivial
  go_wp2_with (first
    | (clear tk0;with_reducible refine wpSeq_buildL0 ?_ ?_ ?_
       · rfl
       · rfl
       have HQ0:Hid True:=trivial)
    | (clear tk1;go_at_call 12;refine (HSV.out _ HK.out).mono ?_;rintro e w1 ⟨gv,cv,ub,uo,un,uc,rfl,h1,h2,h3,hb⟩
       have HPR:Hid (PrW gv cv ub uo un uc w1):=⟨h1,h2,h3⟩
       clear h1 h2 h3
       replace HK:Hid (KOk w1):=HK.out.below hb HK.out.lt
       replace HBW:Hid (Below w.heap.size w w1):=HBW.out.trans (hb.mono HBW.out.size)
       clear hb)
    | (clear tk2;with_reducible refine wpSeq_allocD ?_ ?_ ?_
       · rfl
       · rfl
       intro g1 w2 nn
       have HNN:Hid (Blk w2 g1 (cb zb32) 39 ∧ w1.heap.size ≤ g1 ∧ Below w1.heap.size w1 w2):=⟨nn.blk,nn.ge,nn.below⟩
       clear nn)
    | (clear tk3;with_reducible refine wpSeq_storeD (.tmp 1) (.tmp 13) g1 zb32 dg zb32_len HDL.out HNN.out.1 ?_ ?_ ?_ ?_ ?_
       · rfl
       · rfl
       · rfl
       · rfl
       intro w3 h9
       have hb:Below w1.heap.size w1 w3:=HNN.out.2.2.trans (h9.only.below HNN.out.2.1 HNN.out.2.2.size)
       have HG1:Hid (Blk w3 g1 (cb dg) 39):=h9.blk
       clear h9 HNN
       replace HPR:Hid (PrW gv cv ub uo un uc w3):=HPR.out.next hb
       replace HK:Hid (KOk w3):=HK.out.below hb HK.out.lt
       replace HBW:Hid (Below w.heap.size w w3):=HBW.out.trans (hb.mono HBW.out.size)
       clear hb)
    | (clear tk4;with_reducible refine wpSeq_loadD (.tmp 1) g1 dg HDL.out HG1.out ?_ ?_ ?_ ?_
       · rfl
       · rfl
       · rfl
       have HQ1:Hid True:=trivial)
    | (clear tk5;with_reducible refine wpSeq_buildD (.tmp 16) dg HDL.out ?_ ?_ ?_ ?_
       · rfl
       · rfl
       · rfl
       intro ga w4 nn
       have hb:=nn.below
       have HGA:Hid (Blk w4 ga (cb dg) 39):=nn.blk
       clear nn
       replace HPR:Hid (PrW gv cv ub uo un uc w4):=HPR.out.next hb
       replace HG1:Hid (Blk w4 g1 (cb dg) 39):=HG1.out.below hb HG1.out.lt
       replace HK:Hid (KOk w4):=HK.out.below hb HK.out.lt
       replace HBW:Hid (Below w.heap.size w w4):=HBW.out.trans (hb.mono HBW.out.size)
       clear hb)
    | (clear tk6;go_at_call 14;refine (HL0.out _ _ _ HK.out (readsD_1 HDL.out HGA.out) HPR.out.rl).mono ?_;rintro e w5 ⟨lb,lo,lc,rfl,h1,hb⟩
       have HLV:Hid (w5.rangeAt lb lo (cb dg)):=h1
       clear h1 HGA
       replace HPR:Hid (PrW gv cv ub uo un uc w5):=HPR.out.next hb
       replace HG1:Hid (Blk w5 g1 (cb dg) 39):=HG1.out.below hb HG1.out.lt
       replace HK:Hid (KOk w5):=HK.out.below hb HK.out.lt
       replace HBW:Hid (Below w.heap.size w w5):=HBW.out.trans (hb.mono HBW.out.size)
       clear hb)
    | (clear tk7;with_reducible refine wpSeq_buildZD ?_ ?_ ?_
       · rfl
       · rfl
       rw [← HZ.out])
    | (clear tk8;with_reducible refine wpSeq_buildD (.tmp 23) zz HZL.out ?_ ?_ ?_ ?_
       · rfl
       · rfl
       · rfl
       intro gz w6 nn
       have hb:=nn.below
       have HGZ:Hid (Blk w6 gz (cb zz) 39):=nn.blk
       clear nn
       replace HPR:Hid (PrW gv cv ub uo un uc w6):=HPR.out.next hb
       replace HG1:Hid (Blk w6 g1 (cb dg) 39):=HG1.out.below hb HG1.out.lt
       replace HLV:Hid (w6.rangeAt lb lo (cb dg)):=rangeAt_grow HLV.out hb
       replace HK:Hid (KOk w6):=HK.out.below hb HK.out.lt
       replace HBW:Hid (Below w.heap.size w w6):=HBW.out.trans (hb.mono HBW.out.size)
       clear hb)
    | (clear tk9;go_at_call 14;refine (HL1.out _ _ _ HK.out (readsD_1 HZL.out HGZ.out) HPR.out.rl).mono ?_;rintro e w7 ⟨rfl,hb⟩
       clear HGZ
       replace HPR:Hid (PrW gv cv ub uo un uc w7):=HPR.out.next hb
       replace HG1:Hid (Blk w7 g1 (cb dg) 39):=HG1.out.below hb HG1.out.lt
       replace HLV:Hid (w7.rangeAt lb lo (cb dg)):=rangeAt_grow HLV.out hb
       replace HK:Hid (KOk w7):=HK.out.below hb HK.out.lt
       replace HBW:Hid (Below w.heap.size w w7):=HBW.out.trans (hb.mono HBW.out.size)
       clear hb))
  go_cut [7,8,9] from 29 to 40 (fun a b c W => ∃ (a4:Option Addr) (c4:Nat) (a5:Option Addr) (c5:Nat),a = .slice a4 1 c4 ∧ b = .slice a5 1 c5 ∧ c = .int .i64 0 ∧ W.rangeAt lb lo (cb dg) ∧ Blk W g1 (cb dg) 39 ∧ Below w.heap.size w W)
  case first =>
    refine wp_region_held_drew (S:=Below w7.heap.size w7.drew) (by kernel_rfl) (Below.refl _ _) ?_
    intro hS
    clear hS
    have hbd:Below w7.heap.size w7 w7.drew:=(Below.refl _ _).drew
    have HKd:Hid (KOk w7.drew):=HK.out.below hbd HK.out.lt
    have HPRd:Hid (PrW gv cv ub uo un uc w7.drew):=HPR.out.next hbd
    have HG1d:Hid (Blk w7.drew g1 (cb dg) 39):=HG1.out.below hbd HG1.out.lt
    have HLVd:Hid (w7.drew.rangeAt lb lo (cb dg)):=rangeAt_grow HLV.out hbd
    have HBWd:Hid (Below w.heap.size w w7.drew):=HBW.out.trans (hbd.mono HBW.out.size)
    have HLE:Hid (w.heap.size ≤ w7.heap.size):=HBW.out.size
    clear HK HPR HG1 HLV HBW hbd
    obtain ⟨B,HBB⟩:∃ x,Hid (x = w7.heap.size):=⟨_,rfl⟩
    have HBD:Hid (w7.drew.heap.size = B):=by rw [HBB.out];rfl
    rw [← HBB.out] at HLE ⊢
    change wpAnyH _ _ _ _ _ _ _ _ (World.drew w7)
    generalize World.drew w7 = wd at *
    clear HBB
    have hS:Below B wd wd:=Below.refl _ _
    have HX:Hid (∀ W,Below B wd W → B ≤ W.heap.size ∧ PrW gv cv ub uo un uc W ∧ Blk W g1 (cb dg) 39 ∧ KOk W ∧ W.rangeAt lb lo (cb dg) ∧ Below w.heap.size w W):=fun W hW =>
      have hW2:Below wd.heap.size wd W:=hW.mono (Nat.le_of_eq HBD.out)
      ⟨by have:=hW.size;rw [HBD.out] at this;exact this,HPRd.out.next hW2,HG1d.out.below hW2 HG1d.out.lt,HKd.out.below hW2 HKd.out.lt,rangeAt_grow HLVd.out hW2,HBWd.out.trans (hW.mono HLE.out)⟩
    clear HKd HPRd HG1d HLVd HBWd
    refine wpAnyH_take (i:=0) (v:=.agg (cb dg).toArray) rfl (by kernel_rfl) (by kernel_rfl) (by kernel_rfl) (fun _ _ _ h => h) (Or.inl ⟨by rfl,fun wx hx => by exact loadDigest (.tmp 1) g1 dg HDL.out (HX.out wx hx).2.2.1 rfl rfl⟩) hS ?_
    simp only [Act.put,List.getElem_toArray,List.getElem_cons_zero,List.setIfInBounds_toArray,List.set_cons_zero,List.set_cons_succ]
    refine wpAnyH_take (i:=2) (v:=.slice (some ⟨gv,0,none⟩) 1 cv) rfl (by kernel_rfl) (by kernel_rfl) (by kernel_rfl) (fun _ _ _ h => h) (Or.inl ⟨by rfl,fun wx hx => by simp [go_sem]⟩) hS ?_
    simp only [Act.put,List.getElem_toArray,List.getElem_cons_succ,List.getElem_cons_zero,List.setIfInBounds_toArray,List.set_cons_zero,List.set_cons_succ]
    refine wpAnyH_take (i:=3) (v:=.pointer (some ⟨gv,0,none⟩)) rfl (by kernel_rfl) (by kernel_rfl) (by kernel_rfl) (fun _ _ _ h => h) (Or.inl ⟨by rfl,fun wx hx => by exact idxQ gv 0 1 cv 0 (by decide) _ _ (.tmp 32) (.const (.int .i64 0)) rfl rfl rfl wx⟩) hS ?_
    simp only [Act.put,List.getElem_toArray,List.getElem_cons_succ,List.getElem_cons_zero,List.setIfInBounds_toArray,List.set_cons_zero,List.set_cons_succ]
    refine wpAnyH_take (i:=4) (v:=.slice (some ⟨ub,uo,none⟩) un uc) rfl (by kernel_rfl) (by kernel_rfl) (by kernel_rfl) (fun _ _ _ h => h) (Or.inl ⟨by rfl,fun wx hx => by (have cx:=(HX.out wx hx).2.1.cl;simp [go_sem,cx])⟩) hS ?_
    simp only [Act.put,List.getElem_toArray,List.getElem_cons_succ,List.getElem_cons_zero,List.setIfInBounds_toArray,List.set_cons_zero,List.set_cons_succ]
    refine wpAnyH_pair 1 5 (by kernel_rfl) ?_ ?_
    · skip
      refine wpOp_newW 1 (cb dg) 39 1 rfl (by rfl) (buildD _ _ (.tmp 30) rfl dg HDL.out rfl _) ?_
      intro ga1 wx1 nn1
      have hS1:Below B wd wx1:=hS.trans (nn1.below.mono (HX.out _ hS).1)
      have F1_1:Hid (Blk wx1 ga1 (cb dg) 39):=nn1.blk
      clear nn1
      refine ⟨hS1,?_⟩
      simp only [Act.put,List.getElem_toArray,List.getElem_cons_succ,List.getElem_cons_zero,List.setIfInBounds_toArray,List.set_cons_zero,List.set_cons_succ]
      refine wpAnyH_one 5 (by kernel_rfl) ?_
      refine wpOp_newW 5 [Value.int .u8 7] 5 1 rfl (by rfl) (build_b7 _ _ rfl rfl _) ?_
      intro gb5 wx2 nn2
      have hS2:Below B wd wx2:=hS1.trans (nn2.below.mono (HX.out _ hS1).1)
      have F5_2:Hid (Blk wx2 gb5 [.int .u8 7] 5):=nn2.blk
      have F1_2:Hid (Blk wx2 ga1 (cb dg) 39):=F1_1.out.below nn2.below F1_1.out.lt
      clear nn2
      refine ⟨hS2,?_⟩
      simp only [Act.put,List.getElem_toArray,List.getElem_cons_succ,List.getElem_cons_zero,List.setIfInBounds_toArray,List.set_cons_zero,List.set_cons_succ]
      refine wpAnyH_one 6 (by kernel_rfl) ?_
      refine wpOp_newW 6 [Value.slice (some ⟨ub,uo,none⟩) un uc,.slice (some ⟨gb5,0,none⟩) 1 1] 48 2 rfl (by rfl) (build_t2 _ _ (.tmp 34) (.tmp 35) rfl _ _ _ _ _ _ rfl rfl _) ?_
      intro gc6 wx3 nn3
      have hS3:Below B wd wx3:=hS2.trans (nn3.below.mono (HX.out _ hS2).1)
      have F6_3:Hid (Blk wx3 gc6 [.slice (some ⟨ub,uo,none⟩) un uc,.slice (some ⟨gb5,0,none⟩) 1 1] 48):=nn3.blk
      have F1_3:Hid (Blk wx3 ga1 (cb dg) 39):=F1_2.out.below nn3.below F1_2.out.lt
      have F5_3:Hid (Blk wx3 gb5 [.int .u8 7] 5):=F5_2.out.below nn3.below F5_2.out.lt
      clear nn3
      refine ⟨hS3,?_⟩
      simp only [Act.put,List.getElem_toArray,List.getElem_cons_succ,List.getElem_cons_zero,List.setIfInBounds_toArray,List.set_cons_zero,List.set_cons_succ]
      refine wpAnyH_enter 7 (by kernel_rfl) rfl (by rfl) (f:=7) (args:=#[.slice (some ⟨ga1,0,none⟩) 1 1,.slice (some ⟨gc6,0,none⟩) 2 2]) (by simp [go_sem]) (HSP.out _ _ _ (HX.out _ hS3).2.2.2.1 (readsD_1 HDL.out F1_3.out) (readsL_2b F6_3.out (HX.out _ hS3).2.1.rd (reads_b1 F5_3.out))) ?_
      rintro e wy ⟨a4,c4,a5,c5,rfl,hby⟩
      have hSy:Below B wd wy:=hS3.trans (hby.mono (HX.out _ hS3).1)
      refine ⟨_,rfl,hSy,?_⟩
      simp only [Act.put,List.getElem_toArray,List.getElem_cons_succ,List.getElem_cons_zero,List.setIfInBounds_toArray,List.set_cons_zero,List.set_cons_succ]
      refine wpAnyH_take (i:=8) (v:=.tuple #[.slice a4 1 c4,.slice a5 1 c5,.int .i64 0]) rfl (by kernel_rfl) (by kernel_rfl) (by kernel_rfl) (fun _ _ _ h => h) (Or.inl ⟨by rfl,fun wx hx => by simp [go_sem]⟩) hSy ?_
      simp only [Act.put,List.getElem_toArray,List.getElem_cons_succ,List.getElem_cons_zero,List.setIfInBounds_toArray,List.set_cons_zero,List.set_cons_succ]
      refine wpAnyH_take (i:=9) (v:=.slice a4 1 c4) rfl (by kernel_rfl) (by kernel_rfl) (by kernel_rfl) (fun _ _ _ h => h) (Or.inl ⟨by rfl,fun wx hx => by simp [go_sem]⟩) hSy ?_
      simp only [Act.put,List.getElem_toArray,List.getElem_cons_succ,List.getElem_cons_zero,List.setIfInBounds_toArray,List.set_cons_zero,List.set_cons_succ]
      refine wpAnyH_take (i:=10) (v:=.slice a5 1 c5) rfl (by kernel_rfl) (by kernel_rfl) (by kernel_rfl) (fun _ _ _ h => h) (Or.inl ⟨by rfl,fun wx hx => by simp [go_sem]⟩) hSy ?_
      simp only [Act.put,List.getElem_toArray,List.getElem_cons_succ,List.getElem_cons_zero,List.setIfInBounds_toArray,List.set_cons_zero,List.set_cons_succ]
      refine wpAnyH_take (i:=11) (v:=.int .i64 0) rfl (by kernel_rfl) (by kernel_rfl) (by kernel_rfl) (fun _ _ _ h => h) (Or.inl ⟨by rfl,fun wx hx => by simp [go_sem]⟩) hSy ?_
      simp only [Act.put,List.getElem_toArray,List.getElem_cons_succ,List.getElem_cons_zero,List.setIfInBounds_toArray,List.set_cons_zero,List.set_cons_succ]
      refine wpAnyH_take (i:=12) (v:=.slice a4 1 c4) rfl (by kernel_rfl) (by kernel_rfl) (by kernel_rfl) (fun _ _ _ h => h) (Or.inl ⟨by rfl,fun wx hx => by simp [go_sem]⟩) hSy ?_
      simp only [Act.put,List.getElem_toArray,List.getElem_cons_succ,List.getElem_cons_zero,List.setIfInBounds_toArray,List.set_cons_zero,List.set_cons_succ]
      refine wpAnyH_take (i:=13) (v:=.slice a5 1 c5) rfl (by kernel_rfl) (by kernel_rfl) (by kernel_rfl) (fun _ _ _ h => h) (Or.inl ⟨by rfl,fun wx hx => by simp [go_sem]⟩) hSy ?_
      simp only [Act.put,List.getElem_toArray,List.getElem_cons_succ,List.getElem_cons_zero,List.setIfInBounds_toArray,List.set_cons_zero,List.set_cons_succ]
      refine wpAnyH_take (i:=14) (v:=.int .i64 0) rfl (by kernel_rfl) (by kernel_rfl) (by kernel_rfl) (fun _ _ _ h => h) (Or.inl ⟨by rfl,fun wx hx => by simp [go_sem]⟩) hSy ?_
      simp only [Act.put,List.getElem_toArray,List.getElem_cons_succ,List.getElem_cons_zero,List.setIfInBounds_toArray,List.set_cons_zero,List.set_cons_succ]
      refine wpAnyH_done (by kernel_rfl) ?_ _
      go_wp2
      go_meet
      case rel => exact ⟨a4,c4,a5,c5,rfl,rfl,rfl,(HX.out _ hSy).2.2.2.2.1,(HX.out _ hSy).2.2.1,(HX.out _ hSy).2.2.2.2.2⟩
    · skip
      refine wpOp_newW 5 [Value.int .u8 7] 5 1 rfl (by rfl) (build_b7 _ _ rfl rfl _) ?_
      intro gb5 wx4 nn4
      have hS4:Below B wd wx4:=hS.trans (nn4.below.mono (HX.out _ hS).1)
      have F5_4:Hid (Blk wx4 gb5 [.int .u8 7] 5):=nn4.blk
      clear nn4
      refine ⟨hS4,?_⟩
      simp only [Act.put,List.getElem_toArray,List.getElem_cons_succ,List.getElem_cons_zero,List.setIfInBounds_toArray,List.set_cons_zero,List.set_cons_succ]
      refine wpAnyH_pair 1 6 (by kernel_rfl) ?_ ?_
      · skip
        refine wpOp_newW 1 (cb dg) 39 1 rfl (by rfl) (buildD _ _ (.tmp 30) rfl dg HDL.out rfl _) ?_
        intro ga1 wx5 nn5
        have hS5:Below B wd wx5:=hS4.trans (nn5.below.mono (HX.out _ hS4).1)
        have F1_5:Hid (Blk wx5 ga1 (cb dg) 39):=nn5.blk
        have F5_5:Hid (Blk wx5 gb5 [.int .u8 7] 5):=F5_4.out.below nn5.below F5_4.out.lt
        clear nn5
        refine ⟨hS5,?_⟩
        simp only [Act.put,List.getElem_toArray,List.getElem_cons_succ,List.getElem_cons_zero,List.setIfInBounds_toArray,List.set_cons_zero,List.set_cons_succ]
        refine wpAnyH_one 6 (by kernel_rfl) ?_
        refine wpOp_newW 6 [Value.slice (some ⟨ub,uo,none⟩) un uc,.slice (some ⟨gb5,0,none⟩) 1 1] 48 2 rfl (by rfl) (build_t2 _ _ (.tmp 34) (.tmp 35) rfl _ _ _ _ _ _ rfl rfl _) ?_
        intro gc6 wx6 nn6
        have hS6:Below B wd wx6:=hS5.trans (nn6.below.mono (HX.out _ hS5).1)
        have F6_6:Hid (Blk wx6 gc6 [.slice (some ⟨ub,uo,none⟩) un uc,.slice (some ⟨gb5,0,none⟩) 1 1] 48):=nn6.blk
        have F5_6:Hid (Blk wx6 gb5 [.int .u8 7] 5):=F5_5.out.below nn6.below F5_5.out.lt
        have F1_6:Hid (Blk wx6 ga1 (cb dg) 39):=F1_5.out.below nn6.below F1_5.out.lt
        clear nn6
        refine ⟨hS6,?_⟩
        simp only [Act.put,List.getElem_toArray,List.getElem_cons_succ,List.getElem_cons_zero,List.setIfInBounds_toArray,List.set_cons_zero,List.set_cons_succ]
        refine wpAnyH_enter 7 (by kernel_rfl) rfl (by rfl) (f:=7) (args:=#[.slice (some ⟨ga1,0,none⟩) 1 1,.slice (some ⟨gc6,0,none⟩) 2 2]) (by simp [go_sem]) (HSP.out _ _ _ (HX.out _ hS6).2.2.2.1 (readsD_1 HDL.out F1_6.out) (readsL_2b F6_6.out (HX.out _ hS6).2.1.rd (reads_b1 F5_6.out))) ?_
        rintro e wy ⟨a4,c4,a5,c5,rfl,hby⟩
        have hSy:Below B wd wy:=hS6.trans (hby.mono (HX.out _ hS6).1)
        refine ⟨_,rfl,hSy,?_⟩
        simp only [Act.put,List.getElem_toArray,List.getElem_cons_succ,List.getElem_cons_zero,List.setIfInBounds_toArray,List.set_cons_zero,List.set_cons_succ]
        refine wpAnyH_take (i:=8) (v:=.tuple #[.slice a4 1 c4,.slice a5 1 c5,.int .i64 0]) rfl (by kernel_rfl) (by kernel_rfl) (by kernel_rfl) (fun _ _ _ h => h) (Or.inl ⟨by rfl,fun wx hx => by simp [go_sem]⟩) hSy ?_
        simp only [Act.put,List.getElem_toArray,List.getElem_cons_succ,List.getElem_cons_zero,List.setIfInBounds_toArray,List.set_cons_zero,List.set_cons_succ]
        refine wpAnyH_take (i:=9) (v:=.slice a4 1 c4) rfl (by kernel_rfl) (by kernel_rfl) (by kernel_rfl) (fun _ _ _ h => h) (Or.inl ⟨by rfl,fun wx hx => by simp [go_sem]⟩) hSy ?_
        simp only [Act.put,List.getElem_toArray,List.getElem_cons_succ,List.getElem_cons_zero,List.setIfInBounds_toArray,List.set_cons_zero,List.set_cons_succ]
        refine wpAnyH_take (i:=10) (v:=.slice a5 1 c5) rfl (by kernel_rfl) (by kernel_rfl) (by kernel_rfl) (fun _ _ _ h => h) (Or.inl ⟨by rfl,fun wx hx => by simp [go_sem]⟩) hSy ?_
        simp only [Act.put,List.getElem_toArray,List.getElem_cons_succ,List.getElem_cons_zero,List.setIfInBounds_toArray,List.set_cons_zero,List.set_cons_succ]
        refine wpAnyH_take (i:=11) (v:=.int .i64 0) rfl (by kernel_rfl) (by kernel_rfl) (by kernel_rfl) (fun _ _ _ h => h) (Or.inl ⟨by rfl,fun wx hx => by simp [go_sem]⟩) hSy ?_
        simp only [Act.put,List.getElem_toArray,List.getElem_cons_succ,List.getElem_cons_zero,List.setIfInBounds_toArray,List.set_cons_zero,List.set_cons_succ]
        refine wpAnyH_take (i:=12) (v:=.slice a4 1 c4) rfl (by kernel_rfl) (by kernel_rfl) (by kernel_rfl) (fun _ _ _ h => h) (Or.inl ⟨by rfl,fun wx hx => by simp [go_sem]⟩) hSy ?_
        simp only [Act.put,List.getElem_toArray,List.getElem_cons_succ,List.getElem_cons_zero,List.setIfInBounds_toArray,List.set_cons_zero,List.set_cons_succ]
        refine wpAnyH_take (i:=13) (v:=.slice a5 1 c5) rfl (by kernel_rfl) (by kernel_rfl) (by kernel_rfl) (fun _ _ _ h => h) (Or.inl ⟨by rfl,fun wx hx => by simp [go_sem]⟩) hSy ?_
        simp only [Act.put,List.getElem_toArray,List.getElem_cons_succ,List.getElem_cons_zero,List.setIfInBounds_toArray,List.set_cons_zero,List.set_cons_succ]
        refine wpAnyH_take (i:=14) (v:=.int .i64 0) rfl (by kernel_rfl) (by kernel_rfl) (by kernel_rfl) (fun _ _ _ h => h) (Or.inl ⟨by rfl,fun wx hx => by simp [go_sem]⟩) hSy ?_
        simp only [Act.put,List.getElem_toArray,List.getElem_cons_succ,List.getElem_cons_zero,List.setIfInBounds_toArray,List.set_cons_zero,List.set_cons_succ]
        refine wpAnyH_done (by kernel_rfl) ?_ _
        go_wp2
        go_meet
        case rel => exact ⟨a4,c4,a5,c5,rfl,rfl,rfl,(HX.out _ hSy).2.2.2.2.1,(HX.out _ hSy).2.2.1,(HX.out _ hSy).2.2.2.2.2⟩
      · skip
        refine wpOp_newW 6 [Value.slice (some ⟨ub,uo,none⟩) un uc,.slice (some ⟨gb5,0,none⟩) 1 1] 48 2 rfl (by rfl) (build_t2 _ _ (.tmp 34) (.tmp 35) rfl _ _ _ _ _ _ rfl rfl _) ?_
        intro gc6 wx7 nn7
        have hS7:Below B wd wx7:=hS4.trans (nn7.below.mono (HX.out _ hS4).1)
        have F6_7:Hid (Blk wx7 gc6 [.slice (some ⟨ub,uo,none⟩) un uc,.slice (some ⟨gb5,0,none⟩) 1 1] 48):=nn7.blk
        have F5_7:Hid (Blk wx7 gb5 [.int .u8 7] 5):=F5_4.out.below nn7.below F5_4.out.lt
        clear nn7
        refine ⟨hS7,?_⟩
        simp only [Act.put,List.getElem_toArray,List.getElem_cons_succ,List.getElem_cons_zero,List.setIfInBounds_toArray,List.set_cons_zero,List.set_cons_succ]
        refine wpAnyH_one 1 (by kernel_rfl) ?_
        refine wpOp_newW 1 (cb dg) 39 1 rfl (by rfl) (buildD _ _ (.tmp 30) rfl dg HDL.out rfl _) ?_
        intro ga1 wx8 nn8
        have hS8:Below B wd wx8:=hS7.trans (nn8.below.mono (HX.out _ hS7).1)
        have F1_8:Hid (Blk wx8 ga1 (cb dg) 39):=nn8.blk
        have F5_8:Hid (Blk wx8 gb5 [.int .u8 7] 5):=F5_7.out.below nn8.below F5_7.out.lt
        have F6_8:Hid (Blk wx8 gc6 [.slice (some ⟨ub,uo,none⟩) un uc,.slice (some ⟨gb5,0,none⟩) 1 1] 48):=F6_7.out.below nn8.below F6_7.out.lt
        clear nn8
        refine ⟨hS8,?_⟩
        simp only [Act.put,List.getElem_toArray,List.getElem_cons_succ,List.getElem_cons_zero,List.setIfInBounds_toArray,List.set_cons_zero,List.set_cons_succ]
        refine wpAnyH_enter 7 (by kernel_rfl) rfl (by rfl) (f:=7) (args:=#[.slice (some ⟨ga1,0,none⟩) 1 1,.slice (some ⟨gc6,0,none⟩) 2 2]) (by simp [go_sem]) (HSP.out _ _ _ (HX.out _ hS8).2.2.2.1 (readsD_1 HDL.out F1_8.out) (readsL_2b F6_8.out (HX.out _ hS8).2.1.rd (reads_b1 F5_8.out))) ?_
        rintro e wy ⟨a4,c4,a5,c5,rfl,hby⟩
        have hSy:Below B wd wy:=hS8.trans (hby.mono (HX.out _ hS8).1)
        refine ⟨_,rfl,hSy,?_⟩
        simp only [Act.put,List.getElem_toArray,List.getElem_cons_succ,List.getElem_cons_zero,List.setIfInBounds_toArray,List.set_cons_zero,List.set_cons_succ]
        refine wpAnyH_take (i:=8) (v:=.tuple #[.slice a4 1 c4,.slice a5 1 c5,.int .i64 0]) rfl (by kernel_rfl) (by kernel_rfl) (by kernel_rfl) (fun _ _ _ h => h) (Or.inl ⟨by rfl,fun wx hx => by simp [go_sem]⟩) hSy ?_
        simp only [Act.put,List.getElem_toArray,List.getElem_cons_succ,List.getElem_cons_zero,List.setIfInBounds_toArray,List.set_cons_zero,List.set_cons_succ]
        refine wpAnyH_take (i:=9) (v:=.slice a4 1 c4) rfl (by kernel_rfl) (by kernel_rfl) (by kernel_rfl) (fun _ _ _ h => h) (Or.inl ⟨by rfl,fun wx hx => by simp [go_sem]⟩) hSy ?_
        simp only [Act.put,List.getElem_toArray,List.getElem_cons_succ,List.getElem_cons_zero,List.setIfInBounds_toArray,List.set_cons_zero,List.set_cons_succ]
        refine wpAnyH_take (i:=10) (v:=.slice a5 1 c5) rfl (by kernel_rfl) (by kernel_rfl) (by kernel_rfl) (fun _ _ _ h => h) (Or.inl ⟨by rfl,fun wx hx => by simp [go_sem]⟩) hSy ?_
        simp only [Act.put,List.getElem_toArray,List.getElem_cons_succ,List.getElem_cons_zero,List.setIfInBounds_toArray,List.set_cons_zero,List.set_cons_succ]
        refine wpAnyH_take (i:=11) (v:=.int .i64 0) rfl (by kernel_rfl) (by kernel_rfl) (by kernel_rfl) (fun _ _ _ h => h) (Or.inl ⟨by rfl,fun wx hx => by simp [go_sem]⟩) hSy ?_
        simp only [Act.put,List.getElem_toArray,List.getElem_cons_succ,List.getElem_cons_zero,List.setIfInBounds_toArray,List.set_cons_zero,List.set_cons_succ]
        refine wpAnyH_take (i:=12) (v:=.slice a4 1 c4) rfl (by kernel_rfl) (by kernel_rfl) (by kernel_rfl) (fun _ _ _ h => h) (Or.inl ⟨by rfl,fun wx hx => by simp [go_sem]⟩) hSy ?_
        simp only [Act.put,List.getElem_toArray,List.getElem_cons_succ,List.getElem_cons_zero,List.setIfInBounds_toArray,List.set_cons_zero,List.set_cons_succ]
        refine wpAnyH_take (i:=13) (v:=.slice a5 1 c5) rfl (by kernel_rfl) (by kernel_rfl) (by kernel_rfl) (fun _ _ _ h => h) (Or.inl ⟨by rfl,fun wx hx => by simp [go_sem]⟩) hSy ?_
        simp only [Act.put,List.getElem_toArray,List.getElem_cons_succ,List.getElem_cons_zero,List.setIfInBounds_toArray,List.set_cons_zero,List.set_cons_succ]
        refine wpAnyH_take (i:=14) (v:=.int .i64 0) rfl (by kernel_rfl) (by kernel_rfl) (by kernel_rfl) (fun _ _ _ h => h) (Or.inl ⟨by rfl,fun wx hx => by simp [go_sem]⟩) hSy ?_
        simp only [Act.put,List.getElem_toArray,List.getElem_cons_succ,List.getElem_cons_zero,List.setIfInBounds_toArray,List.set_cons_zero,List.set_cons_succ]
        refine wpAnyH_done (by kernel_rfl) ?_ _
        go_wp2
        go_meet
        case rel => exact ⟨a4,c4,a5,c5,rfl,rfl,rfl,(HX.out _ hSy).2.2.2.2.1,(HX.out _ hSy).2.2.1,(HX.out _ hSy).2.2.2.2.2⟩
  case rest =>
    clear HK HPR HG1 HLV HBW HSV HL0 HL1 HSP
    obtain ⟨a4,c4,a5,c5,rfl,rfl,rfl,hr,hb1,hbw⟩:=hcut
    have HBZ:Hid (Below w.heap.size w wc):=hbw
    clear hbw
    go_wp2_with fail
    refine wp_region_held_drew (S:=fun wx => wx.rangeAt lb lo (cb dg) ∧ Blk wx g1 (cb dg) 39) (by kernel_rfl) ⟨hr,hb1.drew⟩ ?_
    intro hS
    change wpAnyH _ _ _ _ _ _ _ _ (World.drew wc)
    refine wpAnyH_take (i:=0) (v:=.int .i64 0) rfl (by kernel_rfl) (by kernel_rfl) (by kernel_rfl) (fun _ _ _ h => h) (Or.inl ⟨by rfl,fun wx hx => by simp [go_sem]⟩) hS ?_
    simp only [Act.put,List.getElem_toArray,List.getElem_cons_zero,List.setIfInBounds_toArray,List.set_cons_zero,List.set_cons_succ]
    refine wpAnyH_take (i:=1) (v:=.bool true) rfl (by kernel_rfl) (by kernel_rfl) (by kernel_rfl) (fun _ _ _ h => h) (Or.inl ⟨by rfl,fun wx hx => by simp [go_sem]⟩) hS ?_
    simp only [Act.put,List.getElem_toArray,List.getElem_cons_succ,List.getElem_cons_zero,List.setIfInBounds_toArray,List.set_cons_zero,List.set_cons_succ]
    refine wpAnyH_take (i:=2) (v:=.bool true) rfl (by kernel_rfl) (by kernel_rfl) (by kernel_rfl) (fun _ _ _ h => h) (Or.inl ⟨by rfl,fun wx hx => by simp [go_sem]⟩) hS ?_
    simp only [Act.put,List.getElem_toArray,List.getElem_cons_succ,List.getElem_cons_zero,List.setIfInBounds_toArray,List.set_cons_zero,List.set_cons_succ]
    refine wpAnyH_take (i:=3) (v:=.slice (some ⟨lb,lo,none⟩) 1 lc) rfl (by kernel_rfl) (by kernel_rfl) (by kernel_rfl) (fun _ _ _ h => h) (Or.inl ⟨by rfl,fun wx hx => by simp [go_sem]⟩) hS ?_
    simp only [Act.put,List.getElem_toArray,List.getElem_cons_succ,List.getElem_cons_zero,List.setIfInBounds_toArray,List.set_cons_zero,List.set_cons_succ]
    refine wpAnyH_take (i:=4) (v:=.int .i64 1) rfl (by kernel_rfl) (by kernel_rfl) (by kernel_rfl) (fun _ _ _ h => h) (Or.inl ⟨by rfl,fun wx hx => by simp [go_sem]⟩) hS ?_
    simp only [Act.put,List.getElem_toArray,List.getElem_cons_succ,List.getElem_cons_zero,List.setIfInBounds_toArray,List.set_cons_zero,List.set_cons_succ]
    refine wpAnyH_take (i:=5) (v:=.bool true) rfl (by kernel_rfl) (by kernel_rfl) (by kernel_rfl) (fun _ _ _ h => h) (Or.inl ⟨by rfl,fun wx hx => by simp [go_sem]⟩) hS ?_
    simp only [Act.put,List.getElem_toArray,List.getElem_cons_succ,List.getElem_cons_zero,List.setIfInBounds_toArray,List.set_cons_zero,List.set_cons_succ]
    refine wpAnyH_take (i:=6) (v:=.bool true) rfl (by kernel_rfl) (by kernel_rfl) (by kernel_rfl) (fun _ _ _ h => h) (Or.inl ⟨by rfl,fun wx hx => by simp [go_sem]⟩) hS ?_
    simp only [Act.put,List.getElem_toArray,List.getElem_cons_succ,List.getElem_cons_zero,List.setIfInBounds_toArray,List.set_cons_zero,List.set_cons_succ]
    refine wpAnyH_take (i:=7) (v:=.bool true) rfl (by kernel_rfl) (by kernel_rfl) (by kernel_rfl) (fun _ _ _ h => h) (Or.inl ⟨by rfl,fun wx hx => by simp [go_sem]⟩) hS ?_
    simp only [Act.put,List.getElem_toArray,List.getElem_cons_succ,List.getElem_cons_zero,List.setIfInBounds_toArray,List.set_cons_zero,List.set_cons_succ]
    refine wpAnyH_take (i:=8) (v:=.slice (some ⟨lb,lo,none⟩) 1 lc) rfl (by kernel_rfl) (by kernel_rfl) (by kernel_rfl) (fun _ _ _ h => h) (Or.inl ⟨by rfl,fun wx hx => by simp [go_sem]⟩) hS ?_
    simp only [Act.put,List.getElem_toArray,List.getElem_cons_succ,List.getElem_cons_zero,List.setIfInBounds_toArray,List.set_cons_zero,List.set_cons_succ]
    refine wpAnyH_take (i:=9) (v:=.pointer (some ⟨lb,lo,none⟩)) rfl (by kernel_rfl) (by kernel_rfl) (by kernel_rfl) (fun _ _ _ h => h) (Or.inl ⟨by rfl,fun wx hx => by exact idxD17 lb lo lc 1 0 (by decide) _ _ (.tmp 49) (.const (.int .i64 0)) rfl rfl rfl wx⟩) hS ?_
    simp only [Act.put,List.getElem_toArray,List.getElem_cons_succ,List.getElem_cons_zero,List.setIfInBounds_toArray,List.set_cons_zero,List.set_cons_succ]
    refine wpAnyH_take (i:=10) (v:=.agg (cb dg).toArray) rfl (by kernel_rfl) (by kernel_rfl) (by kernel_rfl) (fun _ _ _ h => h) (Or.inl ⟨by rfl,fun wx hx => by exact load_run 39 (.tmp 50) rfl lb lo rfl (cb dg) _ hx.1 Tryz.underlying39 rfl (by rw [cb_len,HDL.out];exact info_digest)⟩) hS ?_
    simp only [Act.put,List.getElem_toArray,List.getElem_cons_succ,List.getElem_cons_zero,List.setIfInBounds_toArray,List.set_cons_zero,List.set_cons_succ]
    refine wpAnyH_take (i:=11) (v:=.agg (cb dg).toArray) rfl (by kernel_rfl) (by kernel_rfl) (by kernel_rfl) (fun _ _ _ h => h) (Or.inl ⟨by rfl,fun wx hx => by exact loadDigest (.tmp 1) g1 dg HDL.out hx.2 rfl rfl⟩) hS ?_
    simp only [Act.put,List.getElem_toArray,List.getElem_cons_succ,List.getElem_cons_zero,List.setIfInBounds_toArray,List.set_cons_zero,List.set_cons_succ]
    refine wpAnyH_take (i:=12) (v:=.bool true) rfl (by kernel_rfl) (by kernel_rfl) (by kernel_rfl) (fun _ _ _ h => h) (Or.inl ⟨by rfl,fun wx hx => by simp [go_sem,hq]⟩) hS ?_
    simp only [Act.put,List.getElem_toArray,List.getElem_cons_succ,List.getElem_cons_zero,List.setIfInBounds_toArray,List.set_cons_zero,List.set_cons_succ]
    refine wpAnyH_take (i:=13) (v:=.bool true) rfl (by kernel_rfl) (by kernel_rfl) (by kernel_rfl) (fun _ _ _ h => h) (Or.inl ⟨by rfl,fun wx hx => by simp [go_sem]⟩) hS ?_
    simp only [Act.put,List.getElem_toArray,List.getElem_cons_succ,List.getElem_cons_zero,List.setIfInBounds_toArray,List.set_cons_zero,List.set_cons_succ]
    refine wpAnyH_take (i:=14) (v:=.bool true) rfl (by kernel_rfl) (by kernel_rfl) (by kernel_rfl) (fun _ _ _ h => h) (Or.inl ⟨by rfl,fun wx hx => by simp [go_sem]⟩) hS ?_
    simp only [Act.put,List.getElem_toArray,List.getElem_cons_succ,List.getElem_cons_zero,List.setIfInBounds_toArray,List.set_cons_zero,List.set_cons_succ]
    refine wpAnyH_take (i:=15) (v:=.int .i64 7) rfl (by kernel_rfl) (by kernel_rfl) (by kernel_rfl) (fun _ _ _ h => h) (Or.inl ⟨by rfl,fun wx hx => by simp [go_sem]⟩) hS ?_
    simp only [Act.put,List.getElem_toArray,List.getElem_cons_succ,List.getElem_cons_zero,List.setIfInBounds_toArray,List.set_cons_zero,List.set_cons_succ]
    refine wpAnyH_take (i:=16) (v:=.bool true) rfl (by kernel_rfl) (by kernel_rfl) (by kernel_rfl) (fun _ _ _ h => h) (Or.inl ⟨by rfl,fun wx hx => by simp [go_sem]⟩) hS ?_
    simp only [Act.put,List.getElem_toArray,List.getElem_cons_succ,List.getElem_cons_zero,List.setIfInBounds_toArray,List.set_cons_zero,List.set_cons_succ]
    refine wpAnyH_take (i:=17) (v:=.bool true) rfl (by kernel_rfl) (by kernel_rfl) (by kernel_rfl) (fun _ _ _ h => h) (Or.inl ⟨by rfl,fun wx hx => by simp [go_sem]⟩) hS ?_
    simp only [Act.put,List.getElem_toArray,List.getElem_cons_succ,List.getElem_cons_zero,List.setIfInBounds_toArray,List.set_cons_zero,List.set_cons_succ]
    refine wpAnyH_take (i:=18) (v:=.bool true) rfl (by kernel_rfl) (by kernel_rfl) (by kernel_rfl) (fun _ _ _ h => h) (Or.inl ⟨by rfl,fun wx hx => by simp [go_sem]⟩) hS ?_
    simp only [Act.put,List.getElem_toArray,List.getElem_cons_succ,List.getElem_cons_zero,List.setIfInBounds_toArray,List.set_cons_zero,List.set_cons_succ]
    refine wpAnyH_take (i:=19) (v:=.int .i64 0) rfl (by kernel_rfl) (by kernel_rfl) (by kernel_rfl) (fun _ _ _ h => h) (Or.inl ⟨by rfl,fun wx hx => by simp [go_sem]⟩) hS ?_
    simp only [Act.put,List.getElem_toArray,List.getElem_cons_succ,List.getElem_cons_zero,List.setIfInBounds_toArray,List.set_cons_zero,List.set_cons_succ]
    refine wpAnyH_take (i:=20) (v:=.bool true) rfl (by kernel_rfl) (by kernel_rfl) (by kernel_rfl) (fun _ _ _ h => h) (Or.inl ⟨by rfl,fun wx hx => by simp [go_sem]⟩) hS ?_
    simp only [Act.put,List.getElem_toArray,List.getElem_cons_succ,List.getElem_cons_zero,List.setIfInBounds_toArray,List.set_cons_zero,List.set_cons_succ]
    refine wpAnyH_take (i:=21) (v:=.bool true) rfl (by kernel_rfl) (by kernel_rfl) (by kernel_rfl) (fun _ _ _ h => h) (Or.inl ⟨by rfl,fun wx hx => by simp [go_sem]⟩) hS ?_
    simp only [Act.put,List.getElem_toArray,List.getElem_cons_succ,List.getElem_cons_zero,List.setIfInBounds_toArray,List.set_cons_zero,List.set_cons_succ]
    refine wpAnyH_take (i:=22) (v:=.bool true) rfl (by kernel_rfl) (by kernel_rfl) (by kernel_rfl) (fun _ _ _ h => h) (Or.inl ⟨by rfl,fun wx hx => by simp [go_sem]⟩) hS ?_
    simp only [Act.put,List.getElem_toArray,List.getElem_cons_succ,List.getElem_cons_zero,List.setIfInBounds_toArray,List.set_cons_zero,List.set_cons_succ]
    refine wpAnyH_take (i:=23) (v:=.slice a4 1 c4) rfl (by kernel_rfl) (by kernel_rfl) (by kernel_rfl) (fun _ _ _ h => h) (Or.inl ⟨by rfl,fun wx hx => by simp [go_sem]⟩) hS ?_
    simp only [Act.put,List.getElem_toArray,List.getElem_cons_succ,List.getElem_cons_zero,List.setIfInBounds_toArray,List.set_cons_zero,List.set_cons_succ]
    refine wpAnyH_take (i:=24) (v:=.int .i64 1) rfl (by kernel_rfl) (by kernel_rfl) (by kernel_rfl) (fun _ _ _ h => h) (Or.inl ⟨by rfl,fun wx hx => by simp [go_sem]⟩) hS ?_
    simp only [Act.put,List.getElem_toArray,List.getElem_cons_succ,List.getElem_cons_zero,List.setIfInBounds_toArray,List.set_cons_zero,List.set_cons_succ]
    refine wpAnyH_take (i:=25) (v:=.bool true) rfl (by kernel_rfl) (by kernel_rfl) (by kernel_rfl) (fun _ _ _ h => h) (Or.inl ⟨by rfl,fun wx hx => by simp [go_sem]⟩) hS ?_
    simp only [Act.put,List.getElem_toArray,List.getElem_cons_succ,List.getElem_cons_zero,List.setIfInBounds_toArray,List.set_cons_zero,List.set_cons_succ]
    refine wpAnyH_take (i:=26) (v:=.bool true) rfl (by kernel_rfl) (by kernel_rfl) (by kernel_rfl) (fun _ _ _ h => h) (Or.inl ⟨by rfl,fun wx hx => by simp [go_sem]⟩) hS ?_
    simp only [Act.put,List.getElem_toArray,List.getElem_cons_succ,List.getElem_cons_zero,List.setIfInBounds_toArray,List.set_cons_zero,List.set_cons_succ]
    refine wpAnyH_take (i:=27) (v:=.bool true) rfl (by kernel_rfl) (by kernel_rfl) (by kernel_rfl) (fun _ _ _ h => h) (Or.inl ⟨by rfl,fun wx hx => by simp [go_sem]⟩) hS ?_
    simp only [Act.put,List.getElem_toArray,List.getElem_cons_succ,List.getElem_cons_zero,List.setIfInBounds_toArray,List.set_cons_zero,List.set_cons_succ]
    refine wpAnyH_take (i:=28) (v:=.slice a5 1 c5) rfl (by kernel_rfl) (by kernel_rfl) (by kernel_rfl) (fun _ _ _ h => h) (Or.inl ⟨by rfl,fun wx hx => by simp [go_sem]⟩) hS ?_
    simp only [Act.put,List.getElem_toArray,List.getElem_cons_succ,List.getElem_cons_zero,List.setIfInBounds_toArray,List.set_cons_zero,List.set_cons_succ]
    refine wpAnyH_take (i:=29) (v:=.int .i64 1) rfl (by kernel_rfl) (by kernel_rfl) (by kernel_rfl) (fun _ _ _ h => h) (Or.inl ⟨by rfl,fun wx hx => by simp [go_sem]⟩) hS ?_
    simp only [Act.put,List.getElem_toArray,List.getElem_cons_succ,List.getElem_cons_zero,List.setIfInBounds_toArray,List.set_cons_zero,List.set_cons_succ]
    refine wpAnyH_take (i:=30) (v:=.bool true) rfl (by kernel_rfl) (by kernel_rfl) (by kernel_rfl) (fun _ _ _ h => h) (Or.inl ⟨by rfl,fun wx hx => by simp [go_sem]⟩) hS ?_
    simp only [Act.put,List.getElem_toArray,List.getElem_cons_succ,List.getElem_cons_zero,List.setIfInBounds_toArray,List.set_cons_zero,List.set_cons_succ]
    refine wpAnyH_take (i:=31) (v:=.bool true) rfl (by kernel_rfl) (by kernel_rfl) (by kernel_rfl) (fun _ _ _ h => h) (Or.inl ⟨by rfl,fun wx hx => by simp [go_sem]⟩) hS ?_
    simp only [Act.put,List.getElem_toArray,List.getElem_cons_succ,List.getElem_cons_zero,List.setIfInBounds_toArray,List.set_cons_zero,List.set_cons_succ]
    refine wpAnyH_take (i:=32) (v:=.bool true) rfl (by kernel_rfl) (by kernel_rfl) (by kernel_rfl) (fun _ _ _ h => h) (Or.inl ⟨by rfl,fun wx hx => by simp [go_sem]⟩) hS ?_
    simp only [Act.put,List.getElem_toArray,List.getElem_cons_succ,List.getElem_cons_zero,List.setIfInBounds_toArray,List.set_cons_zero]
    refine wpAnyH_done (by kernel_rfl) ?_ _
    go_wp2
    refine ⟨rfl,_,results_tmp rfl _ _ _,?_⟩
    exact ⟨rfl,HBZ.out.drew⟩
end Go.Proofs.YtphmmnffgknkcaaGreatDoor
namespace Go.Proofs.YtphmmnffgknkcaaGreatDoor
open Go.RowKit
set_option maxRecDepth 100000
theorem idxT18 (b off c n k:Nat) (hk:k < n) (f:Operand → Value) (o:Oper) (x y:Operand) (ho:o.op = .indexAddr 27 x y) (hx:f x = .slice (some ⟨b,off,none⟩) n c) (hy:f y = .int .i64 (k:Int)) (w:World) :
    (execOp f o).run Tryz.prog w = .ok (.value (.pointer (some ⟨b,off + k * 2,none⟩))) w:=by
  have k0:(0:Int) ≤ (k:Int):=by omega
  have k1:(k:Int) < (n:Int):=by omega
  have hs:(Go.sizeOf 43).run Tryz.prog w = .ok 2 w:=by kernel_rfl
  unfold execOp
  rw [ho]
  simp [go_sem,hx,hy,k0,k1,Addr.add_mid,hs]
theorem TrsR.below {w w':World} {v:Value} {ks:List (List Lf)} (h:TrsR w v ks) (hb:Below w.heap.size w w'):TrsR w' v ks:=by
  obtain ⟨ad,cap,h1,h2⟩:=h
  refine ⟨ad,cap,h1,fun hp => ?_⟩
  obtain ⟨g,h3,h4⟩:=h2 hp
  refine ⟨g,h3,fun j hj => ?_⟩
  obtain ⟨a1,n1,c1,a2,n2,c2,h5,h6⟩:=h4 j hj
  exact ⟨a1,n1,c1,a2,n2,c2,fun i v hi => by rw [hb.cell (p:=⟨g,j * 2 + i,none⟩) (block_lt_of_cell (h5 i v hi))];exact h5 i v hi,h6.below hb⟩
end Go.Proofs.YtphmmnffgknkcaaGreatDoor
namespace Go.Proofs.YtphmmnffgknkcaaGreatDoor
open Go.RowKit
set_option maxRecDepth 100000
end Go.Proofs.YtphmmnffgknkcaaGreatDoor
namespace Go.Proofs.YtphmmnffgknkcaaGreatDoor
open Go.RowKit
set_option maxRecDepth 100000
theorem info_trees18k {a b c:Value}:(Tryz.prog.info? 25).map (·.size) = some [a,b,c].length:=by kernel_rfl
theorem info_lvs2 {a b:Value}:(Tryz.prog.info? 43).map (·.size) = some [a,b].length:=by kernel_rfl
theorem filter_two {α:Type} (l:List α) (p:α → Bool):(l.filter p).length + (l.filter fun x => !p x).length = l.length:=by
  induction l with
  | nil => rfl
  | cons x l ih => cases h:p x <;> simp [h] <;> omega
set_option maxRecDepth 100000 in
set_option maxHeartbeats 16000000 in
theorem reapKeeps_law (va vv vk:Value) (ds es:List By) (bs:List Bool) (w:World) (hK:KOk w) (hA:ReadsD w va ds) (hV:ReadsD w vv es) (hB:ReadsBo w vk bs) :
    Calls Tryz.prog 3 #[.agg #[va,vv,vk]] w fun e w' => e = .returned (.bool true) ∧ Below w.heap.size w w':=by
  obtain ⟨z,HZ⟩:∃ z,Hid (z = ds.zip es):=⟨_,rfl⟩
  obtain ⟨n,HNN⟩:∃ n,Hid (n = min (min ds.length es.length) 20):=⟨_,rfl⟩
  have HZO:okLf z:=by rw [HZ.out];exact zip_okR hA hV
  have hn20:n ≤ 20:=by rw [HNN.out];omega
  obtain ⟨ks,HKS⟩:∃ x,Hid (x = kps z bs n):=⟨_,rfl⟩
  obtain ⟨ps,HPS⟩:∃ x,Hid (x = pgs z n):=⟨_,rfl⟩
  have HG:Hid (∀ l ∈ ks,GoodT ps l):=by rw [HKS.out,HPS.out];exact kps_good HZO hn20
  have HKL:Hid (ks.length ≤ 20):=by rw [HKS.out];exact Nat.le_trans (kps_len n) hn20
  have HLL:Hid (∀ l ∈ ks,l.length ≤ 20):=by
    rw [HKS.out]
    intro l hl
    obtain ⟨j,h1,h2,rfl⟩:=kps_of n l hl
    have:=(allL_ok HZO j).2.2
    omega
  have HPL:Hid (ps.length < 100000 ∧ ∀ p ∈ ps,1 ≤ p.length ∧ p.length ≤ 512):=by
    rw [HPS.out]
    have h:=pgs_spec HZO n
    refine ⟨Nat.lt_of_le_of_lt h.2.2.2 ?_,fun p hp => (h.2.2.1 p hp)⟩
    have:n * (n + 1) ≤ 20 * 21:=Nat.mul_le_mul hn20 (by omega)
    omega
  have HND:Hid ps.Nodup:=by rw [HPS.out];exact (pgs_spec HZO n).1
  have HALL:Hid (∀ W,Below w.heap.size w W → Calls Tryz.prog 4 #[.agg #[va,vv,vk]] W fun e w' => ∃ v2 v3 v4,e = .returned (.tuple #[v2,v3,v4]) ∧ ReadsD w' v2 (ks.map fun l => dig (topPg 0 l)) ∧ ReadsL w' v3 ps ∧ TrsR w' v4 ks ∧ Below W.heap.size W w'):=fun W hW => by
    rw [HKS.out,HPS.out,HZ.out,HNN.out]
    exact all18_any va vv vk ds es bs W (hK.below hW hK.lt) (hA.below hW) (hV.below hW) (hB.below hW)
  obtain ⟨ada,cpa,hva⟩:=hA.slice
  obtain ⟨adv,cpv,hvv⟩:=hV.slice
  obtain ⟨adk,cpk,hvk,_⟩:=hB
  generalize ds.length = nA at hva
  generalize es.length = nV at hvv
  generalize bs.length = nK at hvk
  subst hva hvv hvk
  have HK:Hid (KOk w):=hK
  have HBW:Hid (Below w.heap.size w w):=Below.refl _ _
  clear hK hA hV HZO hn20
  go_enter Tryz.func3,Tryz.ntmps3
  have ta0:Hid True:=trivial
  have ta1:Hid True:=trivial
  have ta2:Hid True:=trivial
  have ta3:Hid True:=trivial
  have ta4:Hid True:=trivial
  have ta5:Hid True:=trivial
  go_wp2_with (first
    | (clear ta0;with_reducible refine wpSeq_boxW 25 (.tmp 0) [Value.slice ada nA cpa,.slice adv nV cpv,.slice adk nK cpk] ?_ ?_ ?_ ?_
       · rfl
       · rfl
       · rfl
       intro g1 w1 nn
       have hb:=nn.below
       have H1:Hid (Blk w1 g1 [Value.slice ada nA cpa,.slice adv nV cpv,.slice adk nK cpk] 25):=nn.blk
       replace HBW:Hid (Below w.heap.size w w1):=HBW.out.trans (hb.mono HBW.out.size)
       clear nn hb)
    | (clear ta1;with_reducible refine wpSeq_loadW 25 (.tmp 1) g1 0 [Value.slice ada nA cpa,.slice adv nV cpv,.slice adk nK cpk] _ H1.out.range Tryz.underlying25 rfl info_trees18k ?_ ?_ ?_ ?_
       · rfl
       · rfl
       · rfl
       have HQ1:Hid True:=trivial)
    | (clear ta2;go_at_call 4;refine (HALL.out _ HBW.out).mono ?_;rintro e w2 ⟨v2,v3,v4,rfl,h2,h3,h4,hb⟩
       obtain ⟨a2,c2,e2⟩:=h2.slice
       obtain ⟨a3,c3,e3,_⟩:=id h3
       obtain ⟨a4,c4,e4,_⟩:=id h4
       rw [List.length_map] at e2
       obtain ⟨nk,HNK⟩:∃ z,Hid (z = ks.length):=⟨_,rfl⟩
       obtain ⟨np,HNP⟩:∃ z,Hid (z = ps.length):=⟨_,rfl⟩
       rw [← HNK.out] at e2 e4
       rw [← HNP.out] at e3
       subst e2 e3 e4
       have HD:Hid (ReadsD w2 (.slice a2 nk c2) (ks.map fun l => dig (topPg 0 l))):=h2
       have HL:Hid (ReadsL w2 (.slice a3 np c3) ps):=h3
       have HT:Hid (TrsR w2 (.slice a4 nk c4) ks):=h4
       replace HBW:Hid (Below w.heap.size w w2):=HBW.out.trans (hb.mono HBW.out.size)
       clear h2 h3 h4 hb H1 HALL)
    | (clear ta3;go_at_call 5;refine (any9_any _ ps _ HL.out (fun p hp => Nat.lt_of_le_of_lt (HPL.out.2 p hp).2 (by decide)) (Nat.lt_trans HPL.out.1 (by decide))).mono ?_;rintro e w3 ⟨t,rfl,hap,hb⟩
       replace HD:Hid (ReadsD w3 (.slice a2 nk c2) (ks.map fun l => dig (topPg 0 l))):=HD.out.below hb
       replace HL:Hid (ReadsL w3 (.slice a3 np c3) ps):=HL.out.below hb
       replace HT:Hid (TrsR w3 (.slice a4 nk c4) ks):=HT.out.below hb
       replace HBW:Hid (Below w.heap.size w w3):=HBW.out.trans (hb.mono HBW.out.size)
       clear hb
       cases t <;> first | (have HAP:Hid (Apart17 ps):=hap rfl;clear hap) | clear hap)
    | (clear ta4;go_at_call 6;refine (works18_any _ (HK.out.below HBW.out HK.out.lt)).mono ?_;rintro e wz ⟨rfl,hz⟩
       have HBZ:Hid (Below w.heap.size w wz):=HBW.out.trans (hz.mono HBW.out.size)
       clear hz)
    | (clear ta5;go_at_call 7;refine (reapSplit_any _ _ ks ps _ (HK.out.below HBW.out HK.out.lt) HD.out HL.out HG.out HAP.out (Nat.le_trans HKL.out (by decide)) HPL.out.1 (fun p hp => Nat.lt_of_le_of_lt (HPL.out.2 p hp).2 (by decide))).mono ?_;rintro e w4 ⟨v8,v9,rfl,h1,h2,hb⟩
       have HF2:Hid ((ps.filter (needB ks)).length + (ps.filter fun p => !needB ks p).length = ps.length):=filter_two ps _
       obtain ⟨nd,HNDD⟩:∃ x,Hid (x = ps.filter (needB ks)):=⟨_,rfl⟩
       rw [← HNDD.out] at h1 HF2
       obtain ⟨a8,c8,e8,_⟩:=id h1
       obtain ⟨a9,c9,e9,_⟩:=id h2
       obtain ⟨nn,HNN2⟩:∃ z,Hid (z = nd.length):=⟨_,rfl⟩
       rw [← HNN2.out] at e8 HF2
       generalize (ps.filter fun p => !needB ks p).length = n9 at e9 HF2
       subst e8 e9
       rw [← HNP.out] at HF2
       have fsum:IntKind.i64.wrap ((nn:Int) + (n9:Int)) = (np:Int):=by rw [IntKind.wrap_i64];have:=HF2.out;have:=HPL.out.1;have:=HNP.out;omega
       have HND8:Hid (ReadsL w4 (.slice a8 nn c8) nd):=h1
       replace HD:Hid (ReadsD w4 (.slice a2 nk c2) (ks.map fun l => dig (topPg 0 l))):=HD.out.below hb
       replace HT:Hid (TrsR w4 (.slice a4 nk c4) ks):=HT.out.below hb
       replace HBW:Hid (Below w.heap.size w w4):=HBW.out.trans (hb.mono HBW.out.size)
       clear h1 h2 hb HL HF2))
  · have HNF:Hid (nd.Nodup ∧ (∀ p ∈ nd,p ∈ ps) ∧ (∀ p ∈ nd,1 ≤ p.length ∧ p.length ≤ 512) ∧ nd.length ≤ 100000 ∧ (∀ l ∈ ks,∀ p ∈ saveL 0 l,p ∈ nd)):=by
      rw [HNDD.out]
      have hm:∀ p ∈ ps.filter (needB ks),p ∈ ps:=fun p hp => (List.mem_filter.1 hp).1
      refine ⟨HND.out.filter _,hm,fun p hp => HPL.out.2 p (hm p hp),Nat.le_trans (List.length_filter_le _ _) (Nat.le_of_lt HPL.out.1),fun l hl p hp => ?_⟩
      exact List.mem_filter.2 ⟨(HG.out l hl).has p hp,needB_iff.2 ⟨l,hl,p,hp,rfl⟩⟩
    have HNL:Hid (nd.length < 100000):=by show _ < _;rw [HNDD.out];exact Nat.lt_of_le_of_lt (List.length_filter_le _ _) HPL.out.1
    have HLD:Hid (∀ W v l,KOk W → ReadsL W v nd → l ∈ ks → Calls Tryz.prog 8 #[.agg (cb (dig (topPg 0 l))).toArray,v] W fun e w' => ∃ g,e = .returned (.tuple #[.pointer (some ⟨g,0,none⟩),.int .i64 0]) ∧ TT w' g l ∧ Below W.heap.size W w'):=fun W v l hk hr hl => by
      have hg:=HG.out l hl
      have hsub:∀ p ∈ saveL 0 l,p ∈ nd:=fun p hp => HNF.out.2.2.2.2 l hl p hp
      have hfree:Free nd (saveL 0 l):=fun p hp q hq he => apart_mem HAP.out q (HNF.out.2.1 q hq) p (hg.has p hp) he
      have hlen:(saveL 0 l).length ≤ nd.length + 1:=Nat.le_succ_of_le (nodup_sub_len (save_nodup 256 0 l (by omega) hg.fits (fun p hp q hq hd => apart_mem HAP.out p (hg.has p hp) q (hg.has q hq) hd)) hsub)
      exact pgLoad_ok l v nd W hk hg.ok hg.up hg.few hr HNL.out (fun p hp => by have:=(HNF.out.2.2.1 p hp).2;omega) hfree hlen hsub
    have HX:Hid (∀ W,Below w4.heap.size w4 W → KOk W ∧ Below w.heap.size w W ∧ ReadsD W (.slice a2 nk c2) (ks.map fun l => dig (topPg 0 l)) ∧ ReadsL W (.slice a8 nn c8) nd ∧ TrsR W (.slice a4 nk c4) ks):=fun W hW =>
      ⟨(HK.out.below HBW.out HK.out.lt).below hW (HK.out.below HBW.out HK.out.lt).lt,HBW.out.trans (hW.mono HBW.out.size),HD.out.below hW,HND8.out.below hW,HT.out.below hW⟩
    have HB0:Hid (Below w4.heap.size w4 w4):=Below.refl _ _
    clear HD HT HND8 HNDD HND HPL HNF
    go_wp2
    go_loopw [9] (fun u W => ∃ i:Nat,i ≤ nk ∧ u = .int .i64 (i:Int) ∧ Hid (Below w4.heap.size w4 W)) (fun u _ => nk - (intOf u).toNat)
    case atStart => exact ⟨0,Nat.zero_le _,rfl,HB0.out⟩
    case round =>
      obtain ⟨i,hi,rfl,HW⟩:=hrel
      by_cases hil:i < nk
      case pos =>
        have hili:(i:Int) < (nk:Int):=by omega
        have hik:i < ks.length:=by rw [← HNK.out];exact hil
        have fi:IntKind.i64.wrap ((i:Int) + 1) = (i:Int) + 1:=by rw [IntKind.wrap_i64];have:=HKL.out;have:=HNK.out;omega
        obtain ⟨l,HLT⟩:∃ l,Hid (l = ks.getD i []):=⟨_,rfl⟩
        have HLM:Hid (l ∈ ks):=by show _ ∈ _;rw [HLT.out,List.getD_eq_getElem?_getD,List.getElem?_eq_getElem hik];exact List.getElem_mem hik
        obtain ⟨d,HDD⟩:∃ z,Hid (z = dig (topPg 0 l)):=⟨_,rfl⟩
        have HDL:Hid (d.length = 32):=by show _ = _;rw [HDD.out];exact len_dig' _
        obtain ⟨bl,ol,cl2,hva,hya⟩:=(HX.out wr HW.out).2.2.1.at (by rw [List.length_map];omega)
        rw [List.length_map,← HNK.out] at hva
        simp only [Value.slice.injEq,true_and] at hva
        obtain ⟨rfl,rfl⟩:=hva
        have hrk:=hya i (by rw [List.length_map];exact hik)
        have hdk:(ks.map fun l => dig (topPg 0 l)).getD i [] = d:=by
          rw [HDD.out,HLT.out,List.getD_eq_getElem?_getD,List.getElem?_map,List.getElem?_eq_getElem hik,List.getD_eq_getElem?_getD,List.getElem?_eq_getElem hik,Option.map_some,Option.getD_some,Option.getD_some]
        rw [hdk] at hrk
        have HRK:Hid (wr.rangeAt bl (ol + i * 32) (cb d)):=hrk
        have HLC:Hid (Calls Tryz.prog 8 #[.agg (cb d).toArray,.slice a8 nn c8] wr fun e w' => ∃ g,e = .returned (.tuple #[.pointer (some ⟨g,0,none⟩),.int .i64 0]) ∧ TT w' g l ∧ Below wr.heap.size wr w'):=by
          rw [HDD.out]
          exact HLD.out wr _ l (HX.out wr HW.out).1 (HX.out wr HW.out).2.2.2.1 HLM.out
        obtain ⟨g4,cp4,HTR⟩:∃ (g4 cp4:Nat),Hid (a4 = some ⟨g4,0,none⟩ ∧ ∀ W,Below w4.heap.size w4 W → ∃ a1 n1 c1 a2 n2 c2,W.rangeAt g4 (i * 2) [.slice a1 n1 c1,.slice a2 n2 c2] ∧ ReadsLf W (.slice a1 n1 c1) (.slice a2 n2 c2) l):=by
          obtain ⟨ad4,cp4,ev,hx4⟩:=(HX.out wr HW.out).2.2.2.2
          obtain ⟨g4,rfl,hat⟩:=hx4 (by rw [← HNK.out];omega)
          simp only [Value.slice.injEq] at ev
          obtain ⟨e1,_,_⟩:=ev
          refine ⟨g4,0,e1,fun W hW => ?_⟩
          obtain ⟨ad5,cp5,ev5,hx5⟩:=(HX.out W hW).2.2.2.2
          obtain ⟨g5,rfl,hat5⟩:=hx5 (by rw [← HNK.out];omega)
          simp only [Value.slice.injEq] at ev5
          obtain ⟨e5,_,_⟩:=ev5
          rw [e1] at e5
          cases e5
          rw [HLT.out]
          exact hat5 i (by rw [← HNK.out];exact hil)
        obtain ⟨ha4,_⟩:=HTR.out
        subst ha4
        have HIL:Hid (i < nk):=hil
        clear hya hrk hdk hik
        have td0:Hid True:=trivial
        have td1:Hid True:=trivial
        have td2:Hid True:=trivial
        go_wp2_with (first
          | (clear td0;with_reducible refine wpSeq_idxD17 (.tmp 47) (.tmp 48) bl ol nk c2 i HIL.out ?_ ?_ ?_ ?_ ?_
             · rfl
             · rfl
             · rfl
             · rfl
             have HQ2:Hid True:=trivial)
          | (clear td1;with_reducible refine wpSeq_ldAt17 (.tmp 49) bl (ol + i * 32) d HDL.out HRK.out ?_ ?_ ?_ ?_
             · rfl
             · rfl
             · rfl
             have HQ3:Hid True:=trivial)
          | (clear td2;go_at_call 8;refine (HLC.out).mono ?_;rintro e w7 ⟨g7,rfl,ht,hb⟩
             have HT7:Hid (TT w7 g7 l):=ht
             have HW7:Hid (Below w4.heap.size w4 w7):=HW.out.trans (hb.mono HW.out.size)
             clear ht hb))
        obtain ⟨b1,n1,c1,b2,n2,c2v,hr7,hlf7⟩:=HTR.out.2 w7 HW7.out
        have HS7:Hid (∀ W,Below w7.heap.size w7 W → KOk W ∧ TT W g7 l ∧ W.rangeAt g4 (i * 2) [.slice b1 n1 c1,.slice b2 n2 c2v] ∧ ReadsLf W (.slice b1 n1 c1) (.slice b2 n2 c2v) l):=fun W hW =>
          ⟨(HX.out W (HW7.out.trans (hW.mono HW7.out.size))).1,HT7.out.next hW,fun j v hj => by rw [hW.cell (p:=⟨g4,i * 2 + j,none⟩) (block_lt_of_cell (hr7 j v hj))];exact hr7 j v hj,hlf7.below hW⟩
        have HGL:=HG.out l HLM.out
        obtain ⟨rt,HRT⟩:∃ z,Hid (z = rootL l 0):=⟨_,rfl⟩
        have HRL:Hid (rt.length = 32):=by show _ = _;rw [HRT.out];exact rootL_len HGL.fits
        have HB7:Hid (Below w7.heap.size w7 w7):=Below.refl _ _
        have hq:∀ wx:World,(Op.equalIn 10000 39 (.agg (cb rt).toArray) (.agg (cb rt).toArray)).run Tryz.prog wx = .ok true wx:=fun wx => by rw [eq_dig rt rt HRL.out HRL.out wx];simp
        refine wp_region_held_drew (S:=fun wx => Below w7.heap.size w7 wx) (by kernel_rfl) HB7.out.drew ?_
        intro hS
        change wpAnyH _ _ _ _ _ _ _ _ (World.drew w7)
        generalize World.drew w7 = wd at *
        refine wpAnyH_take (i:=0) (v:=.int .i64 0) rfl (by kernel_rfl) (by kernel_rfl) (by kernel_rfl) (fun _ _ _ h => h) (Or.inl ⟨by rfl,fun wx hx => by simp [go_sem]⟩) hS ?_
        simp only [Act.put,List.getElem_toArray,List.getElem_cons_zero,List.setIfInBounds_toArray,List.set_cons_zero,List.set_cons_succ]
        refine wpAnyH_take (i:=1) (v:=.bool false) rfl (by kernel_rfl) (by kernel_rfl) (by kernel_rfl) (fun _ _ _ h => h) (Or.inl ⟨by rfl,fun wx hx => by simp [go_sem]⟩) hS ?_
        simp only [Act.put,List.getElem_toArray,List.getElem_cons_succ,List.getElem_cons_zero,List.setIfInBounds_toArray,List.set_cons_zero,List.set_cons_succ]
        refine wpAnyH_take (i:=2) (v:=.bool false) rfl (by kernel_rfl) (by kernel_rfl) (by kernel_rfl) (fun _ _ _ h => h) (Or.inl ⟨by rfl,fun wx hx => by simp [go_sem]⟩) hS ?_
        simp only [Act.put,List.getElem_toArray,List.getElem_cons_succ,List.getElem_cons_zero,List.setIfInBounds_toArray,List.set_cons_zero,List.set_cons_succ]
        refine wpAnyH_take (i:=3) (v:=.pointer (some ⟨g7,0,none⟩)) rfl (by kernel_rfl) (by kernel_rfl) (by kernel_rfl) (fun _ _ _ h => h) (Or.inl ⟨by rfl,fun wx hx => by simp [go_sem]⟩) hS ?_
        simp only [Act.put,List.getElem_toArray,List.getElem_cons_succ,List.getElem_cons_zero,List.setIfInBounds_toArray,List.set_cons_zero,List.set_cons_succ]
        refine wpAnyH_take (i:=4) (v:=.bool false) rfl (by kernel_rfl) (by kernel_rfl) (by kernel_rfl) (fun _ _ _ h => h) (Or.inl ⟨by rfl,fun wx hx => by simp [go_sem]⟩) hS ?_
        simp only [Act.put,List.getElem_toArray,List.getElem_cons_succ,List.getElem_cons_zero,List.setIfInBounds_toArray,List.set_cons_zero,List.set_cons_succ]
        refine wpAnyH_take (i:=5) (v:=.bool false) rfl (by kernel_rfl) (by kernel_rfl) (by kernel_rfl) (fun _ _ _ h => h) (Or.inl ⟨by rfl,fun wx hx => by simp [go_sem]⟩) hS ?_
        simp only [Act.put,List.getElem_toArray,List.getElem_cons_succ,List.getElem_cons_zero,List.setIfInBounds_toArray,List.set_cons_zero,List.set_cons_succ]
        refine wpAnyH_take (i:=6) (v:=.bool false) rfl (by kernel_rfl) (by kernel_rfl) (by kernel_rfl) (fun _ _ _ h => h) (Or.inl ⟨by rfl,fun wx hx => by simp [go_sem]⟩) hS ?_
        simp only [Act.put,List.getElem_toArray,List.getElem_cons_succ,List.getElem_cons_zero,List.setIfInBounds_toArray,List.set_cons_zero,List.set_cons_succ]
        refine wpAnyH_take (i:=7) (v:=.pointer (some ⟨g7,0,none⟩)) rfl (by kernel_rfl) (by kernel_rfl) (by kernel_rfl) (fun _ _ _ h => h) (Or.inl ⟨by rfl,fun wx hx => by simp [go_sem]⟩) hS ?_
        simp only [Act.put,List.getElem_toArray,List.getElem_cons_succ,List.getElem_cons_zero,List.setIfInBounds_toArray,List.set_cons_zero,List.set_cons_succ]
        refine wpAnyH_take (i:=9) (v:=.slice (some ⟨g4,0,none⟩) nk c4) rfl (by kernel_rfl) (by kernel_rfl) (by kernel_rfl) (fun _ _ _ h => h) (Or.inl ⟨by rfl,fun wx hx => by simp [go_sem]⟩) hS ?_
        simp only [Act.put,List.getElem_toArray,List.getElem_cons_succ,List.getElem_cons_zero,List.setIfInBounds_toArray,List.set_cons_zero,List.set_cons_succ]
        refine wpAnyH_take (i:=10) (v:=.int .i64 (i:Int)) rfl (by kernel_rfl) (by kernel_rfl) (by kernel_rfl) (fun _ _ _ h => h) (Or.inl ⟨by rfl,fun wx hx => by simp [go_sem]⟩) hS ?_
        simp only [Act.put,List.getElem_toArray,List.getElem_cons_succ,List.getElem_cons_zero,List.setIfInBounds_toArray,List.set_cons_zero,List.set_cons_succ]
        refine wpAnyH_take (i:=11) (v:=.pointer (some ⟨g4,0 + i * 2,none⟩)) rfl (by kernel_rfl) (by kernel_rfl) (by kernel_rfl) (fun _ _ _ h => h) (Or.inl ⟨by rfl,fun wx hx => by exact idxT18 g4 0 c4 nk i HIL.out _ _ (.tmp 64) (.tmp 65) rfl rfl rfl wx⟩) hS ?_
        simp only [Act.put,List.getElem_toArray,List.getElem_cons_succ,List.getElem_cons_zero,List.setIfInBounds_toArray,List.set_cons_zero,List.set_cons_succ]
        refine wpAnyH_take (i:=12) (v:=.agg [Value.slice b1 n1 c1,.slice b2 n2 c2v].toArray) rfl (by kernel_rfl) (by kernel_rfl) (by kernel_rfl) (fun _ _ _ h => h) (Or.inl ⟨by rfl,fun wx hx => by exact load_run 43 (.tmp 66) rfl g4 (0 + i * 2) rfl _ _ (by rw [Nat.zero_add];exact (HS7.out wx hx).2.2.1) Tryz.underlying43 rfl info_lvs2⟩) hS ?_
        simp only [Act.put,List.getElem_toArray,List.getElem_cons_succ,List.getElem_cons_zero,List.setIfInBounds_toArray,List.set_cons_zero,List.set_cons_succ]
        refine wpAnyH_enter 8 (by kernel_rfl) rfl (by rfl) (f:=9) (args:=#[.pointer (some ⟨g7,0,none⟩)]) (by simp [go_sem]) (trRoot_any wd 0 g7 l (HS7.out wd hS).1 (HS7.out wd hS).2.1.1 HGL.fits) ?_
        rintro e wy ⟨rfl,hby⟩
        have hSy:Below w7.heap.size w7 wy:=hS.trans (hby.mono hS.size)
        refine ⟨_,rfl,hSy,?_⟩
        simp only [Act.put,List.getElem_toArray,List.getElem_cons_succ,List.getElem_cons_zero,List.setIfInBounds_toArray,List.set_cons_zero,List.set_cons_succ]
        rw [← HRT.out]
        refine wpAnyH_enter 13 (by kernel_rfl) rfl (by rfl) (f:=10) (args:=#[.agg #[.slice b1 n1 c1,.slice b2 n2 c2v],.int .i64 ((0:Nat):Int)]) (by simp [go_sem]) (lfRoot_any 256 l 0 _ _ wy (by omega) HGL.fits (HS7.out wy hSy).2.2.2 (by have:=HLL.out l HLM.out;omega) (by omega)) ?_
        rintro e wz ⟨rfl,hbz⟩
        have hSz:Below w7.heap.size w7 wz:=hSy.trans (hbz.mono hSy.size)
        refine ⟨_,rfl,hSz,?_⟩
        simp only [Act.put,List.getElem_toArray,List.getElem_cons_succ,List.getElem_cons_zero,List.setIfInBounds_toArray,List.set_cons_zero,List.set_cons_succ]
        rw [← HRT.out]
        refine wpAnyH_take (i:=14) (v:=.bool false) rfl (by kernel_rfl) (by kernel_rfl) (by kernel_rfl) (fun _ _ _ h => h) (Or.inl ⟨by rfl,fun wx hx => by simp [go_sem,hq]⟩) hSz ?_
        simp only [Act.put,List.getElem_toArray,List.getElem_cons_succ,List.getElem_cons_zero,List.setIfInBounds_toArray,List.set_cons_zero,List.set_cons_succ]
        refine wpAnyH_take (i:=15) (v:=.bool false) rfl (by kernel_rfl) (by kernel_rfl) (by kernel_rfl) (fun _ _ _ h => h) (Or.inl ⟨by rfl,fun wx hx => by simp [go_sem]⟩) hSz ?_
        simp only [Act.put,List.getElem_toArray,List.getElem_cons_succ,List.getElem_cons_zero,List.setIfInBounds_toArray,List.set_cons_zero,List.set_cons_succ]
        refine wpAnyH_done (by kernel_rfl) ?_ _
        have HWZ:Hid (Below w4.heap.size w4 wz):=HW7.out.trans (hSz.mono HW7.out.size)
        clear hSz hSy hq hS hby hbz HGL hr7 hlf7
        go_wp2
        go_roundw
        case rel => exact ⟨i + 1,by omega,by simp,HWZ.out⟩
        case measure => simp [intOf];omega
      case neg =>
        have hnl:¬ ((i:Int) < (nk:Int)):=by omega
        have tf0:Hid True:=trivial
        go_wp2_with (first
          | (clear tf0;go_at_call 6;refine (works18_any _ (HX.out wr HW.out).1).mono ?_;rintro e wz ⟨rfl,hz⟩
             have HBZ:Hid (Below w.heap.size w wz):=(HX.out wr HW.out).2.1.trans (hz.mono (HX.out wr HW.out).2.1.size)
             clear hz))
        go_ret
        exact ⟨rfl,HBZ.out⟩
  · go_ret
    exact ⟨rfl,HBZ.out⟩
end Go.Proofs.YtphmmnffgknkcaaGreatDoor
namespace Go.Proofs.YtphmmnffgknkcaaGreatDoor
open Go.ChangeShapes Go.WideShapes Go.ChangeAt Go.WideMaps Go.WideElems Go.RowKit
set_option maxRecDepth 100000
theorem own:ownKnob Tryz.prog.godebug = none:=by kernel_rfl
theorem gKw:Tryz.prog.globalNamed "blazon/sha.roundWords" = some 1:=by kernel_rfl
theorem tKw:(Tryz.prog.globals[1]?).map (·.type) = some 123:=by kernel_rfl
def laidK:List (String × DataW Unit):=[("blazon/sha.roundWords",Rows.laid_blazon_sha_roundWords)]
def kzs:List Int:=kw.map fun x => (x.toNat:Int)
theorem laid_tab:(Rows.laid_blazon_sha_roundWords:DataW Unit) = Lib.tabData .u32 kzs:=by kernel_rfl
theorem door_met (os:Os) (args:Array Value):laidMetH Tryz.prog laidK ((World.doorLaid Tryz.prog 400 os).forCall (fun _ _ => 0) ⟨#[],args,[]⟩).memory:=
  laidMetH_of_parts3 (fuel:=8) (laidMet_of_run' 8 (by kernel_rfl) (by kernel_rfl)) (by kernel_rfl) (by kernel_rfl)
theorem getD_toNat (l:List (BitVec 32)) (j:Nat):(l.map fun x => (x.toNat:Int)).getD j 0 = ((l.getD j 0).toNat:Int):=by
  rw [List.getD_eq_getElem?_getD,List.getD_eq_getElem?_getD,List.getElem?_map]
  cases l[j]? <;> rfl
theorem kok_of_laid {W:World} (h:laidMetH Tryz.prog laidK W):KOk W:=by
  rw [MakeChecks.laidMetH_plain _ _ _ (by kernel_rfl)] at h
  unfold laidK at h
  rw [laid_tab] at h
  have hT:=Lib.tabIs_of_head gKw tKw Tryz.underlying123 Tryz.underlying91 (by kernel_rfl) (by kernel_rfl) h
  intro j hj
  rw [hT.cell gKw j (by simpa [kzs,kw] using hj),kzs,getD_toNat]
end Go.Proofs.YtphmmnffgknkcaaGreatDoor
namespace Go.Proofs.YtphmmnffgknkcaaGreatDoor
open Go.ChangeShapes Go.WideShapes Go.ChangeAt Go.WideMaps Go.WideElems Go.RowKit
set_option maxRecDepth 100000
theorem cells_byte:Tryz.prog.cellsOf 5 = 1:=by kernel_rfl
theorem laid_out:laidOutB Tryz.prog = true:=by kernel_rfl
end Go.Proofs.YtphmmnffgknkcaaGreatDoor
namespace Go.Proofs.YtphmmnffgknkcaaGreatDoor
open Go.ChangeShapes Go.WideShapes Go.ChangeAt Go.WideMaps Go.WideElems Go.RowKit
set_option maxRecDepth 100000
theorem cells_digest:Tryz.prog.cellsOf 39 = 32:=by kernel_rfl
def numOf8:Value → BitVec 8
  | .int _ n => BitVec.ofInt 8 n
  | _ => 0
end Go.Proofs.YtphmmnffgknkcaaGreatDoor
namespace Go.Proofs.YtphmmnffgknkcaaGreatDoor
open Go.ChangeShapes Go.WideShapes Go.ChangeAt Go.WideMaps Go.WideElems Go.RowKit
set_option maxRecDepth 100000
set_option maxRecDepth 100000 in
theorem bulk_pos {H:Type} (d:DataW H):1 ≤ Rows.uptoBulk d:=by
  cases d with
  | lit l => cases l <;> simp [Rows.uptoBulk]
  | _ => simp [Rows.uptoBulk]
set_option maxRecDepth 100000 in
theorem bulk_slice {H:Type} (e s:List (DataW H)):Rows.uptoBulkAll e ≤ Rows.uptoBulk (DataW.slice e s):=by
  simp only [Rows.uptoBulk];omega
set_option maxRecDepth 100000 in
theorem bulk_len {H:Type}:∀ l:List (DataW H),l.length ≤ Rows.uptoBulkAll l
  | [] => Nat.zero_le _
  | d :: r => by
    have h1:=bulk_len r
    have h2:=bulk_pos d
    simp only [Rows.uptoBulkAll,List.length_cons]
    omega
theorem digest_of_cells {H:Type} {enc:TypeId × Value → H} {W:World} {cs:List Value} {d:DataW H} {p:List MemPlace} {fuel:Nat} (hf:DataW.trod enc Tryz.prog W 0 (fun _ => true) true fuel 39 cs = some (d,p)) :
    ∃ dg,cs = cb dg ∧ dg.length = 32 ∧ ∀ x ∈ p,x.block < W.heap.size:=by
  obtain ⟨xs,m,_,hx,hl,hn,hi⟩:=DataW.trod_array Tryz.underlying39 hf
  rw [cells_digest] at hl
  rw [cells_byte] at hi
  have each:∀ i,i < 32 → ∃ n,cs[i]? = some (.int .u8 n) ∧ xs[i]? = some (.lit (.int .u8 n),[]) ∧ (Lit.int .u8 n).wf = true:=by
    intro i h32
    have h1:=hi i h32
    rw [List.getElem?_eq_getElem (by omega)] at h1
    obtain ⟨n,hc,hxx,hw⟩:=DataW.trod_int Tryz.underlying5 h1
    refine ⟨n,?_,by rw [List.getElem?_eq_getElem (by omega),hxx],hw⟩
    rw [Nat.mul_one] at hc
    have h2:=congrArg (fun l => l[0]?) hc
    simpa using h2
  have hlen:(cs.map numOf8).length = 32:=by simpa using hl
  refine ⟨cs.map numOf8,?_,hlen,?_⟩
  · apply List.ext_getElem?
    intro i
    by_cases h32:i < 32
    · obtain ⟨n,h1,_,hw⟩:=each i h32
      have hb:=bounds_u8 hw
      rw [h1,cb_get _ _ (by omega),List.getD_eq_getElem?_getD,List.getElem?_map,h1]
      simp only [Option.map_some,Option.getD_some,numOf8,BitVec.toNat_ofInt]
      congr 2
      omega
    · rw [List.getElem?_eq_none (by omega),List.getElem?_eq_none (by rw [cb_len];omega)]
  · simp only [Prod.mk.injEq] at hx
    rw [hx.2]
    intro x hmem
    obtain ⟨y,hy,hxy⟩:=List.mem_flatMap.1 hmem
    obtain ⟨i,hlt,rfl⟩:=List.getElem_of_mem hy
    obtain ⟨n,_,h2,_⟩:=each i (by omega)
    rw [List.getElem?_eq_getElem hlt] at h2
    rw [Option.some.inj h2] at hxy
    cases hxy
end Go.Proofs.YtphmmnffgknkcaaGreatDoor
namespace Go.Proofs.YtphmmnffgknkcaaGreatDoor
open Go.ChangeShapes Go.WideShapes Go.ChangeAt Go.WideMaps Go.WideElems Go.RowKit
set_option maxRecDepth 100000
set_option maxRecDepth 100000 in
theorem readable_trees18:Tryz.prog.readableRec 25 = true:=by kernel_rfl
set_option maxRecDepth 100000 in
theorem row_trees18:25 < Tryz.prog.types.size:=of_decide_eq_true (by kernel_rfl)
theorem cells_digests18:Tryz.prog.cellsOf 22 = 1:=by kernel_rfl
theorem cells_bools18:Tryz.prog.cellsOf 23 = 1:=by kernel_rfl
theorem cells_bool18:Tryz.prog.cellsOf 4 = 1:=by kernel_rfl
theorem cells_trees18:Tryz.prog.cellsOf 25 = 3:=by kernel_rfl
set_option maxRecDepth 100000 in
theorem readsD_of_cells {H:Type} {enc:TypeId × Value → H} {W:World} {a1:Option Addr} {len cap:Nat} {d:DataW H} {p:List MemPlace} {fuel:Nat} (hf:DataW.trod enc Tryz.prog W 0 (fun _ => true) true fuel 22 [.slice a1 len cap] = some (d,p)) :
    ∃ ds,ReadsD W (.slice a1 len cap) ds ∧ ds.length ≤ Rows.uptoBulk d ∧ ∀ x ∈ p,x.block < W.heap.size:=by
  rcases Go.Deep.open_slice Tryz.underlying22 hf with ⟨hcs,hx⟩ | ⟨a,len',cap',m,n,D,Pl,hcs,_,hl,hm,hmm,hx,hV⟩
  · simp at hcs
    obtain ⟨rfl,rfl,rfl⟩:=hcs
    simp only [Prod.mk.injEq] at hx
    obtain ⟨rfl,rfl⟩:=hx
    exact ⟨[],⟨⟨none,0,rfl,Nat.le_refl _,fun _ => rfl,fun h => by cases h⟩,fun _ h => by cases h⟩,Nat.zero_le _,fun _ h => by cases h⟩
  · simp at hcs
    obtain ⟨rfl,rfl,rfl⟩:=hcs
    simp only [Prod.mk.injEq] at hx
    obtain ⟨rfl,rfl⟩:=hx
    simp only [if_true] at hmm
    subst hmm
    rw [cells_digest] at hV
    obtain ⟨B,hB⟩:=Go.Deep.choose_lt (α:=List (BitVec 8)) (p:=fun i dg => W.cells? 0 (a.add (i * 32)) 32 = some (cb dg) ∧ dg.length = 32 ∧ ∀ x ∈ Pl i,x.block < W.heap.size) (fun i hi => by
      obtain ⟨cs',h1,h2⟩:=hV i hi
      obtain ⟨dg,rfl,h3,h4⟩:=digest_of_cells h2
      exact ⟨dg,h1,h3,h4⟩)
    have hlen:((List.range len).map B).length = len:=by simp
    obtain ⟨ab,ao,spot⟩:=a
    have cell:∀ i,i < m → ∀ j,j < 32 → W.cell? ((⟨ab,ao,spot⟩:Addr).add (i * 32 + j)) = (cb (B i))[j]?:=by
      intro i hi j hj
      obtain ⟨h1,_,_⟩:=hB i hi
      obtain ⟨_,_,h4⟩:=World.cells?_some h1
      have:=h4 j hj
      rw [Go.Deep.add_add] at this
      exact this
    have hspot:0 < m → spot = none:=fun hp => by
      have h:=cell 0 hp 0 (by omega)
      rw [cb_get _ 0 (by rw [(hB 0 hp).2.1];omega)] at h
      simpa [Addr.add] using World.cell?_spot h
    refine ⟨(List.range len).map B,⟨⟨some ⟨ab,ao,spot⟩,m,by rw [hlen],by rw [hlen];exact hl,(fun h => by cases h),fun hp => ?_⟩,?_⟩,by rw [hlen];exact Nat.le_trans (by have:=bulk_len ((List.range len).map D);simpa using this) (bulk_slice _ _),fun x hx => ?_⟩
    · rw [hlen] at hp ⊢
      have hs:=hspot (by omega)
      subst hs
      refine ⟨ab,ao,rfl,fun j hj i v hv => ?_⟩
      have e:((List.range len).map B).getD j [] = B j:=by simp [hj]
      rw [e] at hv
      have hi:i < 32:=by have:=(List.getElem?_eq_some_iff.1 hv).1;rwa [cb_len,(hB j (by omega)).2.1] at this
      have h:=cell j (by omega) i hi
      rw [hv,Addr.add_lit] at h
      rw [Nat.add_assoc];exact h
    · intro dg hd
      obtain ⟨i,hi,rfl⟩:=List.mem_map.1 hd
      exact (hB i (by have:=List.mem_range.1 hi;omega)).2.1
    · rcases List.mem_append.1 hx with hx | hx
      · rw [cells_digest] at hx
        simp only [MemPlace.row,List.mem_map,List.mem_range] at hx
        obtain ⟨i,hi,rfl⟩:=hx
        have h:=cell (i / 32) (by omega) (i % 32) (by omega)
        rw [cb_get _ _ (by rw [(hB (i / 32) (by omega)).2.1];omega),show i / 32 * 32 + i % 32 = i by omega] at h
        have:=block_lt_of_cell h
        simp only [Addr.add] at this
        split at this <;> exact this
      · obtain ⟨i,hi,hx⟩:=List.mem_flatMap.1 hx
        exact (hB i (List.mem_range.1 hi)).2.2 x hx
set_option maxRecDepth 100000 in
theorem readsBo_of_cells {H:Type} {enc:TypeId × Value → H} {W:World} {a1:Option Addr} {len cap:Nat} {d:DataW H} {p:List MemPlace} {fuel:Nat} (hf:DataW.trod enc Tryz.prog W 0 (fun _ => true) true fuel 23 [.slice a1 len cap] = some (d,p)) :
    ∃ bs,ReadsBo W (.slice a1 len cap) bs:=by
  rcases Go.Deep.open_slice Tryz.underlying23 hf with ⟨hcs,hx⟩ | ⟨a,len',cap',m,n,D,Pl,hcs,_,hl,hm,hmm,hx,hV⟩
  · simp at hcs
    obtain ⟨rfl,rfl,rfl⟩:=hcs
    exact ⟨[],none,0,rfl,fun h => by cases h⟩
  · simp at hcs
    obtain ⟨rfl,rfl,rfl⟩:=hcs
    simp only [if_true] at hmm
    subst hmm
    rw [cells_bool18] at hV
    obtain ⟨B,hB⟩:=Go.Deep.choose_lt (α:=Bool) (p:=fun i b => W.cells? 0 (a.add (i * 1)) 1 = some [.bool b]) (fun i hi => by
      obtain ⟨cs',h1,h2⟩:=hV i hi
      obtain ⟨b,rfl,_⟩:=DataW.trod_bool Tryz.underlying4 h2
      exact ⟨b,h1⟩)
    have hlen:((List.range len).map B).length = len:=by simp
    obtain ⟨ab,ao,spot⟩:=a
    have cell:∀ i,i < m → W.cell? ((⟨ab,ao,spot⟩:Addr).add i) = some (.bool (B i)):=by
      intro i hi
      obtain ⟨_,_,h4⟩:=World.cells?_some (hB i hi)
      have:=h4 0 (by omega)
      rw [Go.Deep.add_add] at this
      simpa using this
    have hspot:0 < m → spot = none:=fun hp => by
      have h:=cell 0 hp
      simpa [Addr.add] using World.cell?_spot h
    refine ⟨(List.range len).map B,some ⟨ab,ao,spot⟩,m,by rw [hlen],fun hp => ?_⟩
    rw [hlen] at hp ⊢
    have hs:=hspot (by omega)
    subst hs
    refine ⟨ab,ao,rfl,fun j hj => ?_⟩
    have e:((List.range len).map B).getD j false = B j:=by simp [hj]
    rw [e]
    have h:=cell j (by omega)
    rw [Addr.add_lit] at h
    exact h
theorem slice_of_trod {H:Type} {enc:TypeId × Value → H} {W:World} {t e:TypeId} (ht:Tryz.prog.underlying t = some (.slice e)) {v:Value} {y:DataW H × List MemPlace} {fuel:Nat} (hf:DataW.trod enc Tryz.prog W 0 (fun _ => true) true fuel t [v] = some y):∃ a n c,v = .slice a n c:=by
  rcases Go.Deep.open_slice ht hf with ⟨hcs,_⟩ | ⟨a,n,c,_,_,_,_,hcs,_⟩
  · simp at hcs
    exact ⟨_,_,_,hcs⟩
  · simp at hcs
    exact ⟨_,_,_,hcs⟩
set_option maxRecDepth 100000 in
theorem trees18_of_trod {H:Type} {enc:TypeId × Value → H} {W:World} {base:Nat} {v:Value} {d:DataW H} {p:List MemPlace} (hval:Value.okWide Tryz.prog W .any base 25 v)
    (h:DataW.Trod enc Tryz.prog W 0 (fun _ => true) true 25 v d p) :
    ∃ va vv vk ds es bs,v = .agg #[va,vv,vk] ∧ ReadsD W va ds ∧ ReadsD W vv es ∧ ReadsBo W vk bs ∧ ∀ x ∈ p,x.block < W.heap.size:=by
  simp only [Value.okWide,Tryz.underlying25] at hval
  obtain ⟨cs,rfl,hcs,_⟩:=hval
  obtain ⟨fuel,hf⟩:=h
  have hp:=DataW.trod_lt _ _ _ _ hf
  obtain ⟨y0,y1,y2,n,hx,hl,h0,h1,h2⟩:=Go.Deep.trod_struct3 Tryz.underlying25 hf
  simp only [Value.cells] at hl h0 h1 h2
  rw [cells_trees18] at hl
  rw [cells_digests18] at h0 h1
  rw [cells_bools18] at h2
  obtain ⟨l⟩:=cs
  match l,hl with
  | [c0,c1,c2],_ =>
    simp at h0 h1 h2
    obtain ⟨a0,n0,k0,rfl⟩:=slice_of_trod Tryz.underlying22 h0
    obtain ⟨a1,n1,k1,rfl⟩:=slice_of_trod Tryz.underlying22 h1
    obtain ⟨a2,n2,k2,rfl⟩:=slice_of_trod Tryz.underlying23 h2
    obtain ⟨ds,hr0,_⟩:=readsD_of_cells (d:=y0.1) (p:=y0.2) h0
    obtain ⟨es,hr1,_⟩:=readsD_of_cells (d:=y1.1) (p:=y1.2) h1
    obtain ⟨bs,hr2⟩:=readsBo_of_cells (d:=y2.1) (p:=y2.2) h2
    exact ⟨_,_,_,ds,es,bs,rfl,hr0,hr1,hr2,hp⟩
end Go.Proofs.YtphmmnffgknkcaaGreatDoor

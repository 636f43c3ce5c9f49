/- Texts that the proof leans on, one behind the other: The reference's Whole and Same (layer 15). The reference's Apply (layer 15). The law's like: a store has just these keys (layer 15). .. -/
import Derived.Test.YtheincjkoefalaaGreatDoorMzf
import Derived.Test.YtheincjkoefalaaGreatDoorMze
import Derived.Test.YtheincjkoefalaaGreatDoorRows
import Derived.Test.YtheincjkoefalaaGreatDoorMza
import Derived.ProofKit
import Derived.LaidMore
import Derived.OpenShut
import Derived.Stop.Joined
import Derived.Lib.LaidTab
import Derived.Carry
import Derived.ChangeSlices
import Derived.Deep.Slices
import Derived.Deep.Strs
import Derived.Lib.SmallJoins
set_option maxRecDepth 100000
set_option maxHeartbeats 16000000
namespace Go.Proofs.YtheincjkoefalaaGreatDoor
open Go.RowKit
theorem idxT15 (b off n c k:Nat) (hk:k < n) (f:Operand → Value) (o:Oper) (x y:Operand) (ho:o.op = .indexAddr 41 x y) (hx:f x = .slice (some ⟨b,off,none⟩) n c) (hy:f y = .int .i64 (k:Int)) (w:World) :
 (execOp f o).run Tryz.prog w = .ok (.value (.pointer (some ⟨b,off + k,none⟩))) w:=by
 have k0:(0:Int) ≤ (k:Int):=by omega
 have k1:(k:Int) < (n:Int):=by omega
 have hs:(sizeOf 23).run Tryz.prog w = .ok 1 w:=by kernel_rfl
 unfold execOp
 rw [ho]
 simp [go_sem,hx,hy,k0,k1,Addr.add_mid,hs]
theorem build_act3 (f:Operand → Value) (o:Oper) (x y:Operand) (s:ByteArray) (ad:Option Addr) (n c:Nat) (hc:f (.const (.bool true)) = .bool true) (ho:o.op = .build 62 #[(0,x),(1,.const (.bool true)),(2,y)]) (hx:f x = .string s) (hy:f y = .slice ad n c) (w:World):(execOp f o).run Tryz.prog w = .ok (.value (.agg [.string s,.bool true,.slice ad n c].toArray)) w:=by
 unfold execOp
 rw [ho]
 simp only [List.map_toArray,List.map_cons,List.map_nil,hx,hy,hc]
 kernel_rfl
theorem ReadsS.at15 {w:World} {ad:Option Addr} {n c k:Nat} {ks:List Bs} (h:ReadsS w (.slice ad n c) ks) (hk:k < ks.length):∃ b off,ad = some ⟨b,off,none⟩ ∧ w.cell? ⟨b,off + k,none⟩ = some (.string (strB (ks.getD k []))):=by
 obtain ⟨ad',cap,h1,_,_,h2⟩:=h
 simp only [Value.slice.injEq] at h1
 obtain ⟨b,off,h3,h4⟩:=h2 (by omega)
 exact ⟨b,off,by rw [h1.1];exact h3,h4 k hk⟩
theorem wp_appendR {o:Oper} {a:Act} {w:World} {K:Act → World → Prop} {Q:Exit → Act → World → Prop} (s x:Operand) (base:Nat) (v:Value) (ps:List (ActT × Value)) (p:ActT × Value) (g:Nat) (av:Option Addr) (nv cv:Nat) (hpv:p.2 = .slice av nv cv)
 (hown:w.ownsRow base 62 3 v ps.length (rowP ps)) (hb:Blk w g (actC p.1 p.2) 62) (hlen:ps.length < 1000000) (hbase:base ≤ w.heap.size)
 (ho:o.op = .call { callee:=.builtin .append,args:=#[s,x],argTypes:=#[22,22] }) (hs:a.eval s = v) (hx:a.eval x = .slice (some ⟨g,0,none⟩) 1 1)
 (h:∀ v' w',w'.ownsRow base 62 3 v' (ps ++ [p]).length (rowP (ps ++ [p])) → w.grownBy w' v.ownBlock → K (a.put o.dst v') w'):o.wp Tryz.prog a w K Q:=by
 obtain ⟨i0,hi,hz0,hz1,hz2⟩:=info_parts Tryz.infoact
 obtain ⟨v',w',hr,h2,h3,h4,h5⟩:=run_append_own_at (P:=Tryz.prog) w base 22 o.type 62 i0 (.agg zA.toArray) 3 48 Tryz.underlying22 hi hz0 hz1 hz2 rfl (by decide) v ps.length (rowP ps) hown ⟨g,0,none⟩ 1 1 (actC p.1 p.2) rfl (fun j u hj => by rw [Addr.add_mid,Nat.zero_add,hb.cell];exact hj) (by rw [actC,hpv];exact one_act _ _ _ _ _) (by unfold maxLen;omega) (by omega) hbase
 unfold Oper.wp execOp
 simp only [ho,resolve,invoke,builtin,Sem.run_bind,Sem.run_pure,Result.andThen_ok,List.map_toArray,List.map_cons,List.map_nil,hs,hx,hr]
 exact h v' w' (by rw [List.length_append,rowP_snoc];exact h2) h3
structure WhI (w:World) (m:KM) (k:Nat) (v:Value) (wr:World) (ps:List (ActT × Value)):Prop where
 row:wr.ownsRow w.heap.size 62 3 v ps.length (rowP ps)
 ac:ps.map (·.1) = wholeM (m.take k)
 dat:∀ p ∈ ps,Reads w p.2 p.1.data
 bel:Below w.heap.size w wr
theorem WhI.len {w wr:World} {m:KM} {k:Nat} {v:Value} {ps:List (ActT × Value)} (h:WhI w m k v wr ps) (hk:k ≤ m.length):ps.length = k:=by
 have:=congrArg List.length h.ac
 rw [List.length_map] at this
 simp [wholeM] at this
 omega
theorem oWhole_any (vK vV:Value) (m:KM) (w:World) (hr:ReadsS w vK (m.map (·.1))) (hv:ReadsL w vV (m.map (·.2))) (hl:m.length < 1000000):Calls Tryz.prog 51 #[.agg [vK,vV].toArray] w fun e w' => ∃ v,e = .returned v ∧ ReadsA w' v (wholeM m) ∧ Below w.heap.size w w':=by
 have HR:Hid (ReadsS w vK (m.map (·.1))):=hr
 have HV:Hid (ReadsL w vV (m.map (·.2))):=hv
 obtain ⟨n,HN⟩:=sqn (m.length)
 obtain ⟨ad,c,hvk⟩:=hr.form
 rw [List.length_map,← HN.out] at hvk
 subst hvk
 obtain ⟨ad2,c2,hvv,_⟩:=hv
 rw [List.length_map,← HN.out] at hvv
 subst hvv
 have HL:Hid (n < 1000000):=by rw [HN.out];exact hl
 clear hr hl
 go_enter Tryz.func51,Tryz.ntmps51
 have ta0:Hid True:=trivial
 go_wp2_with (first
  | (clear ta0;with_reducible refine wpSeq_boxW 43 (.tmp 0) [.slice ad n c,.slice ad2 n c2] ?_ ?_ ?_ ?_
     · rfl
     · rfl
     · rfl
     intro g1 y1 nn;have HM:Hid (Blk y1 g1 [.slice ad n c,.slice ad2 n c2] 43):=nn.blk;have HB1:Hid (Below w.heap.size w y1):=nn.below;have HG1:Hid (w.heap.size ≤ g1):=nn.ge;clear nn))
 have HI0:Hid (WhI w m 0 (.slice none 0 0) y1 []):=⟨World.ownsRow_nil _ _ _ _,rfl,fun p hp => (by cases hp),HB1.out⟩
 go_loopw [3,4] (fun v i wr => ∃ (a0:Option Addr) (k c0:Nat),k ≤ n ∧ v = .slice a0 k c0 ∧ i = .int .i64 (k:Int) ∧ Hid (∃ ps,WhI w m k (.slice a0 k c0) wr ps) ∧ Hid (Blk wr g1 [.slice ad n c,.slice ad2 n c2] 43)) (fun _ i _ => n - (intOf i).toNat)
 case atStart => exact ⟨none,0,0,Nat.zero_le _,rfl,rfl,⟨[],HI0.out⟩,HM⟩
 case round =>
  clear HI0 HM HB1
  obtain ⟨a0,k,cc,hkn,rfl,rfl,HW,HM⟩:=hrel
  have c0:wr.cell? ⟨g1,0,none⟩ = some (.slice ad n c):=HM.out.cell 0
  by_cases hlt:k < n
  case neg =>
   obtain rfl:k = n:=by omega
   have hlk:¬ ((k:Int) < (k:Int)):=by omega
   go_wp2;go_ret;obtain ⟨ps,hI⟩:=HW.out;refine ⟨_,rfl,?_,hI.bel⟩;have h3:=rowA_reads hI.row (fun p hp => (hI.dat p hp).below hI.bel)
   rw [hI.ac,List.take_of_length_le (by rw [← HN.out];exact Nat.le_refl _)] at h3
   exact h3
  case pos =>
   obtain ⟨q,hq⟩:∃ q,m[k]? = some q:=⟨_,List.getElem?_eq_getElem (by rw [← HN.out];exact hlt)⟩
   obtain ⟨ky,da⟩:=q;obtain ⟨ps,hI⟩:=HW.out;have hpl:ps.length = k:=hI.len (by rw [← HN.out];exact hkn)
   obtain ⟨bK,oK,eK,cK⟩:∃ b off,ad = some ⟨b,off,none⟩ ∧ w.cell? ⟨b,off + k,none⟩ = some (.string (strB ky)):=by
    obtain ⟨b,off,h1,h2⟩:=HR.out.at15 (k:=k) (by rw [List.length_map,← HN.out];exact hlt)
    refine ⟨b,off,h1,?_⟩;rw [h2,List.getD_eq_getElem?_getD,List.getElem?_map,hq]
    rfl
   obtain ⟨bV,oV,vj,eV,cV,rV⟩:∃ b off vj,ad2 = some ⟨b,off,none⟩ ∧ w.cell? ⟨b,off + k,none⟩ = some vj ∧ Reads w vj da:=by
    obtain ⟨ad3,c3,h1,_,_,h2⟩:=HV.out;simp only [Value.slice.injEq] at h1;obtain ⟨b,off,h3,h4⟩:=h2 (by rw [List.length_map,← HN.out];omega)
    obtain ⟨vj,h5,h6⟩:=h4 k (by rw [List.length_map,← HN.out];exact hlt)
    rw [List.getD_eq_getElem?_getD,List.getElem?_map,hq] at h6;exact ⟨b,off,vj,by rw [h1.1];exact h3,h5,h6⟩
   subst eK;subst eV;obtain ⟨av,nv,cv,hvj⟩:=rV.form;subst hvj;obtain ⟨sk,HSK⟩:=sqn (strB ky);rw [← HSK.out] at cK;have HCK:Hid (∀ wx,Below w.heap.size w wx → wx.cell? ⟨bK,oK + k,none⟩ = some (.string sk) ∧ wx.cell? ⟨bV,oV + k,none⟩ = some (.slice av nv cv)):=fun wx hb => ⟨(World.cell?_of_block (hb.block bK (block_lt_of_cell cK))).trans cK,(World.cell?_of_block (hb.block bV (block_lt_of_cell cV))).trans cV⟩
   have HI:Hid (WhI w m k (.slice a0 k cc) wr.drew ps ∧ ps.length = k):=⟨⟨hI.row.kept (row:=none) ⟨rfl,rfl,rfl,Nat.le_refl _,fun _ _ _ => rfl⟩ (by cases (Value.slice a0 k cc).ownBlock <;> simp),hI.ac,hI.dat,hI.bel.drew⟩,hpl⟩
   have HRV:Hid (Reads w (.slice av nv cv) da):=rV;have HAC:Hid (wholeM (m.take (k + 1)) = wholeM (m.take k) ++ [⟨ky,true,da⟩]):=by show _ = _;rw [List.take_add_one,hq,wholeM,List.map_append];rfl
   have k3:(k:Int) < (n:Int):=by omega
   have f5:IntKind.i64.wrap ((k:Int) + 1) = (k:Int) + 1:=by have:=HL.out;rw [IntKind.wrap_i64];omega
   have HLT:Hid (k < n):=hlt;clear hq hI HW cK cV rV hpl
   go_upto_region 5 with fail
   clear c0;refine wp_region_held_drew (S:=fun wx => Blk wx g1 [.slice (some ⟨bK,oK,none⟩) n c,.slice (some ⟨bV,oV,none⟩) n c2] 43 ∧ Below w.heap.size w wx) (by kernel_rfl) ⟨HM.out.drew,HI.out.1.bel⟩ ?_
   intro hS;refine tkc 0 (.slice a0 k cc) rfl hS ?_;simp only [Act.put,sq];refine tkc 1 (.pointer (some ⟨g1,0,none⟩)) rfl hS ?_;simp only [Act.put,sq];refine tka 2 (.slice (some ⟨bK,oK,none⟩) n c) rfl (fun wx hx => by (have cx:wx.cell? ⟨g1,0,none⟩ = some (.slice (some ⟨bK,oK,none⟩) n c):=hx.1.cell 0;simp [go_sem,cx])) hS ?_
   simp only [Act.put,sq];refine tkc 3 (.int .i64 (k:Int)) rfl hS ?_;simp only [Act.put,sq];refine tka 4 (.pointer (some ⟨bK,oK + k,none⟩)) rfl (fun wx hx => by exact idxS bK oK n c k HLT.out _ _ (.tmp 14) (.tmp 15) rfl rfl rfl _) hS ?_
   simp only [Act.put,sq];refine tka 5 (.string sk) rfl (fun wx hx => by (have cx:=(HCK.out wx hx.2).1;simp [go_sem,cx])) hS ?_
   simp only [Act.put,sq];refine tkc 6 (.pointer (some ⟨g1,1,none⟩)) rfl hS ?_;simp only [Act.put,sq];refine tka 7 (.slice (some ⟨bV,oV,none⟩) n c2) rfl (fun wx hx => by (have cx:wx.cell? ⟨g1,1,none⟩ = some (.slice (some ⟨bV,oV,none⟩) n c2):=hx.1.cell 1;simp [go_sem,cx])) hS ?_
   simp only [Act.put,sq];refine tkc 8 (.int .i64 (k:Int)) rfl hS ?_;simp only [Act.put,sq];refine tka 9 (.pointer (some ⟨bV,oV + k,none⟩)) rfl (fun wx hx => by exact idxT15 bV oV n c2 k HLT.out _ _ (.tmp 19) (.tmp 20) rfl rfl rfl _) hS ?_
   simp only [Act.put,sq];refine tka 10 (.slice av nv cv) rfl (fun wx hx => by (have cx:=(HCK.out wx hx.2).2;simp [go_sem,cx])) hS ?_
   simp only [Act.put,sq];refine tka 11 (.agg [.string sk,.bool true,.slice av nv cv].toArray) rfl (fun wx hx => by exact build_act3 _ _ (.tmp 17) (.tmp 22) sk av nv cv rfl rfl rfl rfl _) hS ?_
   simp only [Act.put,sq];have HS0:Hid (Blk wr.drew g1 [.slice (some ⟨bK,oK,none⟩) n c,.slice (some ⟨bV,oV,none⟩) n c2] 43):=hS.1;obtain ⟨g5,z3,e3,e3w,n3⟩:∃ g y,g = wr.drew.heap.size ∧ y = wr.drew.alloc (.cells [.string sk,.bool true,.slice av nv cv].toArray 62) ∧ NewR [.string sk,.bool true,.slice av nv cv] 62 wr.drew g y:=⟨_,_,rfl,rfl,NewR.of _ _ _⟩;have hS3:Blk z3 g1 [.slice (some ⟨bK,oK,none⟩) n c,.slice (some ⟨bV,oV,none⟩) n c2] 43 ∧ Below w.heap.size w z3:=⟨HS0.out.below n3.below HS0.out.lt,HI.out.1.bel.trans (n3.below.mono HI.out.1.bel.size)⟩;refine wpAnyH_step 12 _ z3 (by kernel_rfl) rfl (by rfl) (by rw [e3w];exact build_a1 _ _ (.tmp 23) sk true av nv cv rfl rfl _) hS3 ?_
   rw [← e3];clear e3 e3w;have HR3:Hid (z3.ownsRow w.heap.size 62 3 (.slice a0 k cc) ps.length (rowP ps)):=HI.out.1.row.kept (row:=none) ⟨n3.below.os,n3.below.tape,n3.below.output,n3.below.size,fun j hj _ => n3.below.block j hj⟩ (by cases (Value.slice a0 k cc).ownBlock <;> simp)
   have HB3:Hid (Blk z3 g5 (actC ⟨ky,true,da⟩ (.slice av nv cv)) 62):=by show Blk _ _ _ _;rw [actC,← HSK.out];exact n3.blk
   have HM3:Hid (Blk z3 g1 [.slice (some ⟨bK,oK,none⟩) n c,.slice (some ⟨bV,oV,none⟩) n c2] 43 ∧ Below w.heap.size w z3):=hS3;clear n3 hS hS3;simp only [Act.put,sq];refine wpAnyH_law 13 (by kernel_rfl) rfl (by rfl) (wp_appendR (.tmp 12) (.tmp 24) w.heap.size (.slice a0 k cc) ps (⟨ky,true,da⟩,.slice av nv cv) g5 av nv cv rfl HR3.out HB3.out (by rw [HI.out.2];have h1:=HL.out;have h2:=HLT.out;omega) HM3.out.2.size rfl rfl rfl ?_)
   intro v4 z4 ho4 hg4;have hlt4:∀ j,(Value.slice a0 k cc).ownBlock = some j → w.heap.size ≤ j ∧ j < z3.heap.size:=World.ownsRow.lt HR3.out;have hb4:Below w.heap.size w z4:=⟨hg4.os.trans HM3.out.2.os,hg4.tape.trans HM3.out.2.tape,hg4.output.trans HM3.out.2.output,Nat.le_trans HM3.out.2.size hg4.size,fun j hj => (hg4.block j (Nat.lt_of_lt_of_le hj HM3.out.2.size) (fun e => by have:=(hlt4 j e.symm).1;omega)).trans (HM3.out.2.block j hj)⟩
   have hm4:Blk z4 g1 [.slice (some ⟨bK,oK,none⟩) n c,.slice (some ⟨bV,oV,none⟩) n c2] 43:=blk_same HM3.out.1 (hg4.block g1 HM3.out.1.lt (fun e => by
    obtain ⟨_,⟨e2,_⟩ | ⟨g2,cap2,cur2,e2,_,hh2,_⟩⟩:=id HR3.out
    · rw [e2] at e;cases e
    · rw [e2] at e
      simp [Value.ownBlock] at e
      rw [← e,HM3.out.1] at hh2;simp only [Option.some.injEq,Obj.cells.injEq] at hh2;exact absurd hh2.2.1 (by decide)))
   refine ⟨⟨hm4,hb4⟩,?_⟩
   obtain ⟨a4,c4,hv4⟩:∃ a c,v4 = .slice a (k + 1) c:=by
    have hl4:(ps ++ [((⟨ky,true,da⟩:ActT),Value.slice av nv cv)]).length = k + 1:=by rw [List.length_append,HI.out.2];rfl
    rw [hl4] at ho4;obtain ⟨_,⟨h,h0⟩ | ⟨g,cap,cur,h,_⟩⟩:=ho4
    · omega
    · exact ⟨_,_,h⟩
   subst hv4
   have HI4:Hid (∃ ps,WhI w m (k + 1) (.slice a4 (k + 1) c4) z4 ps):=⟨_,ho4,by rw [List.map_append,HI.out.1.ac,HAC.out];rfl,fun p hp => by
    rcases List.mem_append.1 hp with hp | hp
    · exact HI.out.1.dat p hp
    · rw [List.mem_singleton.1 hp];exact HRV.out,hb4⟩
   have HM4:Hid (Blk z4 g1 [.slice (some ⟨bK,oK,none⟩) n c,.slice (some ⟨bV,oV,none⟩) n c2] 43):=hm4;clear ho4 hg4 hlt4;simp only [Act.put,sq];refine wpAnyH_take (i:=14) (v:=.slice a4 (k + 1) c4) rfl (by kernel_rfl) (by kernel_rfl) (by kernel_rfl) (fun _ _ _ h => h) (Or.inl ⟨by rfl,fun wx hx => by simp [go_sem]⟩) ⟨hm4,hb4⟩ ?_
   simp only [Act.put,sq];refine wpAnyH_done (by kernel_rfl) ?_ _
   clear hm4 hb4;go_wp2;go_roundw
   case rel => exact ⟨a4,k + 1,c4,HLT.out,rfl,rfl,HI4,HM4⟩
   case measure => simp [intOf];have:=HLT.out;omega
theorem oSame_any (vK vV uK uV:Value) (m m2:KM) (w:World) (hr:ReadsS w vK (m.map (·.1))) (hv:ReadsL w vV (m.map (·.2))) (hr2:ReadsS w uK (m2.map (·.1))) (hv2:ReadsL w uV (m2.map (·.2))) (hl:m.length < 1000000) (hl2:m2.length < 1000000):Calls Tryz.prog 33 #[.agg [vK,vV].toArray,.agg [uK,uV].toArray] w fun e w' => e = .returned (.bool (decide (m = m2))) ∧ Below w.heap.size w w':=by
 have HA:Hid (ReadsS w vK (m.map (·.1)) ∧ ReadsL w vV (m.map (·.2)) ∧ m.length < 1000000):=⟨hr,hv,hl⟩
 have HB:Hid (ReadsS w uK (m2.map (·.1)) ∧ ReadsL w uV (m2.map (·.2)) ∧ m2.length < 1000000):=⟨hr2,hv2,hl2⟩
 have HD:Hid (decide (wholeM m = wholeM m2) = decide (m = m2)):=by
  show _ = _
  by_cases e:m = m2
  · rw [e];simp
  · rw [decide_eq_false e,decide_eq_false (fun h => e (wholeM_inj h))]
 obtain ⟨r,HRR⟩:=sqn (decide (m = m2))
 rw [← HRR.out]
 obtain ⟨ka,na,ca,h1⟩:∃ a n c,vK = .slice a n c:=by obtain ⟨a,c,h⟩:=hr.form;exact ⟨a,_,c,h⟩
 obtain ⟨kb,nb,cb,h2⟩:∃ a n c,uK = .slice a n c:=by obtain ⟨a,c,h⟩:=hr2.form;exact ⟨a,_,c,h⟩
 obtain ⟨va,ma,da,h3⟩:∃ a n c,vV = .slice a n c:=by obtain ⟨a,c,h,_⟩:=hv;exact ⟨a,_,c,h⟩
 obtain ⟨vb,mb,db,h4⟩:∃ a n c,uV = .slice a n c:=by obtain ⟨a,c,h,_⟩:=hv2;exact ⟨a,_,c,h⟩
 subst h1 h2 h3 h4
 clear hr hv hl hr2 hv2 hl2
 go_enter Tryz.func33,Tryz.ntmps33
 obtain ⟨ta0,ta1⟩:=sqk2
 go_upto_region 1 with (first
  | (clear ta0;with_reducible refine wpSeq_boxW 43 (.tmp 0) [.slice ka na ca,.slice va ma da] ?_ ?_ ?_ ?_
     · rfl
     · rfl
     · rfl
     intro g1 y1 nn;have H1:Hid (Blk y1 g1 [.slice ka na ca,.slice va ma da] 43):=nn.blk;have HB1:Hid (Below w.heap.size w y1):=nn.below;clear nn)
  | (clear ta1;with_reducible refine wpSeq_boxW 43 (.tmp 1) [.slice kb nb cb,.slice vb mb db] ?_ ?_ ?_ ?_
     · rfl
     · rfl
     · rfl
     intro g2 y2 nn;have H2:Hid (Blk y2 g2 [.slice kb nb cb,.slice vb mb db] 43):=nn.blk;have HB2:Hid (Below w.heap.size w y2.drew):=(HB1.out.trans (nn.below.mono HB1.out.size)).drew;replace H1:Hid (Blk y2 g1 [.slice ka na ca,.slice va ma da] 43):=H1.out.below nn.below H1.out.lt;clear nn))
 refine wp_region_held_drew (S:=fun wx => Blk wx g1 [.slice ka na ca,.slice va ma da] 43 ∧ Blk wx g2 [.slice kb nb cb,.slice vb mb db] 43) (by kernel_rfl) ⟨H1.out.drew,H2.out.drew⟩ ?_
 intro hS
 refine tka 0 (.agg [.slice ka na ca,.slice va ma da].toArray) rfl (fun wx hx => by exact load_run 43 _ rfl _ _ rfl [.slice ka na ca,.slice va ma da] _ (Blk.range hx.1) Tryz.underlying43 rfl (info_keys _ _)) hS ?_
 simp only [Act.put,sq]
 refine tka 2 (.agg [.slice kb nb cb,.slice vb mb db].toArray) rfl (fun wx hx => by exact load_run 43 _ rfl _ _ rfl [.slice kb nb cb,.slice vb mb db] _ (Blk.range hx.2) Tryz.underlying43 rfl (info_keys _ _)) hS ?_
 simp only [Act.put,sq]
 refine wpAnyH_enter 1 (by kernel_rfl) rfl (by rfl) (f:=51) (args:=#[.agg [.slice ka na ca,.slice va ma da].toArray]) (by simp [go_sem]) (oWhole_any _ _ m _ (HA.out.1.below HB2.out) (HA.out.2.1.below HB2.out) HA.out.2.2) ?_
 rintro e3 y3 ⟨v3,rfl,hr3,bl3⟩
 obtain ⟨a3,n3,c3,hv3⟩:∃ a n c,v3 = .slice a n c:=by obtain ⟨a,c,h⟩:=hr3.form;exact ⟨a,_,c,h⟩
 subst hv3
 replace hS:Blk y3 g1 [.slice ka na ca,.slice va ma da] 43 ∧ Blk y3 g2 [.slice kb nb cb,.slice vb mb db] 43:=⟨hS.1.below bl3 hS.1.lt,hS.2.below bl3 hS.2.lt⟩
 have HB3:Hid (Below w.heap.size w y3):=HB2.out.trans (bl3.mono HB2.out.size)
 have HR3:Hid (ReadsA y3 (.slice a3 n3 c3) (wholeM m)):=hr3
 refine ⟨_,rfl,hS,?_⟩
 simp only [Act.put,sq]
 refine wpAnyH_enter 3 (by kernel_rfl) rfl (by rfl) (f:=51) (args:=#[.agg [.slice kb nb cb,.slice vb mb db].toArray]) (by simp [go_sem]) (oWhole_any _ _ m2 _ (HB.out.1.below HB3.out) (HB.out.2.1.below HB3.out) HB.out.2.2) ?_
 rintro e4 y4 ⟨v4,rfl,hr4,bl4⟩
 obtain ⟨a4,n4,c4,hv4⟩:∃ a n c,v4 = .slice a n c:=by obtain ⟨a,c,h⟩:=hr4.form;exact ⟨a,_,c,h⟩
 subst hv4
 replace hS:Blk y4 g1 [.slice ka na ca,.slice va ma da] 43 ∧ Blk y4 g2 [.slice kb nb cb,.slice vb mb db] 43:=⟨hS.1.below bl4 hS.1.lt,hS.2.below bl4 hS.2.lt⟩
 have HB4:Hid (Below w.heap.size w y4):=HB3.out.trans (bl4.mono HB3.out.size)
 refine ⟨_,rfl,hS,?_⟩
 simp only [Act.put,sq]
 refine wpAnyH_enter 4 (by kernel_rfl) rfl (by rfl) (f:=15) (args:=#[.slice a3 n3 c3,.slice a4 n4 c4]) (by simp [go_sem]) (oSameActs_any _ _ (wholeM m) (wholeM m2) _ (HR3.out.below bl4) hr4 (by rw [show (wholeM m).length = m.length by simp [wholeM]];have:=HA.out.2.2;omega)) ?_
 rintro e5 y5 ⟨rfl,bl5⟩
 replace hS:Blk y5 g1 [.slice ka na ca,.slice va ma da] 43 ∧ Blk y5 g2 [.slice kb nb cb,.slice vb mb db] 43:=⟨hS.1.below bl5 hS.1.lt,hS.2.below bl5 hS.2.lt⟩
 have HB5:Hid (Below w.heap.size w y5):=HB4.out.trans (bl5.mono HB4.out.size)
 refine ⟨_,rfl,hS,?_⟩
 rw [HD.out,← HRR.out]
 simp only [Act.put,sq]
 refine tkc 5 (.bool r) rfl hS ?_
 simp only [Act.put,sq]
 refine wpAnyH_done (by kernel_rfl) ?_ _
 clear hS hr3 hr4 bl3 bl4 bl5
 go_wp2
 go_ret
 exact ⟨rfl,HB5.out⟩
theorem staL_row {P:Nat → Prop} {w:World} {base:Nat} {v u:Value} {b:Bs} (hR:∀ k,P k → k < base) (h:OwnR 23 w base v [u]) (hs:Sta P w (fun W => Reads W u b)):StaL P w v [b]:=by
 have hrd:=h.rd
 obtain ⟨_,⟨rfl,h0⟩ | ⟨g,cap,cur,rfl,hg,hh,hc,hm,hz,ht⟩⟩:=h
 · simp at h0
 · refine ⟨_,cap,rfl,hc,(fun e => by cases e),fun _ => ⟨g,0,rfl,fun hr => by have:=hR g hr;omega,fun j hj => ?_⟩⟩
   match j,hj with
   | 0,_ =>
    obtain ⟨b2,off,e1,e2⟩:=hrd.at (j:=0) (u:=u) rfl
    cases e1
    exact ⟨u,e2,hs⟩
def AeR (R:Nat → Prop) (w:World) (m:KM) (rs:List Bs) (l:List ActT) (n:Nat) (e:Ending) (w':World):Prop:=∃ uK uV ur,e = .returned (.tuple #[.agg [uK,uV].toArray,ur,.int .i64 (apyX m rs l n)]) ∧ KyS R w' uK uV (apyM m rs l n) ∧ StaL R w' ur (apyL m rs l n) ∧ Below w.heap.size w w'
structure AeI (R:Nat → Prop) (w:World) (g4 g8:Nat) (c1 c2 vr:Value) (m:KM) (rs:List Bs) (W:World):Prop where
 b4:Blk W g4 [c1,c2] 43
 b8:Blk W g8 [.slice none 0 0,.slice none 0 0] 43
 ky:KyS (R2 R g8 g8) W c1 c2 m
 re:StaL (R2 R g8 g8) W vr rs
 bel:Below w.heap.size w W
 g8:w.heap.size ≤ g8
theorem AeI.below {R:Nat → Prop} {w:World} {g4 g8:Nat} {c1 c2 vr:Value} {m:KM} {rs:List Bs} {W Y:World} (h:AeI R w g4 g8 c1 c2 vr m rs W) (hb:Below W.heap.size W Y):AeI R w g4 g8 c1 c2 vr m rs Y:=⟨h.b4.below hb h.b4.lt,h.b8.below hb h.b8.lt,h.ky.below hb,h.re.below hb,h.bel.trans (hb.mono h.bel.size),h.g8⟩
theorem ae_ret {R:Nat → Prop} {W Y:World} {g8:Nat} {uK uV ur:Value} {m:KM} {rs:List Bs} (hk:KyS (R2 R g8 g8) W uK uV m) (hr:StaL (R2 R g8 g8) W ur rs) (ho:Only g8 W Y):KyS R Y uK uV m ∧ StaL R Y ur rs:=
 ⟨hk.go (ho.mut (P:=R2 R g8 g8) (Or.inr (Or.inl rfl))) (fun _ _ h => Or.inl h),hr.go (ho.mut (P:=R2 R g8 g8) (Or.inr (Or.inl rfl))) (fun _ _ h => Or.inl h)⟩
theorem stah {R:Nat → Prop} {w w':World} {v:Value} {l:List Bs} (h:Hid (StaL R w v l)) (hb:Below w.heap.size w w'):Hid (StaL R w' v l):=h.out.go (mut_below hb _) (fun _ _ h => h)
theorem sz_anew {m:KM} (h:(batchB (wholeM m)).length < 1000000):sizeL (anewM m) < 1000000000:=by
 unfold anewM
 split
 · decide
 · simp [sizeL,secR]
   omega
theorem oApply_any (R:Nat → Prop) (vK vV vr v:Value) (m:KM) (rs:List Bs) (ps:List (ActT × Value)) (n:Nat) (w:World) (hR:∀ k,R k → k < w.heap.size) (hm:KyS R w vK vV m) (hup:Rise m) (hrs:StaL R w vr rs) (hr:RdP w v ps) (hra:ReadsA w v (ps.map (·.1))) (hd:∀ p ∈ ps,Sta R w (fun W => Reads W p.2 p.1.data)) (hl:m.length + ps.length < 100000) (hz:okZ (ps.map (·.1))) (hn:n < 1000000) (hrl:rs.length < 1000000) (hsz:sizeL (rs ++ [batchB (ps.map (·.1))]) < 1000000000) (hzw:okZ (wholeM (doneM m (ps.map (·.1)))) ∧ (batchB (wholeM (doneM m (ps.map (·.1))))).length < 1000000)  : Calls Tryz.prog 21 #[.agg [vK,vV].toArray,vr,v,.int .i64 (n:Int)] w fun e w' => AeR R w m rs (ps.map (·.1)) n e w':=by
 obtain ⟨l,HL⟩:=sqn (ps.map (·.1))
 rw [← HL.out] at hra hz hsz hzw ⊢
 obtain ⟨N,HN⟩:=sqn (ps.length)
 obtain ⟨ad,cp,hv⟩:=hr.form
 rw [← HN.out] at hv
 subst hv
 obtain ⟨a1,n1,c1,e1⟩:∃ a n c,vK = .slice a n c:=by obtain ⟨a,c,h,_⟩:=hm.k;exact ⟨a,_,c,h⟩
 obtain ⟨a2,n2,c2,e2⟩:∃ a n c,vV = .slice a n c:=by obtain ⟨a,c,h,_⟩:=hm.v;exact ⟨a,_,c,h⟩
 obtain ⟨a3,n3,c3,e3⟩:∃ a n c,vr = .slice a n c:=by obtain ⟨a,c,h,_⟩:=hrs;exact ⟨a,_,c,h⟩
 subst e1
 subst e2
 subst e3
 have HLL:Hid (l.length = N):=by show _ = _;rw [HL.out,List.length_map,HN.out]
 have HA:Hid (ReadsA w (.slice ad N cp) l ∧ okZ l ∧ n < 1000000 ∧ rs.length < 1000000 ∧ sizeL (rs ++ [batchB l]) < 1000000000 ∧ ∀ k,R k → k < w.heap.size):=⟨hra,hz,hn,hrl,hsz,hR⟩
 have HZW:Hid (okZ (wholeM (doneM m l)) ∧ (batchB (wholeM (doneM m l))).length < 1000000 ∧ (doneM m l).length < 1000000):=⟨hzw.1,hzw.2,by have h1:=len_doneM l hup;rw [HLL.out] at h1;have:=HN.out;omega⟩
 have HI0:Hid (∀ g8 W,w.heap.size ≤ g8 → Below w.heap.size w W → KyS (R2 R g8 g8) W (.slice a1 n1 c1) (.slice a2 n2 c2) m ∧ StaL (R2 R g8 g8) W (.slice a3 n3 c3) rs):=fun g8 W hg hb => ⟨hm.go (mut_below hb R) (fun k hk h => h.elim id (fun e => absurd hk (by omega))),hrs.go (mut_below hb R) (fun k hk h => h.elim id (fun e => absurd hk (by omega)))⟩
 have HDN:Hid (∀ g8 W,w.heap.size ≤ g8 → g8 < W.heap.size → Below w.heap.size w W → Calls Tryz.prog 49 #[.agg [.slice a1 n1 c1,.slice a2 n2 c2].toArray,.slice ad N cp] W fun e w' => ∃ q1 q2 q3 q4 q5 q6,e = .returned (.agg [.slice q1 q2 q3,.slice q4 q5 q6].toArray) ∧ KyS (R2 R g8 g8) w' (.slice q1 q2 q3) (.slice q4 q5 q6) (doneM m l) ∧ Below W.heap.size W w'):=fun g8 W hg hlt hb => by
  refine (oDone_any (R2 R g8 g8) _ _ _ m ps W (fun k hk => by
   rcases hk with hk | hk | hk
   · exact Nat.lt_of_lt_of_le (hR k hk) hb.size
   · rw [hk];exact hlt
   · rw [hk];exact hlt) (HI0.out g8 W hg hb).1 hup (hr.below hb) (fun p hp => sta_wide (hd p hp) hb hg hg) hl).mono (fun e w' hx => ?_)
  obtain ⟨uK,uV,h1,h2,h3⟩:=hx
  rw [← HL.out] at h2
  obtain ⟨q1,q3,f1⟩:∃ a c,uK = .slice a ((doneM m l).map (·.1)).length c:=by obtain ⟨a,c,h,_⟩:=h2.k;exact ⟨a,c,h⟩
  obtain ⟨q4,q6,f2⟩:∃ a c,uV = .slice a ((doneM m l).map (·.2)).length c:=by obtain ⟨a,c,h,_⟩:=h2.v;exact ⟨a,c,h⟩
  subst f1
  subst f2
  exact ⟨q1,_,q3,q4,_,q6,h1,h2,h3⟩
 clear hR hm hup hrs hr hra hd hl hz hn hrl hsz hzw
 obtain ⟨ck,HCK2⟩:=sqn (chkL l)
 have HCK:Hid (chkL l = ck):=HCK2.out.symm
 obtain ⟨xa,HXA2⟩:=sqn (apX rs (batchB l) n)
 have HXA:Hid (apX rs (batchB l) n = xa):=HXA2.out.symm
 obtain ⟨cw,HCW2⟩:=sqn (chkL (wholeM (doneM m l)))
 have HCW:Hid (chkL (wholeM (doneM m l)) = cw):=HCW2.out.symm
 obtain ⟨xr,HXR2⟩:=sqn (rsX (anewM (doneM m l)) n)
 have HXR:Hid (rsX (anewM (doneM m l)) n = xr):=HXR2.out.symm
 have hnl:l ≠ [] ↔ ¬ (N:Int) = 0:=by
  have h:=HLL.out
  rw [← List.length_pos_iff]
  omega
 have HS1:Hid ((ck != 0) = true ∨ N = 0 → apyX m rs l n = ck ∧ apyM m rs l n = m ∧ apyL m rs l n = rs):=fun h => by
  have hc:¬ (chkL l = 0 ∧ l ≠ []):=fun hh => by
   rw [HCK.out,hnl] at hh
   rcases h with h | h
   · rw [bne_iff_ne] at h;exact h hh.1
   · exact hh.2 (by omega)
  have hx:apyX m rs l n = ck:=by rw [← HCK.out];exact if_neg hc
  refine ⟨hx,?_,if_neg hc⟩
  unfold apyM
  rw [hx]
  by_cases h0:ck = 0
  · have hl0:l = []:=by
     by_cases e:l = []
     · exact e
     · exact absurd ⟨HCK.out.trans h0,e⟩ hc
    rw [if_pos h0,hl0]
    rfl
  · rw [if_neg h0]
 have HS2:Hid (ck = 0 → ¬ (N:Int) = 0 → xa = 0 → apyX m rs l n = 0 ∧ apyM m rs l n = doneM m l ∧ apyL m rs l n = apL rs (batchB l) n):=fun h1 h2 h3 => by
  have hc:chkL l = 0 ∧ l ≠ []:=⟨HCK.out.trans h1,hnl.2 h2⟩
  have ha:apX rs (batchB l) n = 0:=HXA.out.trans h3
  have hx:apyX m rs l n = 0:=by unfold apyX;rw [if_pos hc,if_pos ha]
  refine ⟨hx,if_pos hx,?_⟩
  unfold apyL apL
  rw [if_pos hc,if_pos ha,if_pos ha]
 have HS3:Hid (ck = 0 → ¬ (N:Int) = 0 → ¬ xa = 0 → cw = 0 → xr = 0 → apyX m rs l n = 0 ∧ apyM m rs l n = doneM m l ∧ apyL m rs l n = rsL [] (anewM (doneM m l)) n):=fun h1 h2 h3 h4 h5 => by
  have hc:chkL l = 0 ∧ l ≠ []:=⟨HCK.out.trans h1,hnl.2 h2⟩
  have ha:¬ apX rs (batchB l) n = 0:=fun e => h3 (HXA.out.symm.trans e)
  have hw:=HCW.out.trans h4
  have hx:=HXR.out.trans h5
  have hy:apyX m rs l n = 0:=by unfold apyX;rw [if_pos hc,if_neg ha,if_pos ⟨hw,hx⟩]
  refine ⟨hy,if_pos hy,?_⟩
  unfold apyL rsL
  rw [if_pos hc,if_neg ha,if_pos ⟨hw,hx⟩,if_pos hx]
 have HS4:Hid (ck = 0 → ¬ (N:Int) = 0 → ¬ xa = 0 → ¬ cw = 0 ∨ ¬ xr = 0 → apyX m rs l n = 13 ∧ apyM m rs l n = m ∧ apyL m rs l n = rs):=fun h1 h2 h3 h4 => by
  have hc:chkL l = 0 ∧ l ≠ []:=⟨HCK.out.trans h1,hnl.2 h2⟩
  have ha:¬ apX rs (batchB l) n = 0:=fun e => h3 (HXA.out.symm.trans e)
  have hn:¬ (chkL (wholeM (doneM m l)) = 0 ∧ rsX (anewM (doneM m l)) n = 0):=fun hh => by
   rw [HCW.out,HXR.out] at hh;exact h4.elim (fun h => h hh.1) (fun h => h hh.2)
  have hy:apyX m rs l n = 13:=by unfold apyX;rw [if_pos hc,if_neg ha,if_neg hn]
  refine ⟨hy,by unfold apyM;rw [hy,if_neg (by decide)],?_⟩
  unfold apyL
  rw [if_pos hc,if_neg ha,if_neg hn]
 have HD1:Hid ((ck = 0 ∧ N = 0) ∨ (ck = 0 ∧ ¬ (N:Int) = 0) ∨ (ck != 0) = true):=by
  by_cases h0:ck = 0
  · by_cases h1:N = 0
    · exact Or.inl ⟨h0,h1⟩
    · exact Or.inr (Or.inl ⟨h0,by omega⟩)
  · exact Or.inr (Or.inr (by rw [bne_iff_ne];exact h0))
 have hnz:∀ x:Int,Hid (x = 0 ∨ ¬ x = 0 ∧ (x == 0) = false ∧ (x != 0) = true):=fun x => by
  by_cases h:x = 0
  · exact Or.inl h
  · exact Or.inr ⟨h,by simpa using h,by rw [bne_iff_ne];exact h⟩
 have HDA:=hnz xa
 have HDC:=hnz cw
 have HDR:=hnz xr
 have HDM:Hid (Hid ((doneM m l).length = 0 ∧ anewM (doneM m l) = []) ∨ Hid (0 < (doneM m l).length ∧ anewM (doneM m l) = [batchB (wholeM (doneM m l))])):=by
  by_cases h:doneM m l = []
  · exact Or.inl ⟨by rw [h];rfl,if_pos h⟩
  · exact Or.inr ⟨List.length_pos_iff.2 h,if_neg h⟩
 have HZS:Hid (sizeL (anewM (doneM m l)) < 1000000000):=sz_anew HZW.out.2.1
 clear hnl hnz
 go_enter Tryz.func21,Tryz.ntmps21
 obtain ⟨tk0,tk1,tk2,tk3,tk4,tk5,tk6,tk7,tk8,tk9,tk10,tk11,tk12,tk13,tk14,tk15⟩:=sqk16
 obtain ⟨tk16,tk17,tk18,tk19,tk20,tk21,tk22⟩:=sqk7
 go_wp2_with (first
  | (clear tk0;with_reducible refine wpSeq_boxW 43 (.tmp 0) [.slice a1 n1 c1,.slice a2 n2 c2] ?_ ?_ ?_ ?_
     · rfl
     · rfl
     · rfl
     intro g4 x1 nn;have H4:Hid (Blk x1 g4 [.slice a1 n1 c1,.slice a2 n2 c2] 43):=nn.blk;have HB:Hid (Below w.heap.size w x1):=nn.below;clear nn)
  | (clear tk1;with_reducible refine wpSeq_allocK ?_ ?_ ?_
     · rfl
     · rfl
     intro g8 x2 nn
     have HI:Hid (AeI R w g4 g8 (.slice a1 n1 c1) (.slice a2 n2 c2) (.slice a3 n3 c3) m rs x2):=by
      have hb:=HB.out.trans (nn.below.mono HB.out.size);have hg:=Nat.le_trans HB.out.size nn.ge;obtain ⟨h1,h2⟩:=HI0.out g8 x2 hg hb;exact ⟨H4.out.below nn.below H4.out.lt,nn.blk,h1,h2,hb,hg⟩
     clear nn HB H4)
  | (clear tk2;go_at_call 14;refine (oCheck_any _ l _ (HA.out.1.below HI.out.bel)).mono ?_;rintro e3 x3 ⟨rfl,bl⟩
     rw [HCK.out];replace HI:Hid (AeI R w g4 g8 (.slice a1 n1 c1) (.slice a2 n2 c2) (.slice a3 n3 c3) m rs x3):=HI.out.below bl;clear bl
     rcases HD1.out with ⟨rfl,rfl⟩ | ⟨rfl,fz⟩ | q1)
  | (clear tk3;with_reducible refine wpSeq_loadW 43 (.tmp 4) g4 0 [.slice a1 n1 c1,.slice a2 n2 c2] _ (Blk.range HI.out.b4) Tryz.underlying43 rfl (info_keys _ _) ?_ ?_ ?_ ?_
     · rfl
     · rfl
     · rfl)
  | (clear tk4;with_reducible refine wpSeq_storeRow 43 (.tmp 8) (.tmp 26) g8 [.slice none 0 0,.slice none 0 0] [.slice a1 n1 c1,.slice a2 n2 c2] HI.out.b8 rfl (info_keys _ _) (one_keys _ _ _ _ _ _) ?_ ?_ ?_ ?_ ?_
     · rfl
     · rfl
     · rfl
     · rfl
     intro y9 sr;have HF:Hid (Blk y9 g8 [.slice a1 n1 c1,.slice a2 n2 c2] 43 ∧ Only g8 x3 y9):=⟨sr.blk,sr.only⟩;clear sr)
  | (clear tk5;go_at_call 49;refine (HDN.out g8 _ HI.out.g8 HI.out.b8.lt HI.out.bel).mono ?_;rintro e4 x4 ⟨q1,q2,q3,q4,q5,q6,rfl,hq4,bl⟩
     have HQ:Hid (KyS (R2 R g8 g8) x4 (.slice q1 q2 q3) (.slice q4 q5 q6) (doneM m l)):=hq4;replace HI:Hid (AeI R w g4 g8 (.slice a1 n1 c1) (.slice a2 n2 c2) (.slice a3 n3 c3) m rs x4):=HI.out.below bl;clear hq4 bl)
  | (clear tk6;with_reducible refine wpSeq_allocK ?_ ?_ ?_
     · rfl
     · rfl
     intro g12 x5 nn;have HB12:Hid (Blk x5 g12 [.slice none 0 0,.slice none 0 0] 43 ∧ x4.heap.size ≤ g12 ∧ Below x4.heap.size x4 x5):=⟨nn.blk,nn.ge,nn.below⟩;clear nn)
  | (clear tk7;with_reducible refine wpSeq_storeRow 43 (.tmp 12) (.tmp 31) g12 [.slice none 0 0,.slice none 0 0] [.slice q1 q2 q3,.slice q4 q5 q6] HB12.out.1 rfl (info_keys _ _) (one_keys _ _ _ _ _ _) ?_ ?_ ?_ ?_ ?_
     · rfl
     · rfl
     · rfl
     · rfl
     intro x6 sr;have bl:Below x4.heap.size x4 x6:=HB12.out.2.2.trans (sr.only.below HB12.out.2.1 HB12.out.2.2.size);have H12:Hid (Blk x6 g12 [.slice q1 q2 q3,.slice q4 q5 q6] 43):=sr.blk;replace HQ:Hid (KyS (R2 R g8 g8) x6 (.slice q1 q2 q3) (.slice q4 q5 q6) (doneM m l)):=HQ.out.below bl;replace HI:Hid (AeI R w g4 g8 (.slice a1 n1 c1) (.slice a2 n2 c2) (.slice a3 n3 c3) m rs x6):=HI.out.below bl;clear sr bl HB12)
  | (clear tk8;go_at_call 18;refine (oBatch_any _ l _ (HA.out.1.below HI.out.bel) HA.out.2.1).mono ?_;rintro e7 x7 ⟨vb,rfl,ow7,bl⟩
     obtain ⟨b1,b2,b3,hvb⟩:=isSl_form ow7.isSl;subst hvb
     have HBT:Hid (Sta (R2 R g8 g8) x7 (fun W => Reads W (.slice b1 b2 b3) (batchB l))):=ow7.st (fun j hj => by
      have h8:=HI.out.b8.lt;have hs:=HI.out.bel.size
      rcases hj with hj | hj | hj
      · have:=HA.out.2.2.2.2.2 j hj;omega
      · omega
      · omega)
     replace H12:Hid (Blk x7 g12 [.slice q1 q2 q3,.slice q4 q5 q6] 43):=H12.out.below bl H12.out.lt;replace HQ:Hid (KyS (R2 R g8 g8) x7 (.slice q1 q2 q3) (.slice q4 q5 q6) (doneM m l)):=HQ.out.below bl;replace HI:Hid (AeI R w g4 g8 (.slice a1 n1 c1) (.slice a2 n2 c2) (.slice a3 n3 c3) m rs x7):=HI.out.below bl;clear ow7 bl)
  | (clear tk9;go_at_call 50;refine (nAppend_st (R2 R g8 g8) _ _ rs (batchB l) n HA.out.2.2.2.1 HA.out.2.2.2.2.1 HA.out.2.2.1 _ (fun j hj => by
      have h8:=HI.out.b8.lt;have hs:=HI.out.bel.size
      rcases hj with hj | hj | hj
      · have:=HA.out.2.2.2.2.2 j hj;omega
      · omega
      · omega) HI.out.re HBT.out).mono ?_;rintro e8 x8 ⟨lv,rfl,hs8,bl⟩
     rw [HXA.out];obtain ⟨s1,s2,s3,hlv⟩:∃ a n c,lv = .slice a n c:=by obtain ⟨a,c,h,_⟩:=hs8;exact ⟨a,_,c,h⟩
     subst hlv;have HS8:Hid (StaL (R2 R g8 g8) x8 (.slice s1 s2 s3) (apL rs (batchB l) n)):=hs8;replace H12:Hid (Blk x8 g12 [.slice q1 q2 q3,.slice q4 q5 q6] 43):=H12.out.below bl H12.out.lt;replace HQ:Hid (KyS (R2 R g8 g8) x8 (.slice q1 q2 q3) (.slice q4 q5 q6) (doneM m l)):=HQ.out.below bl;replace HI:Hid (AeI R w g4 g8 (.slice a1 n1 c1) (.slice a2 n2 c2) (.slice a3 n3 c3) m rs x8):=HI.out.below bl;clear hs8 bl HBT
     rcases HDA.out with rfl | ⟨hq1,hq2,_⟩)
  | (clear tk10;with_reducible refine wpSeq_loadW 43 (.tmp 12) g12 0 [.slice q1 q2 q3,.slice q4 q5 q6] _ (Blk.range H12.out) Tryz.underlying43 rfl (info_keys _ _) ?_ ?_ ?_ ?_
     · rfl
     · rfl
     · rfl)
  | (clear tk11;with_reducible refine wpSeq_storeRow 43 (.tmp 8) (.tmp 42) g8 [.slice none 0 0,.slice none 0 0] [.slice q1 q2 q3,.slice q4 q5 q6] HI.out.b8 rfl (info_keys _ _) (one_keys _ _ _ _ _ _) ?_ ?_ ?_ ?_ ?_
     · rfl
     · rfl
     · rfl
     · rfl
     intro y9 sr;have HF:Hid (Blk y9 g8 [.slice q1 q2 q3,.slice q4 q5 q6] 43 ∧ Only g8 x8 y9):=⟨sr.blk,sr.only⟩;clear sr)
  | (clear tk12;go_at_call 51;refine (oWhole_any _ _ (doneM m l) _ HQ.out.k.now HQ.out.v.now HZW.out.2.2).mono ?_;rintro e9 x9 ⟨va,rfl,hr9,bl⟩
     obtain ⟨w1,w3,hva⟩:=hr9.form;obtain ⟨w2,HW2⟩:=sqn ((wholeM (doneM m l)).length);rw [← HW2.out] at hva;subst hva;have HRA:Hid (ReadsA x9 (.slice w1 w2 w3) (wholeM (doneM m l))):=hr9;have hw2:w2 = (doneM m l).length:=by rw [HW2.out];simp [wholeM]
     replace H12:Hid (Blk x9 g12 [.slice q1 q2 q3,.slice q4 q5 q6] 43):=H12.out.below bl H12.out.lt;replace HQ:Hid (KyS (R2 R g8 g8) x9 (.slice q1 q2 q3) (.slice q4 q5 q6) (doneM m l)):=HQ.out.below bl;replace HI:Hid (AeI R w g4 g8 (.slice a1 n1 c1) (.slice a2 n2 c2) (.slice a3 n3 c3) m rs x9):=HI.out.below bl;clear hr9 bl
     rcases HDM.out with HM2 | HM2
     all_goals (first
      | (have hq5:¬ ((0:Int) < (w2:Int)):=by have:=HM2.out.1;omega
         have HAN:Hid (StaL (R2 R g8 g8) x9 (.slice none 0 0) (anewM (doneM m l))):=by rw [HM2.out.2];exact StaL.nil _ _
         clear hw2)
      | (have hq5:(0:Int) < (w2:Int):=by have:=HM2.out.1;omega
         clear hw2)))
  | (clear tk13;go_at_call 18;refine (oBatch_any _ _ _ HRA.out HZW.out.1).mono ?_;rintro e10 x10 ⟨vw,rfl,ow10,bl⟩
     obtain ⟨o1,o2,o3,hvw⟩:=isSl_form ow10.isSl;subst hvw
     have HBW2:Hid (Sta (R2 R g8 g8) x10 (fun W => Reads W (mkS (o1,o2,o3)) (batchB (wholeM (doneM m l))))):=ow10.st (fun j hj => by
      have h8:=HI.out.b8.lt;have hs:=HI.out.bel.size
      rcases hj with hj | hj | hj
      · have:=HA.out.2.2.2.2.2 j hj;omega
      · omega
      · omega)
     replace HRA:Hid (ReadsA x10 (.slice w1 w2 w3) (wholeM (doneM m l))):=HRA.out.below bl;replace H12:Hid (Blk x10 g12 [.slice q1 q2 q3,.slice q4 q5 q6] 43):=H12.out.below bl H12.out.lt;replace HQ:Hid (KyS (R2 R g8 g8) x10 (.slice q1 q2 q3) (.slice q4 q5 q6) (doneM m l)):=HQ.out.below bl;replace HI:Hid (AeI R w g4 g8 (.slice a1 n1 c1) (.slice a2 n2 c2) (.slice a3 n3 c3) m rs x10):=HI.out.below bl;clear ow10 bl)
  | (clear tk14;with_reducible refine wpSeq_buildTT (.tmp 51) (o1,o2,o3) ?_ ?_ ?_ ?_
     · rfl
     · rfl
     · rfl
     intro g13 x11 nn;have bl:=nn.below;have HB13:Hid (Blk x11 g13 [mkS (o1,o2,o3)] 23):=nn.blk;replace HBW2:Hid (Sta (R2 R g8 g8) x11 (fun W => Reads W (mkS (o1,o2,o3)) (batchB (wholeM (doneM m l))))):=HBW2.out.below bl
     replace HRA:Hid (ReadsA x11 (.slice w1 w2 w3) (wholeM (doneM m l))):=HRA.out.below bl;replace H12:Hid (Blk x11 g12 [.slice q1 q2 q3,.slice q4 q5 q6] 43):=H12.out.below bl H12.out.lt;replace HQ:Hid (KyS (R2 R g8 g8) x11 (.slice q1 q2 q3) (.slice q4 q5 q6) (doneM m l)):=HQ.out.below bl;replace HI:Hid (AeI R w g4 g8 (.slice a1 n1 c1) (.slice a2 n2 c2) (.slice a3 n3 c3) m rs x11):=HI.out.below bl;clear nn bl)
  | (clear tk15;at_builtin;refine wpList_appT15 (.tmp 49) (.tmp 52) x11.heap.size (.slice none 0 0) (o1,o2,o3) [] g13 (OwnR.nil _ _ _) HB13.out (by decide) (Nat.le_refl _) ?_ ?_ ?_ ?_ ?_
     · rfl
     · rfl
     · rfl
     · rfl
     intro v12 x12 hr12 hg12 bl;obtain ⟨r1,r3,hv12⟩:=hr12.form;obtain ⟨r2,hw12⟩:∃ n,v12 = .slice r1 n r3:=⟨_,hv12⟩;clear hv12;subst hw12
     have HAN:Hid (StaL (R2 R g8 g8) x12 (.slice r1 r2 r3) (anewM (doneM m l))):=by
      rw [HM2.out.2]
      exact staL_row (fun j hj => by
       have h8:=HI.out.b8.lt;have hs:=HI.out.bel.size
       rcases hj with hj | hj | hj
       · have:=HA.out.2.2.2.2.2 j hj;omega
       · omega
       · omega) hr12 (HBW2.out.below bl)
     replace HRA:Hid (ReadsA x12 (.slice w1 w2 w3) (wholeM (doneM m l))):=HRA.out.below bl;replace H12:Hid (Blk x12 g12 [.slice q1 q2 q3,.slice q4 q5 q6] 43):=H12.out.below bl H12.out.lt;replace HQ:Hid (KyS (R2 R g8 g8) x12 (.slice q1 q2 q3) (.slice q4 q5 q6) (doneM m l)):=HQ.out.below bl;replace HI:Hid (AeI R w g4 g8 (.slice a1 n1 c1) (.slice a2 n2 c2) (.slice a3 n3 c3) m rs x12):=HI.out.below bl;clear hr12 hg12 bl HBW2 HB13)
  | (clear tk16;go_at_call 14;refine (oCheck_any _ _ _ HRA.out).mono ?_;rintro e13 x13 ⟨rfl,bl⟩
     rw [HCW.out];replace HAN:=stah HAN bl;replace H12:Hid (Blk x13 g12 [.slice q1 q2 q3,.slice q4 q5 q6] 43):=H12.out.below bl H12.out.lt;replace HQ:Hid (KyS (R2 R g8 g8) x13 (.slice q1 q2 q3) (.slice q4 q5 q6) (doneM m l)):=HQ.out.below bl;replace HI:Hid (AeI R w g4 g8 (.slice a1 n1 c1) (.slice a2 n2 c2) (.slice a3 n3 c3) m rs x13):=HI.out.below bl;clear bl
     rcases HDC.out with rfl | ⟨hq6,_,hq7⟩)
  | (clear tk17;with_reducible refine wpSeq_loadW 43 (.tmp 4) g4 0 [.slice a1 n1 c1,.slice a2 n2 c2] _ (Blk.range HI.out.b4) Tryz.underlying43 rfl (info_keys _ _) ?_ ?_ ?_ ?_
     · rfl
     · rfl
     · rfl)
  | (clear tk18;with_reducible refine wpSeq_storeRow 43 (.tmp 8) (.tmp 57) g8 [.slice none 0 0,.slice none 0 0] [.slice a1 n1 c1,.slice a2 n2 c2] HI.out.b8 rfl (info_keys _ _) (one_keys _ _ _ _ _ _) ?_ ?_ ?_ ?_ ?_
     · rfl
     · rfl
     · rfl
     · rfl
     intro y9 sr;have HF:Hid (Blk y9 g8 [.slice a1 n1 c1,.slice a2 n2 c2] 43 ∧ Only g8 x13 y9):=⟨sr.blk,sr.only⟩;clear sr)
  | (clear tk19;go_at_call 52;refine (nRestart_st (R2 R g8 g8) (.slice none 0 0) _ [] (anewM (doneM m l)) n (by unfold anewM;split <;> simp) (fun _ => HZS.out) HA.out.2.2.1 _ (StaL.nil _ _) HAN.out).mono ?_;rintro e14 x14 ⟨lv2,rfl,hs14,hz14⟩
     subst hz14;rw [HXR.out];obtain ⟨t1,t2,t3,hlv2⟩:∃ a n c,lv2 = .slice a n c:=by obtain ⟨a,c,h,_⟩:=hs14;exact ⟨a,_,c,h⟩
     subst hlv2;have HS14:Hid (StaL (R2 R g8 g8) x14 (.slice t1 t2 t3) (rsL [] (anewM (doneM m l)) n)):=hs14;clear hs14
     rcases HDR.out with rfl | ⟨hq8,_,hq9⟩)
  | (clear tk20;with_reducible refine wpSeq_loadW 43 (.tmp 12) g12 0 [.slice q1 q2 q3,.slice q4 q5 q6] _ (Blk.range H12.out) Tryz.underlying43 rfl (info_keys _ _) ?_ ?_ ?_ ?_
     · rfl
     · rfl
     · rfl)
  | (clear tk21;with_reducible refine wpSeq_storeRow 43 (.tmp 8) (.tmp 69) g8 [.slice none 0 0,.slice none 0 0] [.slice q1 q2 q3,.slice q4 q5 q6] HI.out.b8 rfl (info_keys _ _) (one_keys _ _ _ _ _ _) ?_ ?_ ?_ ?_ ?_
     · rfl
     · rfl
     · rfl
     · rfl
     intro y9 sr;have HF:Hid (Blk y9 g8 [.slice q1 q2 q3,.slice q4 q5 q6] 43 ∧ Only g8 x14 y9):=⟨sr.blk,sr.only⟩;clear sr)
  | (clear tk22;with_reducible refine wpSeq_storeRow 43 (.tmp 8) (.tmp 67) g8 [.slice none 0 0,.slice none 0 0] [.slice a1 n1 c1,.slice a2 n2 c2] HI.out.b8 rfl (info_keys _ _) (one_keys _ _ _ _ _ _) ?_ ?_ ?_ ?_ ?_
     · rfl
     · rfl
     · rfl
     · rfl
     intro y9 sr;have HF:Hid (Blk y9 g8 [.slice a1 n1 c1,.slice a2 n2 c2] 43 ∧ Only g8 x14 y9):=⟨sr.blk,sr.only⟩;clear sr))
 all_goals (first
  | (have hb9:Below w.heap.size w y9:=HI.out.bel.trans (HF.out.2.below HI.out.g8 HI.out.bel.size)
     obtain ⟨k9,r9⟩:=ae_ret HI.out.ky HI.out.re HF.out.2;have E:=HS1.out (by first | exact Or.inl q1 | trivial)
     refine bodyPost_ret (results_row_tmp2 rfl _ _ g8 _ rfl (var_keys HF.out.1)) rfl ?_;exact ⟨_,_,(.slice a3 n3 c3),by rw [E.1];rfl,by rw [E.2.1];exact k9,by rw [E.2.2];exact r9,hb9⟩)
  | (have hb9:Below w.heap.size w y9:=HI.out.bel.trans (HF.out.2.below HI.out.g8 HI.out.bel.size)
     obtain ⟨k9,r9⟩:=ae_ret HI.out.ky HI.out.re HF.out.2;have E:=HS1.out (by first | exact Or.inr rfl | trivial)
     refine bodyPost_ret (results_row_tmp2 rfl _ _ g8 _ rfl (var_keys HF.out.1)) rfl ?_;exact ⟨_,_,(.slice a3 n3 c3),by rw [E.1];rfl,by rw [E.2.1];exact k9,by rw [E.2.2];exact r9,hb9⟩)
  | (have hb9:Below w.heap.size w y9:=HI.out.bel.trans (HF.out.2.below HI.out.g8 HI.out.bel.size)
     obtain ⟨k9,r9⟩:=ae_ret HI.out.ky HI.out.re HF.out.2;have E:=HS4.out (by trivial) fz hq1 (Or.inl hq6)
     refine bodyPost_ret (results_row_tmp2 rfl _ _ g8 _ rfl (var_keys HF.out.1)) rfl ?_;exact ⟨_,_,(.slice a3 n3 c3),by rw [E.1];rfl,by rw [E.2.1];exact k9,by rw [E.2.2];exact r9,hb9⟩)
  | (have hb9:Below w.heap.size w y9:=HI.out.bel.trans (HF.out.2.below HI.out.g8 HI.out.bel.size)
     obtain ⟨k9,r9⟩:=ae_ret HI.out.ky HI.out.re HF.out.2;have E:=HS4.out (by trivial) fz hq1 (by first | exact Or.inr hq8 | exact hq8)
     refine bodyPost_ret (results_row_tmp2 rfl _ _ g8 _ rfl (var_keys HF.out.1)) rfl ?_;exact ⟨_,_,(.slice a3 n3 c3),by rw [E.1];rfl,by rw [E.2.1];exact k9,by rw [E.2.2];exact r9,hb9⟩)
  | (have hb9:Below w.heap.size w y9:=HI.out.bel.trans (HF.out.2.below HI.out.g8 HI.out.bel.size)
     obtain ⟨k9,r9⟩:=ae_ret HQ.out HS14.out HF.out.2;have E:=HS3.out (by trivial) fz hq1 (by trivial) (by trivial)
     refine bodyPost_ret (results_row_tmp2 rfl _ _ g8 _ rfl (var_keys HF.out.1)) rfl ?_;exact ⟨_,_,(.slice t1 t2 t3),by rw [E.1];rfl,by rw [E.2.1];exact k9,by rw [E.2.2];exact r9,hb9⟩)
  | (have hb9:Below w.heap.size w y9:=HI.out.bel.trans (HF.out.2.below HI.out.g8 HI.out.bel.size)
     obtain ⟨k9,r9⟩:=ae_ret HQ.out HS8.out HF.out.2;have E:=HS2.out (by trivial) fz (by trivial)
     refine bodyPost_ret (results_row_tmp2 rfl _ _ g8 _ rfl (var_keys HF.out.1)) rfl ?_;exact ⟨_,_,(.slice s1 s2 s3),by rw [E.1];rfl,by rw [E.2.1];exact k9,by rw [E.2.2];exact r9,hb9⟩))
theorem all15_rd {W:World} {gs gm n:Nat} {lv:Value} {V:Bs → Value} {m:KM} (h:StR W gs gm n lv V m) (hml:m.length < 1000000):Calls Tryz.prog 31 #[.pointer (some ⟨gs,0,none⟩)] W fun e w' => ∃ a1 c1 a2 c2 N,e = .returned (.tuple #[.agg [.slice a1 N c1,.slice a2 N c2].toArray,.bool true]) ∧ ReadsS w' (.slice a1 N c1) (m.map (·.1)) ∧ ReadsL w' (.slice a2 N c2) (m.map (·.2)) ∧ Below W.heap.size W w':=by
 refine (all15_any h.sb h.mp h.tx hml).mono (fun e w' hx => ?_)
 obtain ⟨vK,vV,xs,e1,e2,e3,e4⟩:=hx
 obtain ⟨a1,c1,f1⟩:=e3.rk.form
 obtain ⟨a2,c2,f2⟩:=e3.rv.form
 rw [List.length_map] at f1 f2
 have r1:=e3.readsS
 have r2:=e3.readsL
 rw [e2] at r1 r2
 rw [f1] at r1
 rw [f2] at r2
 rw [f1,f2] at e1
 exact ⟨a1,c1,a2,c2,_,e1,r1,r2,e4⟩
theorem oGet_is {w:World} {vK vV:Value} {m:KM} (key:Bs) (hr:ReadsS w vK (m.map (·.1))) (hv:ReadsL w vV (m.map (·.2))) (hup:Rise m) (hl:m.length < 1000000):Calls Tryz.prog 59 #[.agg [vK,vV].toArray,.string (strB key)] w fun e w' => ∃ v,e = .returned (.tuple #[v,.bool (getM m key).isSome]) ∧ Reads w' v ((getM m key).getD []) ∧ Below w.heap.size w w':=by
 refine (oGet_any vK vV _ _ key w hr hv (by simp) (by rw [List.length_map];omega)).mono (fun e w' hx => ?_)
 obtain ⟨hj,hb⟩:=hx
 obtain ⟨v,h1,h2,h3⟩:=hj
 have hg:=getM_pl key hup
 cases hp:plB (m.map (·.1)) key with
 | true =>
  rw [hp,if_pos rfl] at hg
  rw [hp] at h1 h2
  rw [hg]
  exact ⟨v,h1,h2 rfl,hb⟩
 | false =>
  rw [hp,if_neg (by decide)] at hg
  rw [hp] at h1 h3
  rw [hg]
  refine ⟨v,h1,?_,hb⟩
  rw [h3 rfl]
  exact reads_nil13 w'
theorem like15_any {w:World} {gs gm n:Nat} {lv:Value} {V:Bs → Value} {m:KM} (h:StR w gs gm n lv V m) (vK vV:Value) (hk:ReadsS w vK (m.map (·.1))) (hv:ReadsL w vV (m.map (·.2))) (key:Bs) (hky:key.length ≤ 9223372036854775807) (hml:m.length < 1000000):Calls Tryz.prog 26 #[.pointer (some ⟨gs,0,none⟩),.agg [vK,vV].toArray,.string (strB key)] w fun e w' => e = .returned (.bool true) ∧ Below w.heap.size w w':=by
 obtain ⟨N,HN⟩:=sqn (m.length)
 obtain ⟨a1,c1,e1⟩:=hk.form
 rw [List.length_map,← HN.out] at e1
 subst e1
 obtain ⟨a2,c2,e2,_⟩:=id hv
 rw [List.length_map,← HN.out] at e2
 subst e2
 obtain ⟨sk,HSK⟩:=sqn (strB key)
 rw [← HSK.out]
 obtain ⟨bb,HBB⟩:=sqn ((getM m key).isSome)
 obtain ⟨tt,HTT⟩:=sqn ((getM m key).getD [])
 have HQ:Hid (StR w gs gm n lv V m):=h
 have HK1:Hid (ReadsS w (.slice a1 N c1) (m.map (·.1)) ∧ ReadsL w (.slice a2 N c2) (m.map (·.2))):=⟨hk,hv⟩
 have HML:Hid (m.length < 1000000):=hml
 have HGE:Hid (∀ W,StR W gs gm n lv V m → Calls Tryz.prog 32 #[.pointer (some ⟨gs,0,none⟩),.string sk] W fun e w' => ∃ v',e = .returned (.tuple #[v',.bool bb]) ∧ OwnB w' W.heap.size v' tt ∧ Below W.heap.size W w'):=fun W h => by
  rw [HSK.out,HBB.out,HTT.out]
  exact sGet2_any h.sb h.mp h.tx key hky
 have HOG:Hid (∀ W,(ReadsS W (.slice a1 N c1) (m.map (·.1)) ∧ ReadsL W (.slice a2 N c2) (m.map (·.2))) → Calls Tryz.prog 59 #[.agg [.slice a1 N c1,.slice a2 N c2].toArray,.string sk] W fun e w' => ∃ v',e = .returned (.tuple #[v',.bool bb]) ∧ Reads w' v' tt ∧ Below W.heap.size W w'):=fun W hx => by
  rw [HSK.out,HBB.out,HTT.out]
  exact oGet_is key hx.1 hx.2 h.mp.up hml
 have HSM:Hid (∀ W va vb (t:Bs),Reads W va t → Reads W vb t → Calls Tryz.prog 16 #[va,vb] W fun e w' => e = .returned (.bool true) ∧ w' = W):=fun W va vb t h1 h2 => by
  have h3:=same_any va vb t t W h1 h2
  rw [decide_eq_true rfl] at h3
  exact h3
 have HSA:Hid (∀ W a b c d,(ReadsS W a (m.map (·.1)) ∧ ReadsL W b (m.map (·.2))) → (ReadsS W c (m.map (·.1)) ∧ ReadsL W d (m.map (·.2))) → Calls Tryz.prog 33 #[.agg [a,b].toArray,.agg [c,d].toArray] W fun e w' => e = .returned (.bool true) ∧ Below W.heap.size W w'):=fun W a b c d h1 h2 => by
  have h3:=oSame_any a b c d m m W h1.1 h1.2 h2.1 h2.2 hml hml
  rw [decide_eq_true rfl] at h3
  exact h3
 have HLE:Hid (∀ W,StR W gs gm n lv V m → Calls Tryz.prog 36 #[.pointer (some ⟨gs,0,none⟩)] W fun e w' => e = .returned (.int .i64 (N:Int)) ∧ w' = W):=fun W h => by
  rw [HN.out]
  exact sLen_any h.sb h.mp
 clear h hk hv hky hml
 go_enter Tryz.func26,Tryz.ntmps26
 obtain ⟨tk0,tk1,tk2,tk3,tk4,tk5,tk6⟩:=sqk7
 go_upto_region 4 with (first
  | (clear tk0;with_reducible refine wpSeq_boxW 43 (.tmp 1) [.slice a1 N c1,.slice a2 N c2] ?_ ?_ ?_ ?_
     · rfl
     · rfl
     · rfl
     intro g4 x1 nn;have H4:Hid (Blk x1 g4 [.slice a1 N c1,.slice a2 N c2] 43):=nn.blk;replace HK1:Hid (ReadsS x1 (.slice a1 N c1) (m.map (·.1)) ∧ ReadsL x1 (.slice a2 N c2) (m.map (·.2))):=⟨HK1.out.1.below nn.below,HK1.out.2.below nn.below⟩;replace HQ:Hid (StR x1 gs gm n lv V m):=HQ.out.below nn.below;have HB:Hid (Below w.heap.size w x1):=nn.below;clear nn)
  | (clear tk1;go_at_call 31;refine (all15_rd HQ.out HML.out).mono ?_;rintro e2 x2 ⟨a3,c3,a4,c4,M,rfl,rs2,rl2,bl⟩
     have HK2:Hid (ReadsS x2 (.slice a3 M c3) (m.map (·.1)) ∧ ReadsL x2 (.slice a4 M c4) (m.map (·.2))):=⟨rs2,rl2⟩;replace HK1:Hid (ReadsS x2 (.slice a1 N c1) (m.map (·.1)) ∧ ReadsL x2 (.slice a2 N c2) (m.map (·.2))):=⟨HK1.out.1.below bl,HK1.out.2.below bl⟩;replace HQ:Hid (StR x2 gs gm n lv V m):=HQ.out.below bl;replace H4:Hid (Blk x2 g4 [.slice a1 N c1,.slice a2 N c2] 43):=H4.out.below bl H4.out.lt;replace HB:=sqt HB bl;clear rs2 rl2 bl)
  | (clear tk2;with_reducible refine wpSeq_allocK ?_ ?_ ?_
     · rfl
     · rfl
     intro g7 x3 nn;have HB7:Hid (Blk x3 g7 [.slice none 0 0,.slice none 0 0] 43 ∧ x2.heap.size ≤ g7 ∧ Below x2.heap.size x2 x3):=⟨nn.blk,nn.ge,nn.below⟩;clear nn)
  | (clear tk3;with_reducible refine wpSeq_storeRow 43 (.tmp 7) (.tmp 16) g7 [.slice none 0 0,.slice none 0 0] [.slice a3 M c3,.slice a4 M c4] HB7.out.1 rfl (info_keys _ _) (one_keys _ _ _ _ _ _) ?_ ?_ ?_ ?_ ?_
     · rfl
     · rfl
     · rfl
     · rfl
     intro x4 sr;have bl:Below x2.heap.size x2 x4:=HB7.out.2.2.trans (sr.only.below HB7.out.2.1 HB7.out.2.2.size);have H7:Hid (Blk x4 g7 [.slice a3 M c3,.slice a4 M c4] 43):=sr.blk;replace HK1:Hid (ReadsS x4 (.slice a1 N c1) (m.map (·.1)) ∧ ReadsL x4 (.slice a2 N c2) (m.map (·.2))):=⟨HK1.out.1.below bl,HK1.out.2.below bl⟩;replace HK2:Hid (ReadsS x4 (.slice a3 M c3) (m.map (·.1)) ∧ ReadsL x4 (.slice a4 M c4) (m.map (·.2))):=⟨HK2.out.1.below bl,HK2.out.2.below bl⟩;replace HQ:Hid (StR x4 gs gm n lv V m):=HQ.out.below bl;replace H4:Hid (Blk x4 g4 [.slice a1 N c1,.slice a2 N c2] 43):=H4.out.below bl H4.out.lt;replace HB:=sqt HB bl;clear sr bl HB7)
  | (clear tk4;go_at_call 32;refine (HGE.out _ HQ.out).mono ?_;rintro e5 x5 ⟨v5,rfl,ow,bl⟩
     obtain ⟨p1,p2,p3,hv5⟩:=isSl_form ow.isSl;subst hv5;have HO1:Hid (Reads x5 (.slice p1 p2 p3) tt):=ow.reads;replace HK1:Hid (ReadsS x5 (.slice a1 N c1) (m.map (·.1)) ∧ ReadsL x5 (.slice a2 N c2) (m.map (·.2))):=⟨HK1.out.1.below bl,HK1.out.2.below bl⟩;replace HK2:Hid (ReadsS x5 (.slice a3 M c3) (m.map (·.1)) ∧ ReadsL x5 (.slice a4 M c4) (m.map (·.2))):=⟨HK2.out.1.below bl,HK2.out.2.below bl⟩;replace HQ:Hid (StR x5 gs gm n lv V m):=HQ.out.below bl;replace H4:Hid (Blk x5 g4 [.slice a1 N c1,.slice a2 N c2] 43):=H4.out.below bl H4.out.lt;replace H7:Hid (Blk x5 g7 [.slice a3 M c3,.slice a4 M c4] 43):=H7.out.below bl H7.out.lt;replace HB:=sqt HB bl;clear ow bl)
  | (clear tk5;with_reducible refine wpSeq_loadW 43 (.tmp 4) g4 0 [.slice a1 N c1,.slice a2 N c2] _ (Blk.range H4.out) Tryz.underlying43 rfl (info_keys _ _) ?_ ?_ ?_ ?_
     · rfl
     · rfl
     · rfl)
  | (clear tk6;go_at_call 59;refine (HOG.out _ HK1.out).mono ?_;rintro e6 x6 ⟨v6,rfl,hr6,bl⟩
     obtain ⟨r1,r2,r3,hv6⟩:=hr6.form;subst hv6;have HO2:Hid (Reads x6 (.slice r1 r2 r3) tt):=hr6;replace HO1:Hid (Reads x6 (.slice p1 p2 p3) tt):=HO1.out.below bl;replace HK1:Hid (ReadsS x6 (.slice a1 N c1) (m.map (·.1)) ∧ ReadsL x6 (.slice a2 N c2) (m.map (·.2))):=⟨HK1.out.1.below bl,HK1.out.2.below bl⟩;replace HK2:Hid (ReadsS x6 (.slice a3 M c3) (m.map (·.1)) ∧ ReadsL x6 (.slice a4 M c4) (m.map (·.2))):=⟨HK2.out.1.below bl,HK2.out.2.below bl⟩;replace HQ:Hid (StR x6 gs gm n lv V m):=HQ.out.below bl;replace H4:Hid (Blk x6 g4 [.slice a1 N c1,.slice a2 N c2] 43):=H4.out.below bl H4.out.lt;replace H7:Hid (Blk x6 g7 [.slice a3 M c3,.slice a4 M c4] 43):=H7.out.below bl H7.out.lt;replace HB:=sqt HB bl;clear hr6 bl))
 have bld:Below x6.heap.size x6 x6.drew:=(Below.refl _ _).drew
 refine wp_region_held_drew (S:=fun wx => Blk wx g4 [.slice a1 N c1,.slice a2 N c2] 43 ∧ Blk wx g7 [.slice a3 M c3,.slice a4 M c4] 43) (by kernel_rfl) ⟨H4.out.drew,H7.out.drew⟩ ?_
 intro hS
 refine tkc 0 (.bool true) rfl hS ?_
 simp only [Act.put,sq]
 refine tkc 1 (.bool true) rfl hS ?_
 simp only [Act.put,sq]
 refine tkc 2 (.pointer (some ⟨gs,0,none⟩)) rfl hS ?_
 simp only [Act.put,sq]
 refine tkc 4 (.pointer (some ⟨g4,0,none⟩)) rfl hS ?_
 simp only [Act.put,sq]
 refine tka 5 (.slice a1 N c1) rfl (fun wx hx => by (have cx:wx.cell? ⟨g4,0,none⟩ = some (.slice a1 N c1):=hx.1.cell 0;simp [go_sem,cx])) hS ?_
 simp only [Act.put,sq]
 refine tkc 6 (.int .i64 (N:Int)) rfl hS ?_
 simp only [Act.put,sq]
 refine wpAnyH_enter 3 (by kernel_rfl) rfl (by rfl) (f:=36) (args:=#[.pointer (some ⟨gs,0,none⟩)]) (by simp [go_sem]) (HLE.out _ (HQ.out.below bld)) ?_
 rintro e7 x7 ⟨rfl,rfl⟩
 refine ⟨_,rfl,hS,?_⟩
 simp only [Act.put,sq]
 refine tkc 7 (.bool true) rfl hS ?_
 simp only [Act.put,sq]
 refine tkc 8 (.bool true) rfl hS ?_
 simp only [Act.put,sq]
 refine tkc 9 (.bool true) rfl hS ?_
 simp only [Act.put,sq]
 refine tka 10 (.agg [.slice a3 M c3,.slice a4 M c4].toArray) rfl (fun wx hx => by exact load_run 43 _ rfl _ _ rfl [.slice a3 M c3,.slice a4 M c4] _ (Blk.range hx.2) Tryz.underlying43 rfl (info_keys _ _)) hS ?_
 simp only [Act.put,sq]
 refine tka 11 (.agg [.slice a1 N c1,.slice a2 N c2].toArray) rfl (fun wx hx => by exact load_run 43 _ rfl _ _ rfl [.slice a1 N c1,.slice a2 N c2] _ (Blk.range hx.1) Tryz.underlying43 rfl (info_keys _ _)) hS ?_
 simp only [Act.put,sq]
 refine wpAnyH_enter 12 (by kernel_rfl) rfl (by rfl) (f:=33) (args:=#[.agg [.slice a3 M c3,.slice a4 M c4].toArray,.agg [.slice a1 N c1,.slice a2 N c2].toArray]) (by simp [go_sem]) (HSA.out _ _ _ _ _ ⟨HK2.out.1.below bld,HK2.out.2.below bld⟩ ⟨HK1.out.1.below bld,HK1.out.2.below bld⟩) ?_
 rintro e8 x8 ⟨rfl,bl8⟩
 replace hS:Blk x8 g4 [.slice a1 N c1,.slice a2 N c2] 43 ∧ Blk x8 g7 [.slice a3 M c3,.slice a4 M c4] 43:=⟨hS.1.below bl8 hS.1.lt,hS.2.below bl8 hS.2.lt⟩
 have HB8:Hid (Below w.heap.size w x8):=(HB.out.drew).trans (bl8.mono HB.out.drew.size)
 have HP1:Hid (Reads x8 (.slice p1 p2 p3) tt ∧ Reads x8 (.slice r1 r2 r3) tt):=⟨(HO1.out.below bld).below bl8,(HO2.out.below bld).below bl8⟩
 refine ⟨_,rfl,hS,?_⟩
 simp only [Act.put,sq]
 refine tkc 13 (.bool true) rfl hS ?_
 simp only [Act.put,sq]
 refine tkc 14 (.bool true) rfl hS ?_
 simp only [Act.put,sq]
 refine tkc 15 (.bool bb) rfl hS ?_
 simp only [Act.put,sq]
 refine tkc 16 (.bool bb) rfl hS ?_
 simp only [Act.put,sq]
 refine tka 17 (.bool true) rfl (fun wx hx => by cases bb <;> simp [go_sem]) hS ?_
 simp only [Act.put,sq]
 refine tkc 18 (.bool true) rfl hS ?_
 simp only [Act.put,sq]
 refine tkc 19 (.bool true) rfl hS ?_
 simp only [Act.put,sq]
 refine tkc 20 (.slice p1 p2 p3) rfl hS ?_
 simp only [Act.put,sq]
 refine tkc 21 (.slice r1 r2 r3) rfl hS ?_
 simp only [Act.put,sq]
 refine wpAnyH_enter 22 (by kernel_rfl) rfl (by rfl) (f:=16) (args:=#[.slice p1 p2 p3,.slice r1 r2 r3]) (by simp [go_sem]) (HSM.out _ _ _ _ HP1.out.1 HP1.out.2) ?_
 rintro e9 x9 ⟨rfl,rfl⟩
 refine ⟨_,rfl,hS,?_⟩
 simp only [Act.put,sq]
 refine tkc 23 (.bool true) rfl hS ?_
 simp only [Act.put,sq]
 refine tkc 24 (.bool true) rfl hS ?_
 simp only [Act.put,sq]
 refine wpAnyH_done (by kernel_rfl) ?_ _
 clear hS bl8 bld
 go_wp2
 go_ret
 exact ⟨rfl,HB8.out⟩
theorem StP.bounds {m:KM} {D:DkT} {J:JnT} (h:StP m D J) {l:List ActT} (h1:l.length ≤ 60) (h2:sumA l ≤ 20000):okZ l ∧ m.length + l.length < 100000 ∧ J.l.length < 1000000 ∧ sizeL (J.l ++ [batchB l]) < 1000000000 ∧ okZ (wholeM (doneM m l)) ∧ (batchB (wholeM (doneM m l))).length < 1000000:=by
 have h3:=h.small
 have h4:=wtM_len m
 have h5:=h.done h1 h2
 have h6:=h.lg.len (by have:=h.hi;omega)
 have hz:=okZ_light h1 h2
 have hw:∀ a ∈ l,wtA a ≤ 20000:=fun a ha => Nat.le_trans (wt_sum l a ha) h2
 have h7:=encAll_light l (fun a ha => by have h3:=hw a ha;unfold wtA at h3;omega)
 have h8:(batchB l).length ≤ 30000:=by
  have:=enc_len10 l.length (by omega)
  unfold batchB encList
  rw [List.length_append]
  omega
 have h9:sizeL (J.l ++ [batchB l]) < 1000000000:=by
  have e1:=sizeL_eq (J.l ++ [batchB l])
  have e2:=sizeL_eq J.l
  rw [secL_snoc,secR] at e1
  omega
 refine ⟨hz,by omega,by omega,h9,⟨by rw [show (wholeM (doneM m l)).length = (doneM m l).length by simp [wholeM]];omega,by omega,fun a ha => ?_⟩,by omega⟩
 obtain ⟨p,hp,e⟩:=List.mem_map.1 ha
 have h3:=wtM_mem (doneM m l) p hp
 unfold wt1 at h3
 rw [← e]
 show p.2.length ≤ _
 omega
theorem sta_only {R:Nat → Prop} {Y Z:World} {g:Nat} {v:Value} {t:Bs} (h:Sta R Y (fun W => Reads W v t)) (ho:Only g Y Z) (hg:g < Y.heap.size) (hv:v.ownBlock ≠ some g):Sta R Z (fun W => Reads W v t):=fun X hX => by
 obtain ⟨o,hoY⟩:∃ o,Y.heap[g]? = some o:=⟨_,Array.getElem?_eq_getElem hg⟩
 have hgX:g < X.heap.size:=Nat.lt_of_lt_of_le hg (Nat.le_trans ho.size hX.size)
 have hm:Mut R Y (X.putObj g o):=⟨hX.os.trans ho.os,hX.tape.trans ho.tape,hX.output.trans ho.output,by rw [World.putObj_size];exact Nat.le_trans ho.size hX.size,fun k hk hn => by
  by_cases e:k = g
  · rw [e,World.putObj_heap_same hgX,hoY]
  · rw [World.putObj_heap_other e,hX.block k (Nat.lt_of_lt_of_le hk ho.size) hn,ho.block k e hk]⟩
 obtain ⟨ad,cap,e1,e2,e3,e4⟩:=h _ hm
 refine ⟨ad,cap,e1,e2,e3,fun hp => ?_⟩
 obtain ⟨b,off,e5,e6⟩:=e4 hp
 refine ⟨b,off,e5,fun j hj => ?_⟩
 have e7:=e6 j hj
 rw [e1,e5] at hv
 have hb:b ≠ g:=fun e => hv (by rw [← e];rfl)
 rw [World.cell?_of_block (w:=X) (World.putObj_heap_other hb)] at e7
 exact e7
structure GoI (w:World) (gs gd lg gm gk nb gb N:Nat) (vK vV vr:Value) (mr:KM) (rs:List Bs) (n:Nat) (P Q:Nat → Prop) (V:Bs → Value) (m:KM) (D:DkT) (J:JnT) (W:World):Prop where
 st:StM W gs gd lg gm n P Q V m D J
 sp:StP m D J
 sz:sizeD D = N
 ge:J.gen ≤ gb
 nn:n ≤ nb
 um:∀ k,Um P Q gm k → w.heap.size ≤ k
 gu:¬ Um P Q gm gk
 bel:Below w.heap.size w W
 bk:Blk W gk [vK,vV] 43
 kg:w.heap.size ≤ gk
 ky:KyS (R2 (Um P Q gm) gk gk) W vK vV mr
 re:StaL (R2 (Um P Q gm) gk gk) W vr rs
 xx:∀ s t,getM m s = some t → (V s).ownBlock ≠ some gk
theorem GoI.below {w W Y:World} {gs gd lg gm gk nb gb N n:Nat} {vK vV vr:Value} {mr m:KM} {rs:List Bs} {P Q:Nat → Prop} {V:Bs → Value} {D:DkT} {J:JnT} (h:GoI w gs gd lg gm gk nb gb N vK vV vr mr rs n P Q V m D J W) (hb:Below W.heap.size W Y):GoI w gs gd lg gm gk nb gb N vK vV vr mr rs n P Q V m D J Y:=
 ⟨h.st.below hb,h.sp,h.sz,h.ge,h.nn,h.um,h.gu,h.bel.trans (hb.mono h.bel.size),h.bk.below hb h.bk.lt,h.kg,h.ky.below hb,h.re.go (mut_below hb _) (fun _ _ h => h),h.xx⟩
theorem GoI.put {w W Y Z:World} {gs gd lg gm gk nb gb N n:Nat} {vK vV vr uK uV ur:Value} {mr mr' m:KM} {rs rs':List Bs} {P Q:Nat → Prop} {V:Bs → Value} {D:DkT} {J:JnT} (h:GoI w gs gd lg gm gk nb gb N vK vV vr mr rs n P Q V m D J W) (hb:Below W.heap.size W Y) (ho:Only gk Y Z) (hbk:Blk Z gk [uK,uV] 43) (hk:KyS (R2 (Um P Q gm) gk gk) Y uK uV mr') (hr:StaL (R2 (Um P Q gm) gk gk) Y ur rs'):GoI w gs gd lg gm gk nb gb N uK uV ur mr' rs' n P Q V m D J Z:=by
 have h1:=h.below hb
 have hm:Mut (R2 (Um P Q gm) gk gk) Y Z:=ho.mut (Or.inr (Or.inl rfl))
 have hs:StM Z gs gd lg gm n P Q V m D J:=by
  have h2:=h1.st
  have e:∀ k,Um P Q gm k → Z.heap[k]? = Y.heap[k]?:=fun k hk => ho.block k (fun e => h.gu (e ▸ hk)) (h2.ltM k hk)
  refine ⟨h2.sb.only ho (fun e => ?_),⟨h2.pk.dk.same14 (fun k hk => e k (Or.inl (Or.inl hk))),h2.pk.lg.sameS ho.size (fun k hk => e k (Or.inl (Or.inr hk))),h2.pk.ap⟩,h2.mp.same (e gm (Or.inr rfl)),fun s t ht => ⟨sta_only (h2.tx s t ht).1 ho h1.bk.lt (h.xx s t ht),(h2.tx s t ht).2⟩,h2.ns,h2.nm⟩
  have h3:=h2.sb
  have h4:=h1.bk
  unfold Blk at h3 h4
  rw [e,h4] at h3
  simp only [Option.some.injEq,Obj.cells.injEq] at h3
  exact absurd h3.2.1 (by decide)
 exact ⟨hs,h1.sp,h1.sz,h1.ge,h1.nn,h1.um,h1.gu,h1.bel.trans (ho.below h1.kg h1.bel.size),hbk,h1.kg,hk.go hm (fun _ _ h => h),hr.go hm (fun _ _ h => h),h.xx⟩
def BaI (w:World) (v:Value) (l:List ActT) (ps:List (ActT × Value)):Prop:=RdP w v ps ∧ ps.map (·.1) = l ∧ (∀ p ∈ ps,Reads w p.2 p.1.data) ∧ (∀ p ∈ ps,isSl p.2 = true) ∧ ReadsA w v l
theorem go_ref {w W:World} {gs gd lg gm gk nb gb N n:Nat} {vK vV vr:Value} {mr m:KM} {P Q:Nat → Prop} {V:Bs → Value} {D D0:DkT} {J J0:JnT} (h:GoI w gs gd lg gm gk nb gb N vK vV vr mr J0.l n P Q V m D J W) (h0:StP mr D0 J0) {v:Value} {l:List ActT} {ps:List (ActT × Value)} (hp:BaI w v l ps) (h60:l.length ≤ 60) (h2:sumA l ≤ 20000) :
 Calls Tryz.prog 21 #[.agg [vK,vV].toArray,vr,v,.int .i64 (N:Int)] W fun e w' => AeR (R2 (Um P Q gm) gk gk) W mr J0.l l N e w':=by
 obtain ⟨h1,hl,h3,h4,h5⟩:=hp
 have hpl:ps.length = l.length:=by rw [← hl,List.length_map]
 obtain ⟨b1,b2,b3,b4,b5,b6⟩:=h0.bounds h60 h2
 have hlt:=h.bk.lt
 have hc:=oApply_any (R2 (Um P Q gm) gk gk) vK vV vr v mr J0.l ps N W (fun k hk => by
  rcases hk with hk | hk | hk
  · exact h.st.ltM k hk
  · rw [hk];exact hlt
  · rw [hk];exact hlt) h.ky h0.up h.re (h1.below h.bel) (by rw [hl];exact h5.below h.bel) (fun p hp X hm => by
    have hbx:Below w.heap.size w X:=h.bel.trans (hm.below h.bel.size (fun k hk => by
     have:=h.kg
     rcases hk with hk | hk | hk
     · exact h.um k hk
     · omega
     · omega))
    exact (h3 p hp).below hbx) (by omega) (by rw [hl];exact b1) (by have:=h.sz;have:=h.sp.hi;omega) b3 (by rw [hl];exact b4) (by rw [hl];exact ⟨b5,b6⟩)
 rw [hl] at hc
 exact hc
theorem ofM_apy {m:KM} {rs:List Bs} (hu:Rise m) (h:ofM rs = some m) (l:List ActT) (n:Nat):ofM (apyL m rs l n) = some (apyM m rs l n):=by
 by_cases hc:chkL l = 0 ∧ l ≠ []
 case neg =>
  have e1:apyX m rs l n = chkL l:=if_neg hc
  have e2:apyL m rs l n = rs:=if_neg hc
  rw [e2,h,apyM,e1]
  by_cases h0:chkL l = 0
  · have hl:l = []:=by
     by_cases e:l = []
     · exact e
     · exact absurd ⟨h0,e⟩ hc
    rw [if_pos h0,hl]
    rfl
  · rw [if_neg h0]
 by_cases ha:apX rs (batchB l) n = 0
 · have e1:apyX m rs l n = 0:=by rw [apyX,if_pos hc,if_pos ha]
   have e2:apyL m rs l n = rs ++ [batchB l]:=by rw [apyL,if_pos hc,if_pos ha]
   rw [e2,apyM,e1,if_pos rfl,ofM_snoc,h,readB_batch hc.1]
 by_cases hr:chkL (wholeM (doneM m l)) = 0 ∧ rsX (anewM (doneM m l)) n = 0
 · have e1:apyX m rs l n = 0:=by rw [apyX,if_pos hc,if_neg ha,if_pos hr]
   have e2:apyL m rs l n = anewM (doneM m l):=by rw [apyL,if_pos hc,if_neg ha,if_pos hr]
   rw [e2,apyM,e1,if_pos rfl];unfold anewM
   by_cases e:doneM m l = []
   · rw [if_pos e,e]
     rfl
   · rw [if_neg e]
     have h1:ofM ([] ++ [batchB (wholeM (doneM m l))]) = some (doneM [] (wholeM (doneM m l))):=by
      rw [ofM_snoc,ofM_nil];show (match readB (batchB (wholeM (doneM m l))) with | none => none | some a => some (doneM [] a)) = _
      rw [readB_batch hr.1]
     have h2:=done_whole (m:=doneM m l) (n:=[]) (hu.done l);rw [List.nil_append] at h1 h2;rw [h1,h2]
 · have e1:apyX m rs l n = 13:=by rw [apyX,if_pos hc,if_neg ha,if_neg hr]
   have e2:apyL m rs l n = rs:=by rw [apyL,if_pos hc,if_neg ha,if_neg hr]
   rw [e2,h,apyM,e1,if_neg (by decide)]
theorem go_ref2 {w W0 W:World} {gs gd lg gm gk g12 nb gb N n:Nat} {vK vV vr:Value} {mr m:KM} {P Q:Nat → Prop} {V:Bs → Value} {D D0:DkT} {J J0:JnT} (h:GoI w gs gd lg gm gk nb gb N vK vV vr mr J0.l n P Q V m D J W0) (hb:Below W0.heap.size W0 W) (hg:W0.heap.size ≤ g12) (hg2:g12 < W.heap.size) (h0:StP mr D0 J0) {v:Value} {l:List ActT} {ps:List (ActT × Value)} (hp:BaI w v l ps) (h60:l.length ≤ 60) (h2:sumA l ≤ 20000) :
 Calls Tryz.prog 21 #[.agg [vK,vV].toArray,vr,v,.int .i64 (N:Int)] W fun e w' => AeR (R2 (Um P Q gm) gk g12) W mr J0.l l N e w':=by
 obtain ⟨h1,hl,h3,h4,h5⟩:=hp
 have hpl:ps.length = l.length:=by rw [← hl,List.length_map]
 obtain ⟨b1,b2,b3,b4,b5,b6⟩:=h0.bounds h60 h2
 have hW:=h.below hb
 have hlt:=h.bk.lt
 have hR:∀ k,k < W0.heap.size → R2 (Um P Q gm) gk g12 k → R2 (Um P Q gm) gk gk k:=fun k hk hx => by
  rcases hx with hx | hx | hx
  · exact Or.inl hx
  · exact Or.inr (Or.inl hx)
  · omega
 have hc:=oApply_any (R2 (Um P Q gm) gk g12) vK vV vr v mr J0.l ps N W (fun k hk => by
  rcases hk with hk | hk | hk
  · exact hW.st.ltM k hk
  · rw [hk];exact hW.bk.lt
  · rw [hk];exact hg2) (h.ky.go (mut_below hb _) hR) h0.up (h.re.go (mut_below hb _) hR) (h1.below hW.bel) (by rw [hl];exact h5.below hW.bel) (fun p hp X hm => by
    have hbx:Below w.heap.size w X:=hW.bel.trans (hm.below hW.bel.size (fun k hk => by
     have:=h.kg;have:=h.bel.size
     rcases hk with hk | hk | hk
     · exact h.um k hk
     · omega
     · omega))
    exact (h3 p hp).below hbx) (by omega) (by rw [hl];exact b1) (by have:=h.sz;have:=h.sp.hi;omega) b3 (by rw [hl];exact b4) (by rw [hl];exact ⟨b5,b6⟩)
 rw [hl] at hc
 exact hc
structure GoN (w:World) (gs gd lg gm gk g12 nb gb N:Nat) (vK vV vr uK uV ur:Value) (mr:KM) (rs:List Bs) (mr':KM) (rs':List Bs) (n:Nat) (P Q:Nat → Prop) (V:Bs → Value) (m:KM) (D:DkT) (J:JnT) (W:World):Prop where
 go:GoI w gs gd lg gm gk nb gb N vK vV vr mr rs n P Q V m D J W
 ky:KyS (R2 (Um P Q gm) gk gk) W uK uV mr'
 re:StaL (R2 (Um P Q gm) gk gk) W ur rs'
 bl:Blk W g12 [uK,uV] 43
 ge:w.heap.size ≤ g12
 nu:¬ Um P Q gm g12
 nk:gk ≠ g12
theorem go_store2 {w W:World} {gs gd lg gm gk g12 nb gb N n:Nat} {vK vV vr uK uV ur:Value} {mr mr' m:KM} {rs rs':List Bs} {P Q:Nat → Prop} {V:Bs → Value} {D:DkT} {J:JnT} (hN:GoN w gs gd lg gm gk g12 nb gb N vK vV vr uK uV ur mr rs mr' rs' n P Q V m D J W) (hK:KOk w) (hg:gb + 1 < 1000000) (hn:nb + 60 < 10000000) {v:Value} {l:List ActT} {ps:List (ActT × Value)} (hp:BaI w v l ps) (h60:l.length ≤ 60) (h2:sumA l ≤ 20000) :
 Calls Tryz.prog 23 #[.pointer (some ⟨gs,0,none⟩),v] W fun e w' => e = .returned (.int .i64 (apyX m J.l l N)) ∧ ∃ n' P' Q' V' D' J',GoN w gs gd lg gm gk g12 (nb + 60) (gb + 1) N vK vV vr uK uV ur mr rs mr' rs' n' P' Q' V' (apyM m J.l l N) D' J' w' ∧ J'.l = apyL m J.l l N:=by
 obtain ⟨h1,hl,h3,h4,h5⟩:=hp
 have h:=hN.go
 have hpl:ps.length = l.length:=by rw [← hl,List.length_map]
 have hst:Sta (Un P Q) W (fun W => RdP W v ps ∧ (∀ p ∈ ps,Reads W p.2 p.1.data) ∧ ReadsA W v (ps.map (·.1))):=fun X hm => by
  have hbx:Below w.heap.size w X:=h.bel.trans (hm.below h.bel.size (fun k hk => h.um k (Or.inl hk)))
  exact ⟨h1.below hbx,fun p hp => (h3 p hp).below hbx,by rw [hl];exact h5.below hbx⟩
 have hgk:=h.bk.lt
 have hg12:=hN.bl.lt
 have hc:=sApply_any (fun u => u.ownBlock ≠ some gk) h.st (hK.below h.bel hK.lt) h.sp (by have:=h.ge;omega) v ps hst h4 (by omega) (by rw [hl];exact h2) (by have:=h.nn;omega) h.xx (fun _ _ _ _ ho hb e => by have:=ho.own gk e;omega)
 rw [hl,h.sz] at hc
 refine hc.mono (fun e w' hx => ?_)
 obtain ⟨e1,n',P',Q',V',D',J',ap⟩:=hx
 have a1:=ap.st
 have a2:=ap.sp
 have a3:=ap.rs
 have a4:=ap.xx
 rw [h.sz] at a1 a2 a3 a4
 have hu:∀ k,k < W.heap.size → Um P' Q' gm k → Um P Q gm k:=fun k hk hx => hx.elim (fun hx => (ap.gr k hx).elim Or.inl (fun h => absurd h (by omega))) Or.inr
 have hm:Mut (R2 (Um P Q gm) gk gk) W w':=⟨ap.mu.os,ap.mu.tape,ap.mu.output,ap.mu.size,fun k hk hn => ap.mu.block k hk (fun hx => hn (Or.inl hx))⟩
 have hR:∀ k,k < W.heap.size → R2 (Um P' Q' gm) gk gk k → R2 (Um P Q gm) gk gk k:=fun k hk hx => hx.elim (fun hx => Or.inl (hu k hk hx)) Or.inr
 refine ⟨e1,n',P',Q',V',D',J',⟨⟨a1,a2,ap.sz.trans h.sz,by have:=ap.ge;have:=h.ge;omega,by have:=ap.nn;have:=h.nn;omega,fun k hk => ?_,fun hx => h.gu (hu gk hgk hx),h.bel.trans (ap.mu.below h.bel.size h.um),ap.mu.blk h.bk h.gu,h.kg,h.ky.go hm hR,h.re.go hm hR,a4⟩,hN.ky.go hm hR,hN.re.go hm hR,ap.mu.blk hN.bl hN.nu,hN.ge,fun hx => hN.nu (hu g12 hg12 hx),hN.nk⟩,a3⟩
 by_cases hk2:k < W.heap.size
 · exact h.um k (hu k hk2 hk)
 · have:=h.bel.size
   omega
theorem fresh15_any (n:Int) (w:World) (hK:KOk w):Calls Tryz.prog 19 #[.int .i64 n] w fun e w' => ∃ gd gs lg gm P Q,e = .returned (.tuple #[.pointer (some ⟨gd,0,none⟩),.pointer (some ⟨gs,0,none⟩)]) ∧ StM w' gs gd lg gm 0 P Q nilV [] (openD (zeroD (nSec n))) jn0 ∧ Below w.heap.size w w' ∧ (∀ k,Um P Q gm k → w.heap.size ≤ k) ∧ w.heap.size ≤ gs:=by
 obtain ⟨u,HU⟩:=sqn ((n % 18446744073709551616).toNat:Nat)
 obtain ⟨r,HR⟩:=sqn (u % 40:Nat)
 obtain ⟨m,HM⟩:=sqn (nSec n:Nat)
 have hu:=HU.out
 have hr:=HR.out
 have hm:m = 8 + r:=by rw [HM.out,nSec,← hu,← hr]
 have f1:IntKind.u64.wrap n = (u:Int):=by rw [IntKind.wrap_u64];omega
 have f2:(u:Int) % 40 = (r:Int):=by omega
 have f3:IntKind.i64.wrap (r:Int) = (r:Int):=by rw [IntKind.wrap_i64];omega
 have f4:IntKind.i64.wrap (8 + (r:Int)) = (m:Int):=by rw [IntKind.wrap_i64,hm];omega
 have hml:=nSec_le n
 rw [← HM.out] at hml ⊢
 have HNW:Hid (Calls Tryz.prog 35 #[.int .i64 (m:Int)] w fun r w' => ∃ g gs,r = .returned (.tuple #[.pointer (some ⟨g,0,none⟩),.int .i64 0]) ∧ DkM w' g gs (.slice none 0 0) false 0 (zeroD m) ∧ Below w.heap.size w w' ∧ w.heap.size ≤ g ∧ w.heap.size ≤ gs):=dkNew_m w m (by omega) (by omega)
 have HOP:Hid (∀ (W:World) (gd:Nat) (P:Nat → Prop),KOk W → DkIs W gd P (zeroD m) → Calls Tryz.prog 28 #[.pointer (some ⟨gd,0,none⟩)] W fun e w' => ∃ gs lg gm P' Q,e = .returned (.tuple #[.pointer (some ⟨gs,0,none⟩),.int .i64 0]) ∧ StM w' gs gd lg gm 0 P' Q nilV [] (openD (zeroD m)) jn0 ∧ Mut P W w' ∧ Grew W P P' ∧ (∀ k,Q k → W.heap.size ≤ k) ∧ W.heap.size ≤ gs ∧ W.heap.size ≤ gm):=fun W gd P hk hd => sOpen_zero m hk hd hml.1 (Nat.le_trans hml.2 (by decide))
 have HK0:Hid (KOk w):=hK
 clear hu hr hm hml hK
 go_enter Tryz.func19,Tryz.ntmps19
 obtain ⟨tk0,tk1⟩:=sqk2
 go_wp2_with (first
  | (clear tk0;go_at_call 35;refine (HNW.out).mono ?_;rintro e0 y1 ⟨gd,gs0,rfl,hm,hb,hg1,hg2⟩
     have HDK:Hid (DkIs y1 gd (dkP gd gs0 (.slice none 0 0)) (zeroD m)):=⟨gs0,_,_,_,hm,rfl⟩
     have HPW:Hid (∀ k,dkP gd gs0 (.slice none 0 0) k → w.heap.size ≤ k):=fun k hk => by
      rcases hk with rfl | rfl | hk
      · exact hg1
      · exact hg2
      · cases hk
     have HBW:Hid (Below w.heap.size w y1):=hb;clear hm hb hg1 hg2 HNW)
  | (clear tk1;go_at_call 28;refine (HOP.out _ _ _ (HK0.out.below HBW.out HK0.out.lt) HDK.out).mono ?_;rintro e0 y2 ⟨gs,lg,gm,P2,Q2,rfl,hs2,hm2,hg2,hq2,hgs,hgm⟩
     have HS:Hid (StM y2 gs gd lg gm 0 P2 Q2 nilV [] (openD (zeroD m)) jn0):=hs2
     have HUN:Hid ((∀ k,Um P2 Q2 gm k → w.heap.size ≤ k) ∧ w.heap.size ≤ gs):=⟨fun k hk => by
      rcases hk with (h | h) | rfl
      · exact (hg2 k h).elim (HPW.out k) (fun h => Nat.le_trans HBW.out.size h)
      · exact Nat.le_trans HBW.out.size (hq2 k h)
      · exact Nat.le_trans HBW.out.size hgm,Nat.le_trans HBW.out.size hgs⟩
     replace HBW:Hid (Below w.heap.size w y2):=HBW.out.trans (hm2.below HBW.out.size HPW.out);clear hs2 hm2 hg2 hq2 hgs hgm HOP HDK HPW))
 refine bodyPost_ret (results_tmp2 rfl _ _ _) rfl ?_
 exact ⟨gd,gs,lg,gm,P2,Q2,rfl,HS.out,HBW.out,HUN.out.1,HUN.out.2⟩
end Go.Proofs.YtheincjkoefalaaGreatDoor
namespace Go.Proofs.YtheincjkoefalaaGreatDoor
open Go.RowKit Go.Shelf
attribute [local go_sem] Oper.semAt_some
theorem spN (n:Int):StP [] (openD (zeroD (nSec n))) jn0 ∧ sizeD (openD (zeroD (nSec n))) = nSec n:=by
 have h:=nSec_le n
 obtain ⟨_,_,h3,h4⟩:=open_zero (m:=nSec n) h.1 (Nat.le_trans h.2 (by decide))
 exact ⟨⟨h3,by rw [h4];exact h.1,by rw [h4];exact h.2,by decide,List.Pairwise.nil,Nat.le_refl _⟩,h4⟩
theorem aa_form {w:World} {v:Value} {ls:List (List ActT)} (h:ReadsAA w v ls):∃ ad c,v = .slice ad ls.length c:=by
 obtain ⟨ad,c,e,_⟩:=h
 exact ⟨ad,c,e⟩
theorem ba_at {w:World} {ad:Option Addr} {n c:Nat} {ls:List (List ActT)} (h:ReadsAA w (.slice ad n c) ls) {j:Nat} (hj:j < ls.length):∃ b off aa an ac ps,ad = some ⟨b,off,none⟩ ∧ w.cell? ⟨b,off + j,none⟩ = some (.slice aa an ac) ∧ BaI w (.slice aa an ac) (ls.getD j []) ps:=by
 obtain ⟨b,off,va,e1,e2,e3⟩:=h.at hj
 obtain ⟨aa,ac,e4⟩:=e3.form
 subst e4
 obtain ⟨ps,h1,h2,h3,h4⟩:=acts_rdp e3
 exact ⟨b,off,aa,_,ac,ps,e1,e2,h1,h2,h3,h4,e3⟩
theorem idxAA (b off n c k:Nat) (hk:k < n) (f:Operand → Value) (o:Oper) (x y:Operand) (ho:o.op = .indexAddr 34 x y) (hx:f x = .slice (some ⟨b,off,none⟩) n c) (hy:f y = .int .i64 (k:Int)) (w:World) :
 (execOp f o).run Tryz.prog w = .ok (.value (.pointer (some ⟨b,off + k,none⟩))) w:=by
 have k0:(0:Int) ≤ (k:Int):=by omega
 have k1:(k:Int) < (n:Int):=by omega
 have hs:(sizeOf 22).run Tryz.prog w = .ok 1 w:=by kernel_rfl
 unfold execOp
 rw [ho]
 simp [go_sem,hx,hy,k0,k1,Addr.add_mid,hs]
theorem wpSeq_idxAA {ops:Array Oper} {Q:Exit → Act → World → Prop} {rest:List Oper} {o:Oper} {a:Act} {w:World} (x y:Operand) (b off n c k:Nat) (hk:k < n) (ho:o.op = .indexAddr 34 x y) (hx:a.eval x = .slice (some ⟨b,off,none⟩) n c) (hy:a.eval y = .int .i64 (k:Int)) (hw:Region.wanted o (yielded ops a.tmps) = true)
 (h:wpList Tryz.prog ops Q rest (a.put o.dst (.pointer (some ⟨b,off + k,none⟩))) w):wpList Tryz.prog ops Q (o :: rest) a w:=
 wpSeq_val _ _ hw (idxAA b off n c k hk _ o x y ho hx hy w) h
theorem GoI.begin {w W Y:World} {gs gd lg gm gk N:Nat} {P Q:Nat → Prop} {D:DkT} (hs:StM W gs gd lg gm 0 P Q nilV [] D jn0) (hp:StP [] D jn0 ∧ sizeD D = N) (hu:∀ k,Um P Q gm k → w.heap.size ≤ k) (hb:Below w.heap.size w W) (hk:Blk Y gk [.slice none 0 0,.slice none 0 0] 43) (hg:W.heap.size ≤ gk) (hy:Below W.heap.size W Y):GoI w gs gd lg gm gk 0 1 N (.slice none 0 0) (.slice none 0 0) (.slice none 0 0) [] [] 0 P Q nilV [] D jn0 Y:=
 ⟨hs.below hy,hp.1,hp.2,Nat.le_refl _,Nat.le_refl _,hu,fun h => by have:=hs.ltM gk h;omega,hb.trans (hy.mono hb.size),hk,Nat.le_trans hb.size hg,KyS.nil _ _,StaL.nil _ _,fun s t h => by cases h⟩
theorem wpSeq_idxT15 {ops:Array Oper} {Q:Exit → Act → World → Prop} {rest:List Oper} {o:Oper} {a:Act} {w:World} (x y:Operand) (b off n c k:Nat) (hk:k < n) (ho:o.op = .indexAddr 41 x y) (hx:a.eval x = .slice (some ⟨b,off,none⟩) n c) (hy:a.eval y = .int .i64 (k:Int)) (hw:Region.wanted o (yielded ops a.tmps) = true)
 (h:wpList Tryz.prog ops Q rest (a.put o.dst (.pointer (some ⟨b,off + k,none⟩))) w):wpList Tryz.prog ops Q (o :: rest) a w:=
 wpSeq_val _ _ hw (idxT15 b off n c k hk _ o x y ho hx hy w) h
end Go.Proofs.YtheincjkoefalaaGreatDoor
namespace Go.Proofs.YtheincjkoefalaaGreatDoor
open Go.RowKit
theorem encA_ln15:∀ (l:List ActT),l.length ≤ (encAll encA l).length
 | [] => Nat.le_refl _
 | a :: l => by
  have ih:=encA_ln15 l
  have h1:=encNum_ge1 a.key.length
  have h2:(encNum a.key.length).length ≤ (encA a).length:=by
   unfold encA encText;rw [List.append_assoc,List.length_append];exact Nat.le_add_right _ _
  have h3:(encAll encA (a :: l)).length = (encA a).length + (encAll encA l).length:=by rw [encAll_cons,List.length_append]
  rw [h3,List.length_cons]
  omega
theorem batch_len (l:List ActT):l.length ≤ (batchB l).length:=by
 have h:=encA_ln15 l
 unfold batchB encList
 rw [List.length_append]
 omega
theorem sumB_le (l:List Bs) (k:Nat):sumB (l.take k) ≤ sumB l:=by
 have h:sumB l = sumB (l.take k) + sumB (l.drop k):=by
  conv => lhs;rw [← List.take_append_drop k l]
  unfold sumB
  rw [List.map_append,List.sum_append]
 omega
theorem ofM_take {l:List Bs} {k:Nat} (h:k < l.length):ofM (l.take (k + 1)) = (match ofM (l.take k) with | none => none | some m => match readB (l.getD k []) with | none => none | some a => some (doneM m a)):=by
 rw [List.take_add_one,List.getElem?_eq_getElem h,List.getD_eq_getElem?_getD,List.getElem?_eq_getElem h]
 exact ofM_snoc _ _
theorem readB_small {b:Bs} {l:List ActT} (h:readB b = some l):∀ a ∈ l,a.key.length ≤ 1000000 ∧ a.data.length ≤ 1048576:=fun a ha => by
 obtain ⟨h1,h2⟩:=chkL_ok.1 ((readB_iff _ _).1 h).1
 have h3:=okA_sz (goodF_mem l [] h2 a ha).1
 omega
def LdR (w:World) (gm:Nat):Nat → Prop:=fun k => k < w.heap.size ∨ k = gm
structure LdI (w:World) (gm:Nat) (rs:List Bs) (lv:Value) (k n:Nat) (V:Bs → Value) (m:KM) (W:World):Prop where
 mp:MapM W gm n V m
 nn:n ≤ sumB (rs.take k)
 tx:∀ s t,getM m s = some t → Sta (LdR w gm) W (fun X => Reads X (V s) t) ∧ t.length ≤ 1048576
 bel:Below w.heap.size w W
 rd:Sta (fun j => j = gm) W (fun X => ReadsL X lv rs)
 of:ofM (rs.take k) = some m
theorem LdI.below {w W Y:World} {gm:Nat} {rs:List Bs} {lv:Value} {k n:Nat} {V:Bs → Value} {m:KM} (h:LdI w gm rs lv k n V m W) (hb:Below W.heap.size W Y):LdI w gm rs lv k n V m Y:=
 ⟨h.mp.same (hb.block gm h.mp.lt),h.nn,fun s t ht => ⟨(h.tx s t ht).1.below hb,(h.tx s t ht).2⟩,h.bel.trans (hb.mono h.bel.size),h.rd.below hb,h.of⟩
theorem readsL_map {W:World} {gm n:Nat} {V:Bs → Value} {m:KM} {lv:Value} {rs:List Bs} (h:ReadsL W lv rs) (hm:MapM W gm n V m):Sta (fun j => j = gm) W (fun X => ReadsL X lv rs):=fun X hX => by
 obtain ⟨ad,cap,e1,e2,e3,e4⟩:=h
 refine ⟨ad,cap,e1,e2,e3,fun hp => ?_⟩
 obtain ⟨b,off,e5,e6⟩:=e4 hp
 refine ⟨b,off,e5,fun j hj => ?_⟩
 obtain ⟨vj,e7,e8⟩:=e6 j hj
 have nb:∀ {a:Addr} {u:Value},W.cell? a = some u → X.cell? a = some u:=fun {a u} hc => by
  rw [World.cell?_of_block (w:=W) (hX.block a.block (block_lt_of_cell hc) (fun e => hm.neC hc e))]
  exact hc
 refine ⟨vj,nb e7,?_⟩
 obtain ⟨a2,c2,f1,f2,f3,f4⟩:=e8
 refine ⟨a2,c2,f1,f2,f3,fun hp2 => ?_⟩
 obtain ⟨b2,o2,f5,f6⟩:=f4 hp2
 exact ⟨b2,o2,f5,fun i hi => nb (f6 i hi)⟩
theorem LdI.step {w W Y:World} {gm:Nat} {rs:List Bs} {lv:Value} {k n:Nat} {V V':Bs → Value} {m:KM} {ps:List (ActT × Value)} (h:LdI w gm rs lv k n V m W) (hk:k < rs.length) (hb:readB (rs.getD k []) = some (ps.map (·.1))) (hd:DoS W gm (n + ps.length) (fun v t => Sta (LdR w gm) W (fun X => Reads X v t) ∧ t.length ≤ 1048576) (doneM m (ps.map (·.1))) V' Y) (hg:w.heap.size ≤ gm):LdI w gm rs lv (k + 1) (n + ps.length) V' (doneM m (ps.map (·.1))) Y:=by
 obtain ⟨hc,he⟩:=(readB_iff _ _).1 hb
 refine ⟨hd.mp,?_,fun s t ht => ?_,?_,h.rd.go hd.mu (fun _ _ e => e),?_⟩
 · rw [sumB_take hk,he]
   have h1:=h.nn;have h2:=batch_len (ps.map (·.1));rw [List.length_map] at h2;omega
 · have h1:=hd.kk s t ht
   exact ⟨h1.1.go ⟨hd.mu.os,hd.mu.tape,hd.mu.output,hd.mu.size,fun j hj hn => hd.mu.block j hj (fun e => hn (Or.inr e))⟩ (fun _ _ e => e),h1.2⟩
 · exact h.bel.trans (hd.mu.below h.bel.size (fun j e => by rw [e];exact hg))
 · rw [ofM_take hk,h.of,hb]
theorem LdI.todo {w W:World} {gm base:Nat} {rs:List Bs} {lv va:Value} {k n:Nat} {V:Bs → Value} {m:KM} {ps:List (ActT × Value)} (h:LdI w gm rs lv k n V m W) (hb:readB (rs.getD k []) = some (ps.map (·.1))) (ow:OwnA W base va ps) (hb1:w.heap.size ≤ base) (hb2:gm < base) (hs:sumB rs < 1000000):Calls Tryz.prog 54 #[.map (some gm),va] W fun e w' => e = .returned (.tuple #[]) ∧ ∃ V',DoS W gm (n + ps.length) (fun v t => Sta (LdR w gm) W (fun X => Reads X v t) ∧ t.length ≤ 1048576) (doneM m (ps.map (·.1))) V' w':=by
 have hz:=readB_small hb
 refine sDo_any (fun v t => Sta (LdR w gm) W (fun X => Reads X v t) ∧ t.length ≤ 1048576) h.mp h.tx va ps ow.rdp (fun p hp => ?_) ?_
 · have h1:=hz p.1 (List.mem_map_of_mem hp)
   exact ⟨h1.1,(ow.dat p hp).isSl,fun _ => ⟨(ow.dat p hp).st (fun j hj => hj.elim (fun hj => Nat.lt_of_lt_of_le hj hb1) (fun e => by rw [e];exact hb2)),h1.2⟩⟩
 · have h1:=h.nn
   have h2:=sumB_le rs k;obtain ⟨hc,he⟩:=(readB_iff _ _).1 hb;have h3:=(chkL_ok.1 hc).1;rw [List.length_map] at h3;omega
def LdA (w:World) (rs:List Bs) (e:Ending) (w':World):Prop:=
 Below w.heap.size w w' ∧ ((∃ gm n V m,ofM rs = some m ∧ e = .returned (.tuple #[.map (some gm),.bool true]) ∧ MapM w' gm n V m ∧ n ≤ sumB rs ∧ (∀ s t,getM m s = some t → Sta (LdR w gm) w' (fun X => Reads X (V s) t) ∧ t.length ≤ 1048576) ∧ w.heap.size ≤ gm) ∨ (ofM rs = none ∧ e = .returned (.tuple #[.map none,.bool false])))
theorem sLoad_any {w:World} {gd:Nat} {P:Nat → Prop} {D:DkT} (hK:KOk w) (hd:DkIs w gd P D) (hw:D.wait.length ≤ 200) (hl:(dumpD D).length < 8000000) (hs:sumB (rdL14 (dumpD D)) < 1000000) (hn:(rdL14 (dumpD D)).length < 1000000) :
 Calls Tryz.prog 61 #[.pointer (some ⟨gd,0,none⟩)] w fun e w' => LdA w (rdL14 (dumpD D)) e w':=by
 have HD:Hid (DkIs w gd P D ∧ D.wait.length ≤ 200 ∧ (dumpD D).length < 8000000 ∧ KOk w):=⟨hd,hw,hl,hK⟩
 obtain ⟨rs,HRS⟩:=sqn (rdL14 (dumpD D))
 rw [← HRS.out] at hs hn ⊢
 have HSB:Hid (sumB rs < 1000000 ∧ rs.length < 1000000):=⟨hs,hn⟩
 obtain ⟨N,HN⟩:=sqn (rs.length)
 clear hd hw hl hK hs hn
 obtain ⟨gn,HGN⟩:=sqn ((rdG14 (dumpD D):Int))
 obtain ⟨xn,HXN⟩:=sqn (rdX14 (dumpD D))
 go_enter Tryz.func61,Tryz.ntmps61
 obtain ⟨tk0,tk1,tk2⟩:=sqk3
 go_wp2_with (first
  | (clear tk0;with_reducible refine wpSeq_mkMap nilV ?_ ?_ ?_
     · rfl
     · rfl
     intro gm y0 hg0 hm0 bl0;have HM:Hid (MapM y0 gm 0 nilV []):=hm0;have HB:Hid (Below w.heap.size w y0 ∧ w.heap.size ≤ gm):=⟨bl0,hg0⟩;clear hg0 hm0 bl0)
  | (clear tk1;go_at_call 25;refine (dkDump_b (HD.out.1.belowS HB.out.1) HD.out.2.1).mono ?_;rintro e1 y1 ⟨vd,rfl,hr1,bl1⟩
     have HR1:Hid (Reads y1 vd (dumpD D)):=hr1;replace HM:Hid (MapM y1 gm 0 nilV []):=HM.out.same (bl1.block gm HM.out.lt);replace HB:Hid (Below w.heap.size w y1 ∧ w.heap.size ≤ gm):=⟨HB.out.1.trans (bl1.mono HB.out.1.size),HB.out.2⟩;clear hr1 bl1)
  | (clear tk2;go_at_call 86;refine (jRead_any vd (dumpD D) HD.out.2.2.1 y1 (HD.out.2.2.2.below HB.out.1 HD.out.2.2.2.lt) HR1.out).mono ?_;rintro e2 y2 ⟨lv,rfl,hl2,bl2⟩
     rw [← HRS.out] at hl2;have HLV:Hid (ReadsL y2 lv rs):=hl2;obtain ⟨al,cl,hlv⟩:∃ a c,lv = .slice a N c:=by obtain ⟨a,c,h,_⟩:=hl2;rw [HN.out];exact ⟨a,c,h⟩
     subst hlv;rw [← HGN.out,← HXN.out];replace HM:Hid (MapM y2 gm 0 nilV []):=HM.out.same (bl2.block gm HM.out.lt);replace HB:Hid (Below w.heap.size w y2 ∧ w.heap.size ≤ gm):=⟨HB.out.1.trans (bl2.mono HB.out.1.size),HB.out.2⟩;clear hl2 bl2 HR1))
 have HI0:Hid (LdI w gm rs (.slice al N cl) 0 0 nilV [] y2):=⟨HM.out,Nat.zero_le _,(fun s t h => by cases h),HB.out.1,readsL_map HLV.out HM.out,rfl⟩
 have HG:Hid (w.heap.size ≤ gm):=HB.out.2
 clear HM HB HLV HD
 go_loopw [25] (fun i wr => ∃ (k n:Nat) (V:Bs → Value) (m:KM),k ≤ N ∧ i = .int .i64 (k:Int) ∧ Hid (LdI w gm rs (.slice al N cl) k n V m wr)) (fun i _ => N - (intOf i).toNat)
 case atStart => exact ⟨0,0,nilV,[],Nat.zero_le _,rfl,HI0⟩
 case round =>
  clear HI0
  obtain ⟨k,n,V,m,hk,rfl,HI⟩:=hrel
  by_cases hlt:k < N
  case neg =>
   obtain rfl:k = N:=by omega
   have hlk:¬ ((k:Int) < (k:Int)):=by omega
   go_wp2;refine bodyPost_ret (results_tmp2 rfl _ _ _) rfl ?_;have h:=HI.out;have e:rs.take k = rs:=List.take_of_length_le (by rw [← HN.out];exact Nat.le_refl _)
   have h1:=h.of;have h2:=h.nn;rw [e] at h1 h2;exact ⟨h.bel,Or.inl ⟨gm,n,V,m,h1,rfl,h.mp,h2,h.tx,HG.out⟩⟩
  case pos =>
   have hlk:(k:Int) < (N:Int):=by omega
   have HLT:Hid (k < N ∧ k < rs.length):=⟨hlt,by rw [← HN.out];exact hlt⟩
   have f1:IntKind.i64.wrap ((k:Int) + 1) = (k:Int) + 1:=by rw [IntKind.wrap_i64];have:=HSB.out.2;have:=HN.out;omega
   obtain ⟨b,off,vj,eb,c0,hrj⟩:=HI.out.rd.now.atJ HLT.out.2;subst eb;obtain ⟨av,nv,cv,hvj⟩:∃ a n c,vj = .slice a n c:=by obtain ⟨a,c,h,_⟩:=hrj;exact ⟨a,_,c,h⟩
   subst hvj;obtain ⟨bb,HBB⟩:=sqn (rs.getD k []);rw [← HBB.out] at hrj;have HRJ:Hid (Reads wr (.slice av nv cv) bb):=hrj;clear hrj hk;obtain ⟨ta0,ta1,ta2⟩:=sqk3
   go_wp2_with (first
    | (clear ta0;with_reducible refine wpSeq_idxT15 (.tmp 23) (.tmp 25) b off N cl k HLT.out.1 ?_ ?_ ?_ ?_ ?_
       · rfl
       · rfl
       · rfl
       · rfl)
    | (clear ta1;go_at_call 12;refine (sReadBatch_any _ bb wr HRJ.out).mono ?_;rintro e3 y3 ⟨bl3,⟨va,ps,hp3,rfl,ow3⟩ | ⟨hn3,rfl⟩⟩
       all_goals (first
        | (obtain ⟨a3,c3,hv3⟩:=ow3.form
           obtain ⟨M,HM3⟩:=sqn (ps.length);rw [← HM3.out] at hv3;subst hv3;have HI3:Hid (LdI w gm rs (.slice (some ⟨b,off,none⟩) N cl) k n V m y3):=HI.out.below bl3;have HP3:Hid (readB bb = some (ps.map (·.1)) ∧ OwnA y3 wr.heap.size (.slice a3 M c3) ps ∧ gm < wr.heap.size ∧ w.heap.size ≤ wr.heap.size):=⟨hp3,ow3,HI.out.mp.lt,HI.out.bel.size⟩;have HDO:Hid (Calls Tryz.prog 54 #[.map (some gm),.slice a3 M c3] y3 fun e w' => e = .returned (.tuple #[]) ∧ ∃ V',DoS y3 gm (n + ps.length) (fun v t => Sta (LdR w gm) y3 (fun X => Reads X v t) ∧ t.length ≤ 1048576) (doneM m (ps.map (·.1))) V' w'):=HI3.out.todo (by rw [← HBB.out];exact HP3.out.1) HP3.out.2.1 (by have:=HP3.out.2.2.2;have:=HP3.out.2.2.1;omega) HP3.out.2.2.1 HSB.out.1
           clear hp3 ow3 bl3)
        | (have HN3:Hid (readB bb = none ∧ Below w.heap.size w y3):=⟨hn3,HI.out.bel.trans (bl3.mono HI.out.bel.size)⟩
           clear hn3 bl3 ta2)))
    | (clear ta2;go_at_call 54;refine (HDO.out).mono ?_;rintro e4 y4 ⟨rfl,V4,hd4⟩
       have HI4:Hid (LdI w gm rs (.slice (some ⟨b,off,none⟩) N cl) (k + 1) (n + ps.length) V4 (doneM m (ps.map (·.1))) y4):=HI3.out.step HLT.out.2 (by rw [← HBB.out];exact HP3.out.1) hd4 HG.out
       clear hd4))
   · go_wp2
     go_roundw
     case rel => exact ⟨k + 1,n + ps.length,V4,doneM m (ps.map (·.1)),HLT.out.1,rfl,HI4⟩
     case measure => simp [intOf];have:=HLT.out.1;omega
   · refine bodyPost_ret (results_tmp2 rfl _ _ _) rfl ?_
     refine ⟨HN3.out.2,Or.inr ⟨?_,rfl⟩⟩;have h1:=ofM_take HLT.out.2;rw [HI.out.of,← HBB.out,HN3.out.1] at h1;rw [← List.take_append_drop (k + 1) rs];exact ofM_none _ _ h1
theorem sOpen_good {w:World} {gd:Nat} {P:Nat → Prop} {D:DkT} {m:KM} (hK:KOk w) (hd:DkIs w gd P D) (hw:D.wait = []) (hl:(dumpD D).length < 8000000) (hs:sumB (rdL14 (dumpD D)) < 1000000) (hn:(rdL14 (dumpD D)).length < 1000000) (h8:8 ≤ sizeD D) (h100:sizeD D ≤ 100) (hx:(runJ D (openG D).1).2 = 0) (hof:ofM (rdL14 (dumpD D)) = some m) :
 Calls Tryz.prog 28 #[.pointer (some ⟨gd,0,none⟩)] w fun e w' => ∃ gs gm n lv V,e = .returned (.tuple #[.pointer (some ⟨gs,0,none⟩),.int .i64 0]) ∧ StR w' gs gm n lv V m ∧ Mut P w w':=by
 have HLD:Hid (Calls Tryz.prog 61 #[.pointer (some ⟨gd,0,none⟩)] w fun e w' => ∃ gm n V,e = .returned (.tuple #[.map (some gm),.bool true]) ∧ MapM w' gm n V m ∧ (∀ s t,getM m s = some t → Sta (LdR w gm) w' (fun X => Reads X (V s) t) ∧ t.length ≤ 1048576) ∧ Below w.heap.size w w' ∧ w.heap.size ≤ gm):=(sLoad_any hK hd (by rw [hw];exact Nat.zero_le _) hl hs hn).mono (fun e w' h => by
  obtain ⟨hb,⟨gm,n,V,m',h1,h2,h3,_,h5,h6⟩ | ⟨h1,_⟩⟩:=h
  · rw [hof] at h1
    cases h1
    exact ⟨gm,n,V,h2,h3,h5,hb,h6⟩
  · rw [hof] at h1;cases h1)
 have HLT:Hid (∀ k,P k → k < w.heap.size):=fun k hk => hd.ltS k hk
 have HOP:Hid (∀ W,Below w.heap.size w W → Calls Tryz.prog 63 #[.pointer (some ⟨gd,0,none⟩)] W fun e w' => ∃ lg,e = .returned (.tuple #[.pointer (some ⟨lg,0,none⟩),.int .i64 0]) ∧ Mut P W w'):=fun W hb => (jOpen_any (hK.below hb hK.lt) (hd.belowS hb) hw h100 h8).mono (fun e w' h => by
  obtain ⟨P',lv,h1,h2⟩:=h
  obtain ⟨lg,Q,e1,_⟩:=h2.lg hx
  rw [hx,e1] at h1
  exact ⟨lg,h1,h2.mv⟩)
 clear hK hd hw hl hs hn h8 h100 hx hof
 go_enter Tryz.func28,Tryz.ntmps28
 obtain ⟨tk0,tk1,tk2⟩:=sqk3
 go_wp2_with (first
  | (clear tk0;go_at_call 61;refine (HLD.out).mono ?_;rintro e0 y0 ⟨gm,n,V,rfl,hm0,ht0,bl0,hg0⟩
     have HM:Hid (MapM y0 gm n V m ∧ (∀ s t,getM m s = some t → Sta (LdR w gm) y0 (fun X => Reads X (V s) t) ∧ t.length ≤ 1048576) ∧ Below w.heap.size w y0 ∧ w.heap.size ≤ gm):=⟨hm0,ht0,bl0,hg0⟩
     clear hm0 ht0 bl0 hg0)
  | (clear tk1;go_at_call 63;refine (HOP.out y0 HM.out.2.2.1).mono ?_;rintro e1 y1 ⟨lg,rfl,mu1⟩
     have HM1:Hid (MapM y1 gm n V m):=HM.out.1.same (mu1.block gm HM.out.1.lt (fun h => by have:=HLT.out gm h;have:=HM.out.2.2.2;omega))
     have HT1:Hid (∀ s t,getM m s = some t → Reads y1 (V s) t ∧ t.length ≤ 1048576):=fun s t ht => ⟨(HM.out.2.1 s t ht).1.at ⟨mu1.os,mu1.tape,mu1.output,mu1.size,fun k hk hn => mu1.block k hk (fun hp => hn (Or.inl (HLT.out k hp)))⟩,(HM.out.2.1 s t ht).2⟩
     have HMU:Hid (Mut P w y1):=(mut_below HM.out.2.2.1 P).trans (fun _ _ h => h) mu1
     clear mu1)
  | (clear tk2;with_reducible refine wpSeq_boxW 99 (.tmp 33) [.pointer (some ⟨lg,0,none⟩),.map (some gm)] ?_ ?_ ?_ ?_
     · rfl
     · rfl
     · rfl
     intro gs y2 nn;have HF:Hid (StR y2 gs gm n (.pointer (some ⟨lg,0,none⟩)) V m ∧ Mut P w y2):=⟨⟨nn.blk,HM1.out.same (nn.below.block gm HM1.out.lt),fun s t ht => ⟨(HT1.out s t ht).1.below nn.below,(HT1.out s t ht).2⟩⟩,HMU.out.trans (fun _ _ h => h) (mut_below nn.below P)⟩
     clear nn))
 refine bodyPost_ret (results_tmp2 rfl _ _ _) rfl ?_
 exact ⟨gs,gm,n,_,V,rfl,HF.out.1,HF.out.2⟩
theorem pick_le (s:Bs):(pickB s).1 ≤ 1:=by
 unfold pickB
 split
 · exact Nat.le_refl _
 · exact Nat.zero_le _
theorem openG_zero {s:Bs} (hs:8 ≤ s.length / 64):(runJ (loadD s) (openG (loadD s)).1).2 = 0:=by
 have hN:=halfN_eq s
 have hk:=pick_le s
 obtain ⟨k,gen,hp⟩:∃ k gen,pickB s = (k,gen):=⟨_,_,rfl⟩
 rw [hp] at hk
 replace hk:k ≤ 1:=hk
 have hsd:hsD (loadD s) = s.length / 64 / 2:=rfl
 unfold openG
 rw [dump_idle,hp,hsd]
 by_cases h0:gen = 0
 · rw [if_pos h0]
   have hrun:=anew_run (b:=s) (k:=0) (gen:=1) (l:=[]) (by omega) (by show 1 + 0 ≤ _;omega)
   show (runJ (loadD s) (anewS (s.length / 64 / 2) 0 1 [])).2 = 0;rw [hrun]
 · rw [if_neg h0]
   have hlh:=len_half (b:=s) hk;obtain ⟨l,e,hle⟩:∃ l e,recsOf gen (halfB s k) = (l,e):=⟨_,_,rfl⟩;have hinv:=recs_inv (gen:=gen) (half:=halfB s k) ((halfB s k).length / 64) 64 0 (by omega)
   rw [show recsL gen (halfB s k) ((halfB s k).length / 64) 64 0 = (l,e) from hle] at hinv;obtain ⟨i1,i2,i3,i4,i5⟩:=hinv;replace i2:e = 64 + sizeL l:=i2;replace i3:e ≤ (halfB s k).length:=i3;rw [show (halfB s (k,gen).1) = halfB s k from rfl,show (k,gen).2 = gen from rfl,hle]
   by_cases hzz:∀ z ∈ (halfB s k).drop e,z = 0
   · rw [if_pos hzz]
     rfl
   · rw [if_neg hzz]
     have hsl:1 + secL l ≤ s.length / 64 / 2:=by
      have:=sizeL_eq l;omega
     have hrun:=anew_run (b:=s) (k:=1 - k) (gen:=gN gen) (l:=l) (by omega) hsl
     show (runJ (loadD s) (anewS (s.length / 64 / 2) (1 - k) (gN gen) l)).2 = 0;rw [hrun]
theorem rd_small (b:Bs):sumB (rdL14 b) ≤ b.length ∧ (rdL14 b).length ≤ b.length:=by
 unfold rdL14
 by_cases ho:okB b
 · rw [if_pos ho]
   have hk:=pick_le b;have h2:=ho.2;have hN:=halfN_eq b;unfold readJ
   by_cases h0:(pickB b).2 = 0
   · rw [if_pos h0]
     exact ⟨Nat.zero_le _,Nat.zero_le _⟩
   · rw [if_neg h0]
     have hlh:=len_half (b:=b) hk;have h9:=half_le b;have hinv:=recs_inv (gen:=(pickB b).2) (half:=halfB b (pickB b).1) ((halfB b (pickB b).1).length / 64) 64 0 (by omega)
     obtain ⟨_,i2,i3,_,_⟩:=hinv;have e:(recsL (pickB b).2 (halfB b (pickB b).1) ((halfB b (pickB b).1).length / 64) 64 0).1 = (recsOf (pickB b).2 (halfB b (pickB b).1)).1:=rfl;rw [e] at i2;have h5:=sumB_size (recsOf (pickB b).2 (halfB b (pickB b).1)).1;have h6:=sizeL_ge (recsOf (pickB b).2 (halfB b (pickB b).1)).1
     generalize (recsL (pickB b).2 (halfB b (pickB b).1) ((halfB b (pickB b).1).length / 64) 64 0).2 = q at i2 i3;show sumB (recsOf (pickB b).2 (halfB b (pickB b).1)).1 ≤ _ ∧ (recsOf (pickB b).2 (halfB b (pickB b).1)).1.length ≤ _;omega
 · rw [if_neg ho]
   exact ⟨Nat.zero_le _,Nat.zero_le _⟩
theorem wpOp_allocK {ops:Array Oper} {Q:Exit → Act → World → Prop} {K:Act → World → Prop} {a:Act} {w:World} (i:Nat) {oi:Oper} (hi:ops[i]? = some oi) (hw:Region.wanted oi (yielded ops a.tmps) = true) (ho:oi.op = .alloc 43)
 (h:∀ g w',NewR [.slice none 0 0,.slice none 0 0] 43 w g w' → K (a.put oi.dst (.pointer (some ⟨g,0,none⟩))) w'):wpOp Tryz.prog ops Q i K a w:=
 wpOp_vl i _ _ hi hw (by unfold execOp;rw [ho];kernel_rfl) (h _ _ (NewR.of _ _ w))
theorem wpAnyH_allocK {md:Region.Mode} {ops:Array Oper} {Q:Exit → Act → World → Prop} {S:World → Prop} {fuel:Nat} {listed:Array Bool} {a:Act} {w:World} (i:Nat) {oi:Oper} (hr:Region.ready md ops listed = [i]) (hi:ops[i]? = some oi) (hw:Region.wanted oi (yielded ops a.tmps) = true) (ho:oi.op = .alloc 43)
 (h:∀ g w',NewR [.slice none 0 0,.slice none 0 0] 43 w g w' → S w' ∧ wpAnyH Tryz.prog md ops Q S fuel (listed.setIfInBounds i true) (a.put oi.dst (.pointer (some ⟨g,0,none⟩))) w'):wpAnyH Tryz.prog md ops Q S (fuel + 1) listed a w:=
 wpAnyH_all hr (by simp) (fun k hk => by
  obtain rfl:k = i:=by simpa using hk
  exact wpOp_allocK k hi hw ho h)
theorem like_is {w:World} {gs gm n:Nat} {lv:Value} {V:Bs → Value} {m:KM} (h:StR w gs gm n lv V m) {R:Nat → Prop} {vK vV:Value} (hk:KyS R w vK vV m) (hml:m.length < 1000000) (key:Bs) (hky:key.length ≤ 9223372036854775807):Calls Tryz.prog 26 #[.pointer (some ⟨gs,0,none⟩),.agg [vK,vV].toArray,.string (strB key)] w fun e w' => e = .returned (.bool true) ∧ Below w.heap.size w w':=
 like15_any h vK vV hk.k.now hk.v.now key hky hml
theorem StP.len {m:KM} {D:DkT} {J:JnT} (h:StP m D J):m.length < 1000000:=by
 have h1:=h.small
 have h2:=wtM_len m
 omega
theorem dump_facts {w W:World} {gs gd lg gm gk nb gb N n:Nat} {vK vV vr:Value} {mr m:KM} {rs:List Bs} {P Q:Nat → Prop} {V:Bs → Value} {D:DkT} {J:JnT} (h:GoI w gs gd lg gm gk nb gb N vK vV vr mr rs n P Q V m D J W):D.wait.length ≤ 200 ∧ (dumpD D).length < 100000000 ∧ rdL14 (dumpD D) = J.l:=by
 have hok:okD D:=by
  obtain ⟨_,_,_,_,hm,_⟩:=h.st.pk.dk
  exact hm.ok
 have h1:=hok.size
 have hw:D.wait = []:=by rw [h.sp.lg.idle];rfl
 have hd:dumpD D = D.safe:=by rw [h.sp.lg.idle];rfl
 refine ⟨by rw [hw];exact Nat.zero_le _,by rw [hd];have:=h.sp.hi;omega,(rd_log h.sp.lg h.sp.lo (by rw [h1.1];omega)).2.1⟩
theorem open_again {w W:World} {gs gd lg gm gk nb gb N n:Nat} {vK vV vr:Value} {m:KM} {rs:List Bs} {P Q:Nat → Prop} {V:Bs → Value} {D:DkT} {J:JnT} (h:GoI w gs gd lg gm gk nb gb N vK vV vr m rs n P Q V m D J W) (ho:ofM J.l = some m) (hK:KOk w):Calls Tryz.prog 28 #[.pointer (some ⟨gd,0,none⟩)] W fun e w' => ∃ go gmo no lv Vo,e = .returned (.tuple #[.pointer (some ⟨go,0,none⟩),.int .i64 0]) ∧ StR w' go gmo no lv Vo m ∧ Mut P W w' ∧ (∀ k,P k → w.heap.size ≤ k) ∧ KyS (R2 (Um P Q gm) gk gk) w' vK vV m ∧ Blk w' gk [vK,vV] 43:=by
 obtain ⟨h1,h2,h3⟩:=dump_facts h
 have hok:okD D:=by
  obtain ⟨_,_,_,_,hm,_⟩:=h.st.pk.dk
  exact hm.ok
 have hs:=hok.size
 have hw:D.wait = []:=by rw [h.sp.lg.idle];rfl
 have hd:dumpD D = D.safe:=by rw [h.sp.lg.idle];rfl
 have hsm:=rd_small (dumpD D)
 rw [h3] at hsm
 have hlo:=h.sp.lo
 have hhi:=h.sp.hi
 have hl:(dumpD D).length ≤ 3008:=by rw [hd];omega
 have hx:(runJ D (openG D).1).2 = 0:=by
  have h9:=openG_zero (s:=D.safe) (by omega)
  rw [← h.sp.lg.idle] at h9
  exact h9
 refine (sOpen_good (m:=m) (hK.below h.bel hK.lt) h.st.pk.dk hw (by omega) (by rw [h3];omega) (by rw [h3];omega) hlo (by omega) hx (by rw [h3];exact ho)).mono (fun e w' hx => ?_)
 obtain ⟨go,gmo,no,lv,Vo,e1,e2,e3⟩:=hx
 have hm:Mut (R2 (Um P Q gm) gk gk) W w':=⟨e3.os,e3.tape,e3.output,e3.size,fun k hk hn => e3.block k hk (fun hx => hn (Or.inl (Or.inl (Or.inl hx))))⟩
 exact ⟨go,gmo,no,lv,Vo,e1,e2,e3,fun k hk => h.um k (Or.inl (Or.inl hk)),h.ky.go hm (fun _ _ h => h),e3.blk h.bk (fun hk => h.gu (Or.inl (Or.inl hk)))⟩
theorem storeDoes_law (x0:Int) (v1:Value) (key:Bs) (ls:List (List ActT)) (w:World) (hK:KOk w) (hr:ReadsAA w v1 ls) (hs:∀ l ∈ ls,∀ a ∈ l,szA a) (hky:key.length ≤ 9223372036854775807):Calls Tryz.prog 4 #[.int .i64 x0,v1,.string (strB key)] w fun e w' => e = .returned (.bool true) ∧ Below w.heap.size w w':=by
 obtain ⟨Na,HNa⟩:=sqn (ls.length)
 obtain ⟨ad,cp,hv⟩:=aa_form hr
 rw [← HNa.out] at hv
 subst hv
 obtain ⟨sk,HSK⟩:=sqn (strB key)
 rw [← HSK.out]
 have HKY:Hid (key.length ≤ 9223372036854775807):=hky
 obtain ⟨N,HNN⟩:=sqn (nSec x0)
 have HNB:Hid (8 ≤ N ∧ N ≤ 47):=by rw [HNN.out];exact nSec_le x0
 obtain ⟨D0,HD0⟩:=sqn (openD (zeroD N))
 have HSP:Hid (StP [] D0 jn0 ∧ sizeD D0 = N):=by
  have h:=spN x0
  rw [← HNN.out,← HD0.out] at h
  exact h
 have HFR:Hid (Calls Tryz.prog 19 #[.int .i64 x0] w fun e w' => ∃ gd gs lg gm P Q,e = .returned (.tuple #[.pointer (some ⟨gd,0,none⟩),.pointer (some ⟨gs,0,none⟩)]) ∧ StM w' gs gd lg gm 0 P Q nilV [] D0 jn0 ∧ Below w.heap.size w w' ∧ (∀ k,Um P Q gm k → w.heap.size ≤ k) ∧ w.heap.size ≤ gs):=by
  have h1:=fresh15_any x0 w hK
  rw [← HNN.out,← HD0.out] at h1
  exact h1
 have HK0:Hid (∀ W,Below w.heap.size w W → KOk W):=fun W hb => hK.below hb hK.lt
 have HR0:Hid (ReadsAA w (.slice ad Na cp) ls):=hr
 have HFW:Hid (∀ W,Below w.heap.size w W → Calls Tryz.prog 20 #[.slice ad Na cp] W fun e w' => FewQ ls e ∧ Below W.heap.size W w'):=fun W hb => few15_any _ ls W (hr.below hb) hs
 have HWK:Hid (∀ W,Below w.heap.size w W → Calls Tryz.prog 10 #[] W fun e w' => e = .returned (.bool true) ∧ Below W.heap.size W w'):=fun W hb => works15_any W (hK.below hb hK.lt)
 have HKW:Hid (KOk w):=hK
 clear hK hr hs HD0 hky
 go_enter Tryz.func4,Tryz.ntmps4
 obtain ⟨tk0,tk1,tk2,tk3,tk4,tk5⟩:=sqk6
 go_wp2_with (first
  | (clear tk0;go_at_call 19;refine (HFR.out).mono ?_;rintro e3 y3 ⟨gd,gs,lg,gm,P0,Q0,rfl,hs3,bl3,hu3,hg3⟩
     have HS3:Hid (StM y3 gs gd lg gm 0 P0 Q0 nilV [] D0 jn0):=hs3;have HU3:Hid (∀ k,Um P0 Q0 gm k → w.heap.size ≤ k):=hu3;have HB2:Hid (Below w.heap.size w y3):=bl3;clear hs3 hu3 hg3 bl3)
  | (clear tk1;go_at_call 20;refine (HFW.out _ HB2.out).mono ?_;rintro e4 y4 ⟨⟨ok,rfl,hj⟩,bl⟩
     have HFE:Hid (FewP ls ok):=hj;replace HS3:Hid (StM y4 gs gd lg gm 0 P0 Q0 nilV [] D0 jn0):=HS3.out.below bl;replace HB2:=sqt HB2 bl;clear hj bl
     cases ok)
  | (clear tk2;go_at_call 10;refine (HWK.out _ HB2.out).mono ?_;rintro e5 y5 ⟨rfl,bl⟩
     replace HB2:=sqt HB2 bl;clear bl)
  | (clear tk3;with_reducible refine wpSeq_buildK0 ?_ ?_ ?_
     · rfl
     · rfl)
  | (clear tk4;with_reducible refine wpSeq_allocK ?_ ?_ ?_
     · rfl
     · rfl
     intro gk y6 nn;have HI6:Hid (GoI w gs gd lg gm gk 0 1 N (.slice none 0 0) (.slice none 0 0) (.slice none 0 0) [] [] 0 P0 Q0 nilV [] D0 jn0 y6):=GoI.begin HS3.out HSP.out HU3.out HB2.out nn.blk nn.ge nn.below;clear nn)
  | (clear tk5;with_reducible refine wpSeq_storeRow 43 (.tmp 9) (.tmp 35) gk [.slice none 0 0,.slice none 0 0] [.slice none 0 0,.slice none 0 0] HI6.out.bk rfl (info_keys _ _) (one_keys _ _ _ _ _ _) ?_ ?_ ?_ ?_ ?_
     · rfl
     · rfl
     · rfl
     · rfl
     intro y7 sr;have HI7:Hid (GoI w gs gd lg gm gk 0 1 N (.slice none 0 0) (.slice none 0 0) (.slice none 0 0) [] [] 0 P0 Q0 nilV [] D0 jn0 y7):=HI6.out.put (Below.refl _ _) sr.only sr.blk HI6.out.ky HI6.out.re;clear sr HI6))
 · go_ret
   exact ⟨rfl,HB2.out⟩
 have HFO:Hid (Na ≤ 20 ∧ ∀ l ∈ ls,l.length ≤ 60 ∧ sumA l ≤ 20000):=by
  have h1:=HFE.out rfl
  exact ⟨by rw [HNa.out];exact h1.1,h1.2⟩
 clear HFE HFR HFW HS3 HU3 HB2 HSP
 go_loopw [10,11] (fun rv i11 wr => ∃ (ra:Option Addr) (rn rc i n:Nat) (k1:Option Addr) (k2 k3:Nat) (k4:Option Addr) (k5 k6:Nat) (P Q:Nat → Prop) (V:Bs → Value) (m:KM) (D:DkT) (J:JnT),rv = .slice ra rn rc ∧ i11 = .int .i64 (i:Int) ∧ i ≤ Na ∧ Hid (GoI w gs gd lg gm gk (60 * i) (1 + i) N (.slice k1 k2 k3) (.slice k4 k5 k6) (.slice ra rn rc) m J.l n P Q V m D J wr) ∧ Hid (ofM J.l = some m)) (fun _ i11 _ => Na - (intOf i11).toNat)
 case atStart => exact ⟨none,0,0,0,0,none,0,0,none,0,0,P0,Q0,nilV,[],D0,jn0,rfl,rfl,Nat.zero_le _,HI7,rfl⟩
 case round =>
  clear HI7
  obtain ⟨ra,rn,rc,i,n,k1,k2,k3,k4,k5,k6,P,Q,V,m,D,J,rfl,rfl,hi,HI,HOM⟩:=hrel
  by_cases hin:i < Na
  case pos =>
   have hlk:(i:Int) < (Na:Int):=by omega
   have f1:IntKind.i64.wrap ((i:Int) + 1) = (i:Int) + 1:=by rw [IntKind.wrap_i64];have:=HFO.out.1;omega
   have HIN:Hid (i < Na):=hin;obtain ⟨b,off,aa,an,ac,ps,eb,cb0,hba⟩:=ba_at HR0.out (j:=i) (by rw [← HNa.out];exact hin)
   subst eb;obtain ⟨l,HL⟩:=sqn (ls.getD i []);rw [← HL.out] at hba;have HBA:Hid (BaI w (.slice aa an ac) l ps):=hba;have HLF:Hid (l.length ≤ 60 ∧ sumA l ≤ 20000):=HFO.out.2 l (by rw [HL.out,List.getD_eq_getElem?_getD,List.getElem?_eq_getElem (by rw [← HNa.out];exact hin)];exact List.getElem_mem _)
   have HCB:Hid (∀ wx,Below w.heap.size w wx → wx.cell? ⟨b,off + i,none⟩ = some (.slice aa an ac)):=fun wx hb => (World.cell?_of_block (hb.block b (block_lt_of_cell cb0))).trans cb0
   have HBI:Hid (60 * i + 60 < 10000000 ∧ 1 + i + 1 < 1000000):=by have:=HFO.out.1;show _ ∧ _;omega
   obtain ⟨xa,HXA⟩:=sqn (apyX m J.l l N);obtain ⟨m2,HM2⟩:=sqn (apyM m J.l l N);obtain ⟨L2,HL2⟩:=sqn (apyL m J.l l N);have HOM2:Hid (ofM L2 = some m2):=by rw [HL2.out,HM2.out];exact ofM_apy HI.out.sp.up HOM.out l N
   clear hba cb0 hi
   go_upto_region 11 with fail
   replace HI:Hid (GoI w gs gd lg gm gk (60 * i) (1 + i) N (.slice k1 k2 k3) (.slice k4 k5 k6) (.slice ra rn rc) m J.l n P Q V m D J wr.drew):=HI.out.below (Below.refl _ _).drew
   have HDS:Hid (∀ W,Below wr.drew.heap.size wr.drew W → Calls Tryz.prog 22 #[.pointer (some ⟨gd,0,none⟩)] W fun r w' => r = .returned (.int .i64 (N:Int)) ∧ w' = W):=fun W hb => by
    have h:=dkSize_pure (HI.out.st.below hb).pk.dk;rw [HI.out.sz] at h;exact h
   go_cut [12,13,14] from 42 to 54 (fun v12 v13 v14 W => ∃ (g12:Nat) (q1:Option Addr) (q2 q3:Nat) (q4:Option Addr) (q5 q6:Nat) (q7:Option Addr) (q8 q9:Nat),v12 = .pointer (some ⟨g12,0,none⟩) ∧ v13 = .slice q7 q8 q9 ∧ v14 = .int .i64 xa ∧ Hid (GoN w gs gd lg gm gk g12 (60 * i) (1 + i) N (.slice k1 k2 k3) (.slice k4 k5 k6) (.slice ra rn rc) (.slice q1 q2 q3) (.slice q4 q5 q6) (.slice q7 q8 q9) m J.l m2 L2 n P Q V m D J W))
   case first =>
    refine wp_region_held_drew (S:=fun wx => Below w.heap.size w wx ∧ Blk wx gk [.slice k1 k2 k3,.slice k4 k5 k6] 43) (by kernel_rfl) ⟨HI.out.bel,HI.out.bk⟩ ?_
    intro hS;refine tka 0 (.agg [.slice k1 k2 k3,.slice k4 k5 k6].toArray) rfl (fun wx hx => by exact load_run 43 _ rfl _ _ rfl [.slice k1 k2 k3,.slice k4 k5 k6] _ (Blk.range hx.2) Tryz.underlying43 rfl (info_keys _ _)) hS ?_
    simp only [Act.put,sq];refine tkc 1 (.slice ra rn rc) rfl hS ?_;simp only [Act.put,sq];refine tkc 2 (.slice (some ⟨b,off,none⟩) Na cp) rfl hS ?_;simp only [Act.put,sq];refine tkc 3 (.int .i64 (i:Int)) rfl hS ?_;simp only [Act.put,sq];refine tka 4 (.pointer (some ⟨b,off + i,none⟩)) rfl (fun wx hx => by exact idxAA b off Na cp i HIN.out _ _ (.tmp 45) (.tmp 46) rfl rfl rfl _) hS ?_
    simp only [Act.put,sq];refine tka 5 (.slice aa an ac) rfl (fun wx hx => by have cx:=HCB.out wx hx.1;simp [go_sem,cx]) hS ?_
    simp only [Act.put,sq];refine tkc 6 (.pointer (some ⟨gd,0,none⟩)) rfl hS ?_;simp only [Act.put,sq];refine wpAnyH_pair 7 13 (by kernel_rfl) ?_ ?_
    · refine wpOp_en 7 (by rfl) (by rfl) (f:=22) (args:=#[.pointer (some ⟨gd,0,none⟩)]) (by simp [go_sem]) (HDS.out _ (Below.refl _ _)) ?_
      rintro e3 z3 ⟨rfl,rfl⟩;refine ⟨_,rfl,hS,?_⟩;simp only [Act.put,sq];refine wpAnyH_pair 8 13 (by kernel_rfl) ?_ ?_
      · have HRA:=go_ref HI.out HI.out.sp HBA.out HLF.out.1 HLF.out.2
        generalize hA:(#[.agg [.slice k1 k2 k3,.slice k4 k5 k6].toArray,.slice ra rn rc,.slice aa an ac,.int .i64 (N:Int)]:Array Value) = AA at HRA;refine wpOp_en 8 (by rfl) (by rfl) (f:=21) (args:=AA) (by subst hA;simp [go_sem]) HRA ?_
        rintro e4 z4 ⟨uK,uV,ur,rfl,hk4,hr4,bl4⟩;clear HRA;obtain ⟨q1,q2,q3,f1e⟩:∃ a n c,uK = .slice a n c:=by obtain ⟨a,c,h,_⟩:=hk4.k;exact ⟨a,_,c,h⟩
        obtain ⟨q4,q5,q6,f2e⟩:∃ a n c,uV = .slice a n c:=by obtain ⟨a,c,h,_⟩:=hk4.v;exact ⟨a,_,c,h⟩
        obtain ⟨q7,q8,q9,f3e⟩:∃ a n c,ur = .slice a n c:=by obtain ⟨a,c,h,_⟩:=hr4;exact ⟨a,_,c,h⟩
        subst f1e f2e f3e;rw [← HXA.out];rw [← HM2.out] at hk4;rw [← HL2.out] at hr4;refine ⟨_,rfl,⟨hS.1.trans (bl4.mono hS.1.size),hS.2.below bl4 hS.2.lt⟩,?_⟩;simp only [Act.put,sq];have hS4:Below w.heap.size w z4 ∧ Blk z4 gk [.slice k1 k2 k3,.slice k4 k5 k6] 43:=⟨hS.1.trans (bl4.mono hS.1.size),hS.2.below bl4 hS.2.lt⟩;refine tkc 9 (.tuple #[.agg [.slice q1 q2 q3,.slice q4 q5 q6].toArray,.slice q7 q8 q9,.int .i64 xa]) rfl hS4 ?_;simp only [Act.put,sq];refine tkc 10 (.agg [.slice q1 q2 q3,.slice q4 q5 q6].toArray) rfl hS4 ?_;simp only [Act.put,sq];refine tkc 11 (.slice q7 q8 q9) rfl hS4 ?_;simp only [Act.put,sq];refine tkc 12 (.int .i64 xa) rfl hS4 ?_;simp only [Act.put,sq];refine wpAnyH_allocK 13 (by kernel_rfl) rfl (by rfl) rfl ?_
        intro g12 z5 nn;refine ⟨⟨hS4.1.trans (nn.below.mono hS4.1.size),hS4.2.below nn.below hS4.2.lt⟩,?_⟩;simp only [Act.put,sq];have HG12:Hid (Blk z5 g12 [.slice none 0 0,.slice none 0 0] 43):=nn.blk;have HF:Hid (Below w.heap.size w z5 ∧ Blk z5 gk [.slice k1 k2 k3,.slice k4 k5 k6] 43):=⟨hS4.1.trans (nn.below.mono hS4.1.size),hS4.2.below nn.below hS4.2.lt⟩
        have HTL:Hid (∀ Z (_ _:True),Only g12 z5 Z → Blk Z g12 [.slice q1 q2 q3,.slice q4 q5 q6] 43 → GoN w gs gd lg gm gk g12 (60 * i) (1 + i) N (.slice k1 k2 k3) (.slice k4 k5 k6) (.slice ra rn rc) (.slice q1 q2 q3) (.slice q4 q5 q6) (.slice q7 q8 q9) m J.l m2 L2 n P Q V m D J Z):=fun Z _ _ ho hb => by
         have hz:Below z4.heap.size z4 Z:=nn.below.trans (ho.below nn.ge nn.below.size);have h1:=HI.out.below (bl4.trans (hz.mono bl4.size));exact ⟨h1,hk4.below hz,hr4.go (mut_below hz _) (fun _ _ h => h),hb,Nat.le_trans hS4.1.size nn.ge,fun hx => by have:=HI.out.st.ltM g12 hx;have:=bl4.size;have:=nn.ge;omega,fun e => by have:=HI.out.bk.lt;have:=bl4.size;have:=nn.ge;omega⟩
        clear nn hS hS4;refine wpAnyH_storeRow 14 43 (.tmp 12) (.tmp 52) g12 [.slice none 0 0,.slice none 0 0] [.slice q1 q2 q3,.slice q4 q5 q6] HG12.out rfl (info_keys _ _) (one_keys _ _ _ _ _ _) (by kernel_rfl) rfl (by rfl) rfl rfl rfl ?_
        intro z6 sr;have HN6:Hid (GoN w gs gd lg gm gk g12 (60 * i) (1 + i) N (.slice k1 k2 k3) (.slice k4 k5 k6) (.slice ra rn rc) (.slice q1 q2 q3) (.slice q4 q5 q6) (.slice q7 q8 q9) m J.l m2 L2 n P Q V m D J z6):=HTL.out z6 trivial trivial sr.only sr.blk;refine ⟨⟨HN6.out.go.bel,HN6.out.go.bk⟩,?_⟩;simp only [Act.put,sq];refine wpAnyH_take (i:=15) (v:=.slice q7 q8 q9) rfl (by kernel_rfl) (by kernel_rfl) (by kernel_rfl) (fun _ _ _ h => h) (Or.inl ⟨by rfl,fun wx hx => by simp [go_sem]⟩) ⟨HN6.out.go.bel,HN6.out.go.bk⟩ ?_
        simp only [Act.put,sq];refine wpAnyH_take (i:=16) (v:=.int .i64 xa) rfl (by kernel_rfl) (by kernel_rfl) (by kernel_rfl) (fun _ _ _ h => h) (Or.inl ⟨by rfl,fun wx hx => by simp [go_sem]⟩) ⟨HN6.out.go.bel,HN6.out.go.bk⟩ ?_
        simp only [Act.put,sq];refine wpAnyH_done (by kernel_rfl) ?_ _
        go_wp2
        go_meet
        case rel => exact ⟨g12,q1,q2,q3,q4,q5,q6,q7,q8,q9,rfl,rfl,rfl,HN6⟩
      · refine wpOp_allocK 13 (by rfl) (by rfl) rfl ?_
        intro g12 z5 nn;have HNW:Hid (NewR [.slice none 0 0,.slice none 0 0] 43 wr.drew g12 z5):=nn;replace hS:Below w.heap.size w z5 ∧ Blk z5 gk [.slice k1 k2 k3,.slice k4 k5 k6] 43:=⟨hS.1.trans (nn.below.mono hS.1.size),hS.2.below nn.below hS.2.lt⟩;clear nn;refine ⟨hS,?_⟩;simp only [Act.put,sq];have HRA:=go_ref2 HI.out HNW.out.below HNW.out.ge HNW.out.blk.lt HI.out.sp HBA.out HLF.out.1 HLF.out.2
        generalize hA:(#[.agg [.slice k1 k2 k3,.slice k4 k5 k6].toArray,.slice ra rn rc,.slice aa an ac,.int .i64 (N:Int)]:Array Value) = AA at HRA;refine wpAnyH_enter 8 (by kernel_rfl) rfl (by rfl) (f:=21) (args:=AA) (by subst hA;simp [go_sem]) HRA ?_
        rintro e4 z4 ⟨uK,uV,ur,rfl,hk4,hr4,bl4⟩;clear HRA;obtain ⟨q1,q2,q3,f1e⟩:∃ a n c,uK = .slice a n c:=by obtain ⟨a,c,h,_⟩:=hk4.k;exact ⟨a,_,c,h⟩
        obtain ⟨q4,q5,q6,f2e⟩:∃ a n c,uV = .slice a n c:=by obtain ⟨a,c,h,_⟩:=hk4.v;exact ⟨a,_,c,h⟩
        obtain ⟨q7,q8,q9,f3e⟩:∃ a n c,ur = .slice a n c:=by obtain ⟨a,c,h,_⟩:=hr4;exact ⟨a,_,c,h⟩
        subst f1e f2e f3e;rw [← HXA.out];rw [← HM2.out] at hk4;rw [← HL2.out] at hr4;refine ⟨_,rfl,⟨hS.1.trans (bl4.mono hS.1.size),hS.2.below bl4 hS.2.lt⟩,?_⟩;simp only [Act.put,sq];have HG12:Hid (Blk z4 g12 [.slice none 0 0,.slice none 0 0] 43):=HNW.out.blk.below bl4 HNW.out.blk.lt;have HF:Hid (Below w.heap.size w z4 ∧ Blk z4 gk [.slice k1 k2 k3,.slice k4 k5 k6] 43):=⟨hS.1.trans (bl4.mono hS.1.size),hS.2.below bl4 hS.2.lt⟩
        have HTL:Hid (∀ Z (_ _:True),Only g12 z4 Z → Blk Z g12 [.slice q1 q2 q3,.slice q4 q5 q6] 43 → GoN w gs gd lg gm gk g12 (60 * i) (1 + i) N (.slice k1 k2 k3) (.slice k4 k5 k6) (.slice ra rn rc) (.slice q1 q2 q3) (.slice q4 q5 q6) (.slice q7 q8 q9) m J.l m2 L2 n P Q V m D J Z):=fun Z _ _ ho hb => by
         have hz:Below wr.drew.heap.size wr.drew Z:=(HNW.out.below.trans (bl4.mono HNW.out.below.size)).trans (ho.below HNW.out.ge (Nat.le_trans HNW.out.below.size bl4.size))
         have hR:∀ k,R2 (Um P Q gm) gk gk k → R2 (Um P Q gm) gk g12 k:=fun k hx => by
          rcases hx with hx | hx | hx
          · exact Or.inl hx
          · exact Or.inr (Or.inl hx)
          · exact Or.inr (Or.inl hx)
         have hm:Mut (R2 (Um P Q gm) gk g12) z4 Z:=ho.mut (Or.inr (Or.inr rfl));exact ⟨HI.out.below hz,hk4.go hm (fun k _ h => hR k h),hr4.go hm (fun k _ h => hR k h),hb,Nat.le_trans HI.out.bel.size HNW.out.ge,fun hx => by have:=HI.out.st.ltM g12 hx;have:=HNW.out.ge;omega,fun e => by have:=HI.out.bk.lt;have:=HNW.out.ge;omega⟩
        clear hS;refine tkc 9 (.tuple #[.agg [.slice q1 q2 q3,.slice q4 q5 q6].toArray,.slice q7 q8 q9,.int .i64 xa]) rfl HF.out ?_;simp only [Act.put,sq];refine tkc 10 (.agg [.slice q1 q2 q3,.slice q4 q5 q6].toArray) rfl HF.out ?_;simp only [Act.put,sq];refine tkc 11 (.slice q7 q8 q9) rfl HF.out ?_;simp only [Act.put,sq];refine tkc 12 (.int .i64 xa) rfl HF.out ?_;simp only [Act.put,sq];refine wpAnyH_storeRow 14 43 (.tmp 12) (.tmp 52) g12 [.slice none 0 0,.slice none 0 0] [.slice q1 q2 q3,.slice q4 q5 q6] HG12.out rfl (info_keys _ _) (one_keys _ _ _ _ _ _) (by kernel_rfl) rfl (by rfl) rfl rfl rfl ?_
        intro z6 sr;have HN6:Hid (GoN w gs gd lg gm gk g12 (60 * i) (1 + i) N (.slice k1 k2 k3) (.slice k4 k5 k6) (.slice ra rn rc) (.slice q1 q2 q3) (.slice q4 q5 q6) (.slice q7 q8 q9) m J.l m2 L2 n P Q V m D J z6):=HTL.out z6 trivial trivial sr.only sr.blk;refine ⟨⟨HN6.out.go.bel,HN6.out.go.bk⟩,?_⟩;simp only [Act.put,sq];refine wpAnyH_take (i:=15) (v:=.slice q7 q8 q9) rfl (by kernel_rfl) (by kernel_rfl) (by kernel_rfl) (fun _ _ _ h => h) (Or.inl ⟨by rfl,fun wx hx => by simp [go_sem]⟩) ⟨HN6.out.go.bel,HN6.out.go.bk⟩ ?_
        simp only [Act.put,sq];refine wpAnyH_take (i:=16) (v:=.int .i64 xa) rfl (by kernel_rfl) (by kernel_rfl) (by kernel_rfl) (fun _ _ _ h => h) (Or.inl ⟨by rfl,fun wx hx => by simp [go_sem]⟩) ⟨HN6.out.go.bel,HN6.out.go.bk⟩ ?_
        simp only [Act.put,sq];refine wpAnyH_done (by kernel_rfl) ?_ _
        go_wp2
        go_meet
        case rel => exact ⟨g12,q1,q2,q3,q4,q5,q6,q7,q8,q9,rfl,rfl,rfl,HN6⟩
    · refine wpOp_allocK 13 (by rfl) (by rfl) rfl ?_
      intro g12 z5 nn;have HNW:Hid (NewR [.slice none 0 0,.slice none 0 0] 43 wr.drew g12 z5):=nn;replace hS:Below w.heap.size w z5 ∧ Blk z5 gk [.slice k1 k2 k3,.slice k4 k5 k6] 43:=⟨hS.1.trans (nn.below.mono hS.1.size),hS.2.below nn.below hS.2.lt⟩;clear nn;refine ⟨hS,?_⟩;simp only [Act.put,sq];refine wpAnyH_enter 7 (by kernel_rfl) rfl (by rfl) (f:=22) (args:=#[.pointer (some ⟨gd,0,none⟩)]) (by simp [go_sem]) (HDS.out _ HNW.out.below) ?_
      rintro e3 z3 ⟨rfl,rfl⟩;refine ⟨_,rfl,hS,?_⟩;simp only [Act.put,sq];have HRA:=go_ref2 HI.out HNW.out.below HNW.out.ge HNW.out.blk.lt HI.out.sp HBA.out HLF.out.1 HLF.out.2
      generalize hA:(#[.agg [.slice k1 k2 k3,.slice k4 k5 k6].toArray,.slice ra rn rc,.slice aa an ac,.int .i64 (N:Int)]:Array Value) = AA at HRA;refine wpAnyH_enter 8 (by kernel_rfl) rfl (by rfl) (f:=21) (args:=AA) (by subst hA;simp [go_sem]) HRA ?_
      rintro e4 z4 ⟨uK,uV,ur,rfl,hk4,hr4,bl4⟩;clear HRA;obtain ⟨q1,q2,q3,f1e⟩:∃ a n c,uK = .slice a n c:=by obtain ⟨a,c,h,_⟩:=hk4.k;exact ⟨a,_,c,h⟩
      obtain ⟨q4,q5,q6,f2e⟩:∃ a n c,uV = .slice a n c:=by obtain ⟨a,c,h,_⟩:=hk4.v;exact ⟨a,_,c,h⟩
      obtain ⟨q7,q8,q9,f3e⟩:∃ a n c,ur = .slice a n c:=by obtain ⟨a,c,h,_⟩:=hr4;exact ⟨a,_,c,h⟩
      subst f1e f2e f3e;rw [← HXA.out];rw [← HM2.out] at hk4;rw [← HL2.out] at hr4;refine ⟨_,rfl,⟨hS.1.trans (bl4.mono hS.1.size),hS.2.below bl4 hS.2.lt⟩,?_⟩;simp only [Act.put,sq];have HG12:Hid (Blk z4 g12 [.slice none 0 0,.slice none 0 0] 43):=HNW.out.blk.below bl4 HNW.out.blk.lt;have HF:Hid (Below w.heap.size w z4 ∧ Blk z4 gk [.slice k1 k2 k3,.slice k4 k5 k6] 43):=⟨hS.1.trans (bl4.mono hS.1.size),hS.2.below bl4 hS.2.lt⟩
      have HTL:Hid (∀ Z (_ _:True),Only g12 z4 Z → Blk Z g12 [.slice q1 q2 q3,.slice q4 q5 q6] 43 → GoN w gs gd lg gm gk g12 (60 * i) (1 + i) N (.slice k1 k2 k3) (.slice k4 k5 k6) (.slice ra rn rc) (.slice q1 q2 q3) (.slice q4 q5 q6) (.slice q7 q8 q9) m J.l m2 L2 n P Q V m D J Z):=fun Z _ _ ho hb => by
       have hz:Below wr.drew.heap.size wr.drew Z:=(HNW.out.below.trans (bl4.mono HNW.out.below.size)).trans (ho.below HNW.out.ge (Nat.le_trans HNW.out.below.size bl4.size))
       have hR:∀ k,R2 (Um P Q gm) gk gk k → R2 (Um P Q gm) gk g12 k:=fun k hx => by
        rcases hx with hx | hx | hx
        · exact Or.inl hx
        · exact Or.inr (Or.inl hx)
        · exact Or.inr (Or.inl hx)
       have hm:Mut (R2 (Um P Q gm) gk g12) z4 Z:=ho.mut (Or.inr (Or.inr rfl));exact ⟨HI.out.below hz,hk4.go hm (fun k _ h => hR k h),hr4.go hm (fun k _ h => hR k h),hb,Nat.le_trans HI.out.bel.size HNW.out.ge,fun hx => by have:=HI.out.st.ltM g12 hx;have:=HNW.out.ge;omega,fun e => by have:=HI.out.bk.lt;have:=HNW.out.ge;omega⟩
      clear hS;refine tkc 9 (.tuple #[.agg [.slice q1 q2 q3,.slice q4 q5 q6].toArray,.slice q7 q8 q9,.int .i64 xa]) rfl HF.out ?_;simp only [Act.put,sq];refine tkc 10 (.agg [.slice q1 q2 q3,.slice q4 q5 q6].toArray) rfl HF.out ?_;simp only [Act.put,sq];refine tkc 11 (.slice q7 q8 q9) rfl HF.out ?_;simp only [Act.put,sq];refine tkc 12 (.int .i64 xa) rfl HF.out ?_;simp only [Act.put,sq];refine wpAnyH_storeRow 14 43 (.tmp 12) (.tmp 52) g12 [.slice none 0 0,.slice none 0 0] [.slice q1 q2 q3,.slice q4 q5 q6] HG12.out rfl (info_keys _ _) (one_keys _ _ _ _ _ _) (by kernel_rfl) rfl (by rfl) rfl rfl rfl ?_
      intro z6 sr;have HN6:Hid (GoN w gs gd lg gm gk g12 (60 * i) (1 + i) N (.slice k1 k2 k3) (.slice k4 k5 k6) (.slice ra rn rc) (.slice q1 q2 q3) (.slice q4 q5 q6) (.slice q7 q8 q9) m J.l m2 L2 n P Q V m D J z6):=HTL.out z6 trivial trivial sr.only sr.blk;refine ⟨⟨HN6.out.go.bel,HN6.out.go.bk⟩,?_⟩;simp only [Act.put,sq];refine wpAnyH_take (i:=15) (v:=.slice q7 q8 q9) rfl (by kernel_rfl) (by kernel_rfl) (by kernel_rfl) (fun _ _ _ h => h) (Or.inl ⟨by rfl,fun wx hx => by simp [go_sem]⟩) ⟨HN6.out.go.bel,HN6.out.go.bk⟩ ?_
      simp only [Act.put,sq];refine wpAnyH_take (i:=16) (v:=.int .i64 xa) rfl (by kernel_rfl) (by kernel_rfl) (by kernel_rfl) (fun _ _ _ h => h) (Or.inl ⟨by rfl,fun wx hx => by simp [go_sem]⟩) ⟨HN6.out.go.bel,HN6.out.go.bk⟩ ?_
      simp only [Act.put,sq];refine wpAnyH_done (by kernel_rfl) ?_ _
      go_wp2
      go_meet
      case rel => exact ⟨g12,q1,q2,q3,q4,q5,q6,q7,q8,q9,rfl,rfl,rfl,HN6⟩
   case rest =>
    clear HI HDS;obtain ⟨g12,q1,q2,q3,q4,q5,q6,q7,q8,q9,rfl,rfl,rfl,HN⟩:=hcut;have c0:wc.cell? ⟨b,off + i,none⟩ = some (.slice aa an ac):=HCB.out _ HN.out.go.bel
    have HST:Hid (Calls Tryz.prog 23 #[.pointer (some ⟨gs,0,none⟩),.slice aa an ac] wc fun e w' => e = .returned (.int .i64 xa) ∧ ∃ n' P' Q' V' D' J',GoN w gs gd lg gm gk g12 (60 * i + 60) (1 + i + 1) N (.slice k1 k2 k3) (.slice k4 k5 k6) (.slice ra rn rc) (.slice q1 q2 q3) (.slice q4 q5 q6) (.slice q7 q8 q9) m J.l m2 L2 n' P' Q' V' m2 D' J' w' ∧ J'.l = L2):=by
     rw [HXA.out,HM2.out,HL2.out];have hN:=HN.out;rw [HM2.out,HL2.out] at hN;exact go_store2 hN HKW.out HBI.out.2 HBI.out.1 HBA.out HLF.out.1 HLF.out.2
    clear HCB HN;obtain ⟨ta0,ta1,ta2,ta3,ta4,ta5,ta6,ta7,ta8⟩:=sqk9
    go_wp2_with (first
     | (clear ta0;with_reducible refine wpSeq_idxAA (.tmp 56) (.tmp 57) b off Na cp i HIN.out ?_ ?_ ?_ ?_ ?_
        · rfl
        · rfl
        · rfl
        · rfl)
     | (clear ta1;go_at_call 23;refine (HST.out).mono ?_;rintro e2 z2 ⟨rfl,n2,P2,Q2,V2,D2,J2,hn2,hl2⟩
        have HN2:Hid (GoN w gs gd lg gm gk g12 (60 * i + 60) (1 + i + 1) N (.slice k1 k2 k3) (.slice k4 k5 k6) (.slice ra rn rc) (.slice q1 q2 q3) (.slice q4 q5 q6) (.slice q7 q8 q9) m J.l m2 L2 n2 P2 Q2 V2 m2 D2 J2 z2):=hn2;have HL3:Hid (J2.l = L2):=hl2;clear hn2 hl2 HST c0)
     | (clear ta2;with_reducible refine wpSeq_loadW 43 (.tmp 12) g12 0 [.slice q1 q2 q3,.slice q4 q5 q6] _ (Blk.range HN2.out.bl) Tryz.underlying43 rfl (info_keys _ _) ?_ ?_ ?_ ?_
        · rfl
        · rfl
        · rfl)
     | (clear ta3;with_reducible refine wpSeq_storeRow 43 (.tmp 9) (.tmp 63) gk [.slice k1 k2 k3,.slice k4 k5 k6] [.slice q1 q2 q3,.slice q4 q5 q6] HN2.out.go.bk rfl (info_keys _ _) (one_keys _ _ _ _ _ _) ?_ ?_ ?_ ?_ ?_
        · rfl
        · rfl
        · rfl
        · rfl
        intro z5 sr
        have HI5:Hid (GoI w gs gd lg gm gk (60 * (i + 1)) (1 + (i + 1)) N (.slice q1 q2 q3) (.slice q4 q5 q6) (.slice q7 q8 q9) m2 J2.l n2 P2 Q2 V2 m2 D2 J2 z5):=by
         have h:=HN2.out.go.put (Below.refl _ _) sr.only sr.blk HN2.out.ky HN2.out.re;rw [← HL3.out] at h;exact h
        have HDP:Hid (D2.wait.length ≤ 200 ∧ (dumpD D2).length < 100000000 ∧ rdL14 (dumpD D2) = J2.l):=dump_facts HI5.out;clear sr)
     | (clear ta4;go_at_call 25;refine (dkDump_b HI5.out.st.pk.dk HDP.out.1).mono ?_;rintro e6 z6 ⟨vd,rfl,hr6,bl6⟩
        have HR6:Hid (Reads z6 vd (dumpD D2)):=hr6;replace HI5:Hid (GoI w gs gd lg gm gk (60 * (i + 1)) (1 + (i + 1)) N (.slice q1 q2 q3) (.slice q4 q5 q6) (.slice q7 q8 q9) m2 J2.l n2 P2 Q2 V2 m2 D2 J2 z6):=HI5.out.below bl6;clear hr6 bl6)
     | (clear ta5;go_at_call 24;refine (nRead_any vd (dumpD D2) HDP.out.2.1 z6 HR6.out).mono ?_;rintro e7 z7 ⟨lv,rfl,hl7,bl7⟩
        rw [HDP.out.2.2] at hl7;have HR7:Hid (ReadsL z7 lv J2.l):=hl7;obtain ⟨al,nl,cl,hlv⟩:∃ a n c,lv = .slice a n c:=by obtain ⟨a,c,h,_⟩:=hl7;exact ⟨a,_,c,h⟩
        subst hlv;obtain ⟨gn,HGN⟩:=sqn ((rdG14 (dumpD D2):Int));obtain ⟨xn,HXN⟩:=sqn (rdX14 (dumpD D2));rw [← HGN.out,← HXN.out];replace HI5:Hid (GoI w gs gd lg gm gk (60 * (i + 1)) (1 + (i + 1)) N (.slice q1 q2 q3) (.slice q4 q5 q6) (.slice q7 q8 q9) m2 J2.l n2 P2 Q2 V2 m2 D2 J2 z7):=HI5.out.below bl7;have HLI:Hid (Calls Tryz.prog 26 #[.pointer (some ⟨gs,0,none⟩),.agg [.slice q1 q2 q3,.slice q4 q5 q6].toArray,.string sk] z7 fun e w' => e = .returned (.bool true) ∧ Below z7.heap.size z7 w'):=by rw [HSK.out];exact like_is HI5.out.st.rd HI5.out.ky HI5.out.sp.len key HKY.out
        clear hl7 bl7 HR6)
     | (clear ta6;with_reducible refine wpSeq_loadW 43 (.tmp 9) gk 0 [.slice q1 q2 q3,.slice q4 q5 q6] _ (Blk.range HI5.out.bk) Tryz.underlying43 rfl (info_keys _ _) ?_ ?_ ?_ ?_
        · rfl
        · rfl
        · rfl)
     | (clear ta7;go_at_call 26;refine (HLI.out).mono ?_;rintro e8 z8 ⟨rfl,bl8⟩
        have HI8:Hid (GoI w gs gd lg gm gk (60 * (i + 1)) (1 + (i + 1)) N (.slice q1 q2 q3) (.slice q4 q5 q6) (.slice q7 q8 q9) m2 J2.l n2 P2 Q2 V2 m2 D2 J2 z8):=HI5.out.below bl8
        have HSM:Hid (Calls Tryz.prog 27 #[.slice al nl cl,.slice q7 q8 q9] z8 fun e w' => e = .returned (.bool true) ∧ Below z8.heap.size z8 w'):=by
         have h:=nSame_any _ _ J2.l J2.l z8 (HR7.out.below bl8) HI8.out.re.now (by have:=(HI8.out.sp.lg.len (by have:=HI8.out.sp.hi;omega)).1;omega)
         rw [decide_eq_true rfl] at h;exact h
        clear bl8 HLI HR7)
     | (clear ta8;go_at_call 27;refine (HSM.out).mono ?_;rintro e9 z9 ⟨rfl,bl9⟩
        have HI9:Hid (GoI w gs gd lg gm gk (60 * (i + 1)) (1 + (i + 1)) N (.slice q1 q2 q3) (.slice q4 q5 q6) (.slice q7 q8 q9) m2 J2.l n2 P2 Q2 V2 m2 D2 J2 z9):=HI8.out.below bl9;clear bl9 HSM))
    go_wp2;go_roundw
    case rel => exact ⟨q7,q8,q9,i + 1,n2,q1,q2,q3,q4,q5,q6,P2,Q2,V2,m2,D2,J2,rfl,rfl,HIN.out,HI9,by rw [HL3.out];exact HOM2⟩
    case measure => simp [intOf];have:=HIN.out;omega
  case neg =>
   obtain rfl:i = Na:=by omega
   have hlk:¬ ((i:Int) < (i:Int)):=by omega
   have HOP:Hid (Calls Tryz.prog 28 #[.pointer (some ⟨gd,0,none⟩)] wr fun e w' => ∃ go gmo no lv Vo,e = .returned (.tuple #[.pointer (some ⟨go,0,none⟩),.int .i64 0]) ∧ StR w' go gmo no lv Vo m ∧ Mut P wr w' ∧ (∀ k,P k → w.heap.size ≤ k) ∧ KyS (R2 (Um P Q gm) gk gk) w' (.slice k1 k2 k3) (.slice k4 k5 k6) m ∧ Blk w' gk [.slice k1 k2 k3,.slice k4 k5 k6] 43):=open_again HI.out HOM.out HKW.out
   have HBW:Hid (Below w.heap.size w wr):=HI.out.bel;have HML:Hid (m.length < 1000000):=HI.out.sp.len;clear hin hi HI HOM;obtain ⟨tb0,tb1,tb2,tb3⟩:=sqk4
   go_wp2_with (first
    | (clear tb0;go_at_call 28;refine (HOP.out).mono ?_;rintro e6 y6 ⟨go,gmo,no,lv,Vo,rfl,hs6,mu6,hp6,hk6,hb6⟩
       have HS6:Hid (StR y6 go gmo no lv Vo m ∧ KyS (R2 (Um P Q gm) gk gk) y6 (.slice k1 k2 k3) (.slice k4 k5 k6) m ∧ Blk y6 gk [.slice k1 k2 k3,.slice k4 k5 k6] 43):=⟨hs6,hk6,hb6⟩;replace HBW:Hid (Below w.heap.size w y6):=HBW.out.trans (mu6.below HBW.out.size hp6);have HLI:Hid (Calls Tryz.prog 26 #[.pointer (some ⟨go,0,none⟩),.agg [.slice k1 k2 k3,.slice k4 k5 k6].toArray,.string sk] y6 fun e w' => e = .returned (.bool true) ∧ Below y6.heap.size y6 w'):=by rw [HSK.out];exact like_is HS6.out.1 HS6.out.2.1 HML.out key HKY.out
       clear hs6 mu6 hp6 hk6 hb6 HOP)
    | (clear tb1;with_reducible refine wpSeq_loadW 43 (.tmp 9) gk 0 [.slice k1 k2 k3,.slice k4 k5 k6] _ (Blk.range HS6.out.2.2) Tryz.underlying43 rfl (info_keys _ _) ?_ ?_ ?_ ?_
       · rfl
       · rfl
       · rfl)
    | (clear tb2;go_at_call 26;refine (HLI.out).mono ?_;rintro e7 y7 ⟨rfl,bl7⟩
       replace HBW:=sqt HBW bl7;clear bl7 HLI)
    | (clear tb3;go_at_call 10;refine (HWK.out _ HBW.out).mono ?_;rintro e8 y8 ⟨rfl,bl8⟩
       replace HBW:=sqt HBW bl8;clear bl8))
   go_ret;exact ⟨rfl,HBW.out⟩
end Go.Proofs.YtheincjkoefalaaGreatDoor
namespace Go.Proofs.YtheincjkoefalaaGreatDoor
open Go.ChangeShapes Go.WideShapes Go.ChangeAt Go.WideMaps Go.WideElems Go.RowKit
theorem own:ownKnob Tryz.prog.godebug = none:=by kernel_rfl
theorem gKw:Tryz.prog.globalNamed "blazon/sha.roundWords" = some 1:=by kernel_rfl
theorem tKw:(Tryz.prog.globals[1]?).map (·.type) = some 196:=by kernel_rfl
def laidK:List (String × DataW Unit):=[("blazon/sha.roundWords",Rows.laid_blazon_sha_roundWords)]
def kzs:List Int:=kw.map fun x => (x.toNat:Int)
theorem laid_tab:(Rows.laid_blazon_sha_roundWords:DataW Unit) = Lib.tabData .u32 kzs:=by kernel_rfl
theorem door_met (os:Os) (args:Array Value):laidMetH Tryz.prog laidK ((World.doorLaid Tryz.prog 400 os).forCall (fun _ _ => 0) ⟨#[],args,[]⟩).memory:=
 laidMetH_of_parts3 (fuel:=8) (laidMet_of_run' 8 (by kernel_rfl) (by kernel_rfl)) (by kernel_rfl) (by kernel_rfl)
theorem getD_toNat (l:List (BitVec 32)) (j:Nat):(l.map fun x => (x.toNat:Int)).getD j 0 = ((l.getD j 0).toNat:Int):=by
 rw [List.getD_eq_getElem?_getD,List.getD_eq_getElem?_getD,List.getElem?_map]
 cases l[j]? <;> rfl
theorem kok_of_laid {W:World} (h:laidMetH Tryz.prog laidK W):KOk W:=by
 rw [MakeChecks.laidMetH_plain _ _ _ (by kernel_rfl)] at h
 unfold laidK at h
 rw [laid_tab] at h
 have hT:=Lib.tabIs_of_head gKw tKw Tryz.underlying196 Tryz.underlying181 (by kernel_rfl) (by kernel_rfl) h
 intro j hj
 rw [hT.cell gKw j (by simpa [kzs,kw] using hj),kzs,getD_toNat]
theorem cells_byte:Tryz.prog.cellsOf 5 = 1:=by kernel_rfl
theorem laid_out:laidOutB Tryz.prog = true:=by kernel_rfl
theorem byte_range {zs:List Int} (h:∀ n ∈ zs,(Lit.int .u8 n).wf = true) (j:Nat):0 ≤ zs.getD j 0 ∧ zs.getD j 0 < 256:=by
 rw [List.getD_eq_getElem?_getD]
 cases hj:zs[j]? with
 | none => simp
 | some n =>
  have:=h n (List.mem_of_getElem? hj)
  have:=bounds_u8 this
  simp
  omega
theorem cells_bytesJ:Tryz.prog.cellsOf 23 = 1:=by kernel_rfl
theorem cells_boolJ:Tryz.prog.cellsOf 4 = 1:=by kernel_rfl
theorem cells_str15:Tryz.prog.cellsOf 9 = 1:=by kernel_rfl
theorem cells_act15:Tryz.prog.cellsOf 62 = 3:=by kernel_rfl
theorem bytes_byteJ:Tryz.prog.bytesOf 5 = 1:=by kernel_rfl
theorem bytes_act15:Tryz.prog.bytesOf 62 = 48:=by kernel_rfl
theorem weightsAll_memJ {H:Type} {P:Program} {e:TypeId} {q:Nat → Bool}:∀ (l:List (DataW H)),(DataW.weightsAll P e l).all q = true → ∀ d ∈ l,(d.weights P e).all q = true
 | [],_,_,h => by cases h
 | x :: r,hl,d,h => by
  rw [DataW.weightsAll,List.all_append,Bool.and_eq_true] at hl
  rcases List.mem_cons.1 h with rfl | h
  · exact hl.1
  · exact weightsAll_memJ r hl.2 d h
theorem reads_sizedJ {H:Type} {enc:TypeId × Value → H} {W:World} {v:Value} {d:DataW H} {p:List MemPlace} {fuel:Nat} (hf:DataW.trod enc Tryz.prog W 0 (fun _ => true) true fuel 23 [v] = some (d,p)) :
 ∃ bs,Reads W v bs ∧ (∀ N,(d.weights Tryz.prog 23).all (· ≤ N) = true → bs.length ≤ N):=by
 rcases open_ints Tryz.underlying23 Tryz.underlying5 cells_byte hf with ⟨hcs,hx⟩ | ⟨a,len,cap,zs,hcs,_,hl,hm,hz,hx,hcell,hwz⟩
 · simp only [List.cons.injEq,and_true] at hcs
   subst hcs;exact ⟨[],⟨none,0,rfl,Nat.le_refl _,fun _ => rfl,fun h => by cases h⟩,fun _ _ => Nat.zero_le _⟩
 · simp only [List.cons.injEq,and_true] at hcs
   subst hcs;simp only [Prod.mk.injEq] at hx;obtain ⟨rfl,rfl⟩:=hx;simp only [if_true] at hz;have hlen:((zs.take len).map fun n => BitVec.ofInt 8 n).length = len:=by simp;omega
   obtain ⟨ab,ao,spot⟩:=a;refine ⟨(zs.take len).map fun n => BitVec.ofInt 8 n,⟨some ⟨ab,ao,spot⟩,cap,by rw [hlen],by rw [hlen];exact hl,(fun h => by cases h),fun hp => ?_⟩,?_⟩
   · rw [hlen] at hp ⊢
     have hspot:spot = none:=by simpa [Addr.add] using World.cell?_spot (hcell 0 (by omega))
     subst hspot;refine ⟨ab,ao,rfl,fun j hj => ?_⟩
     have hcj:=hcell j (by omega)
     rw [Addr.add_lit] at hcj;rw [hcj];have hb:=byte_range hwz j
     have e:((zs.take len).map fun n => BitVec.ofInt 8 n).getD j 0 = BitVec.ofInt 8 (zs.getD j 0):=by
      rw [List.getD_eq_getElem?_getD,List.getElem?_map,List.getElem?_take_of_lt hj,List.getD_eq_getElem?_getD,List.getElem?_eq_getElem (show j < zs.length by omega)]
      rfl
     rw [e,BitVec.toNat_ofInt]
     congr 2
     omega
   · intro N hN
     rw [hlen];rw [DataW.weights] at hN;simp only [Tryz.underlying23,bytes_byteJ,Nat.mul_one,List.all_cons,Bool.and_eq_true,decide_eq_true_eq] at hN;have h3:(lits (H:=H) .u8 (zs.take len)).length = len:=by simp [lits];omega
     have:=hN.1;omega
theorem strB_of (s:ByteArray):∃ nm,s = strB nm:=by
 refine ⟨s.data.toList.map fun b => BitVec.ofNat 8 b.toNat,?_⟩
 have h:=strB_data (s.data.toList.map fun b => BitVec.ofNat 8 b.toNat)
 have h2:(s.data.toList.map fun b => BitVec.ofNat 8 b.toNat).map (fun b => UInt8.ofNat b.toNat) = s.data.toList:=by
  rw [List.map_map]
  have:((fun b:BitVec 8 => UInt8.ofNat b.toNat) ∘ fun b:UInt8 => BitVec.ofNat 8 b.toNat) = id:=by
   funext b
   simp only [Function.comp,BitVec.toNat_ofNat,id];have:=b.toNat_lt;rw [Nat.mod_eq_of_lt (by omega)]
   simp
  rw [this,List.map_id]
 rw [h2] at h
 obtain ⟨d⟩:=s
 generalize strB _ = t at *
 obtain ⟨e⟩:=t
 simp only at h
 rw [Array.ext' h]
theorem act_sized {H:Type} {enc:TypeId × Value → H} {W:World} {l:List Value} {d:DataW H} {p:List MemPlace} {fuel:Nat} (hf:DataW.trod enc Tryz.prog W 0 (fun _ => true) true fuel 62 l = some (d,p)) :
 ∃ (a:ActT) (vd:Value),l = actC a vd ∧ Reads W vd a.data ∧ (∀ N,(d.weights Tryz.prog 62).all (· ≤ N) = true → a.key.length ≤ N ∧ a.data.length ≤ N):=by
 obtain ⟨y0,y1,y2,n,hx,hl,h0,h1,h2⟩:=Go.Deep.trod_struct3 Tryz.underlying62 hf
 rw [cells_act15] at hl
 rw [cells_str15] at h0
 rw [cells_boolJ] at h1
 rw [cells_bytesJ] at h2
 match l,hl with
 | [c0,c1,c2],_ =>
  obtain ⟨s,e0,ex0,_⟩:=DataW.trod_string Tryz.underlying9 h0
  obtain ⟨b,e1,_⟩:=DataW.trod_bool Tryz.underlying4 h1
  obtain ⟨bs,hr,hbl⟩:=reads_sizedJ (v:=c2) h2
  simp at e0 e1
  subst e0 e1
  obtain ⟨nm,rfl⟩:=strB_of s
  refine ⟨⟨nm,b,bs⟩,c2,rfl,hr,fun N hN => ?_⟩
  simp only [Prod.mk.injEq] at hx
  rw [hx.1,DataW.weights] at hN
  simp only [Tryz.underlying62,List.map_cons,List.map_nil,DataW.weightsEach,List.all_append,Bool.and_eq_true] at hN
  refine ⟨?_,hbl N hN.2.2.1⟩
  have h1:=hN.1
  rw [ex0] at h1
  simp only [DataW.weights,List.all_cons,List.all_nil,Bool.and_true,decide_eq_true_eq] at h1
  have h2:(strB nm).size = nm.length:=strB_size nm
  have h3:(strB nm).data.toList.length = (strB nm).size:=by rw [Array.length_toList];rfl
  show List.length nm ≤ N
  omega
theorem cells_acts15:Tryz.prog.cellsOf 22 = 1:=by kernel_rfl
theorem readable_actss15:Tryz.prog.readableRec 34 = true:=by kernel_rfl
theorem row_actss15:34 < Tryz.prog.types.size:=of_decide_eq_true (by kernel_rfl)
theorem acts15_at {H:Type} {enc:TypeId × Value → H} {W:World} {v:Value} {d:DataW H} {p:List MemPlace} {fuel:Nat} (hf:DataW.trod enc Tryz.prog W 0 (fun _ => true) true fuel 22 [v] = some (d,p)) :
 ∃ l,ReadsA W v l ∧ (∀ N,(d.weights Tryz.prog 22).all (· ≤ N) = true → ∀ a ∈ l,a.key.length ≤ N ∧ a.data.length ≤ N):=by
 rcases Go.Deep.open_slice Tryz.underlying22 hf with ⟨hcs,hx⟩ | ⟨a,len,cap,m,n,D,Pl,hcs,_,hl,hm,hmm,hx,hV⟩
 · simp only [List.cons.injEq,and_true] at hcs
   subst hcs;exact ⟨[],ReadsA.nil _,(fun _ _ _ h => by cases h)⟩
 · simp only [List.cons.injEq,and_true] at hcs
   subst hcs;simp only [Prod.mk.injEq] at hx;obtain ⟨rfl,rfl⟩:=hx;simp only [if_true] at hmm;subst hmm;rw [cells_act15] at hV;have:Inhabited (ActT × Value):=⟨(⟨[],false,[]⟩,.int .i64 0)⟩
   obtain ⟨B,hB⟩:=Go.Deep.choose_lt (α:=ActT × Value) (p:=fun i q => W.cells? 0 (a.add (i * 3)) 3 = some (actC q.1 q.2) ∧ Reads W q.2 q.1.data ∧ (∀ N,((D i).weights Tryz.prog 62).all (· ≤ N) = true → q.1.key.length ≤ N ∧ q.1.data.length ≤ N)) (fun i hi => by
    obtain ⟨cs',h1,h2⟩:=hV i hi;obtain ⟨o,vB,rfl,h3,h4⟩:=act_sized h2;exact ⟨(o,vB),h1,h3,h4⟩)
   have hlen:((List.range len).map fun i => (B i).1).length = len:=by simp
   obtain ⟨ab,ao,spot⟩:=a
   have cell:∀ i,i < m → ∀ j,j < 3 → W.cell? ((⟨ab,ao,spot⟩:Addr).add (i * 3 + j)) = (actC (B i).1 (B i).2)[j]?:=by
    intro i hi j hj;obtain ⟨h1,_⟩:=hB i hi;obtain ⟨_,_,h4⟩:=World.cells?_some h1;have:=h4 j hj;rw [Go.Deep.add_add] at this;exact this
   have hspot:0 < m → spot = none:=fun hp => by
    have h:=cell 0 hp 0 (by omega)
    rw [show (actC (B 0).1 (B 0).2)[0]? = some (.string (strB (B 0).1.key)) from rfl] at h
    simpa [Addr.add] using World.cell?_spot h
   refine ⟨(List.range len).map fun i => (B i).1,⟨some ⟨ab,ao,spot⟩,m,by rw [hlen],by rw [hlen];exact hl,(fun e => by cases e),fun hp => ?_⟩,?_⟩
   · rw [hlen] at hp ⊢
     have hs:=hspot (by omega)
     subst hs;refine ⟨ab,ao,rfl,fun j hj => ?_⟩
     have e:((List.range len).map fun i => (B i).1).getD j ⟨[],false,[]⟩ = (B j).1:=by simp [hj]
     rw [e];refine ⟨(B j).2,fun i u hu => ?_,(hB j (by omega)).2.1⟩
     have hi:i < 3:=by have h:=(List.getElem?_eq_some_iff.1 hu).1;exact h
     have h0:=cell j (by omega) i hi
     rw [Addr.add_lit,hu] at h0;rw [Nat.add_assoc];exact h0
   · intro N hN o ho
     rw [DataW.weights] at hN;simp only [Tryz.underlying22,bytes_act15,List.all_cons,List.all_append,Bool.and_eq_true,decide_eq_true_eq,List.length_map,List.length_range] at hN;obtain ⟨i,hi,rfl⟩:=List.mem_map.1 ho;have hi2:=List.mem_range.1 hi;exact (hB i (by omega)).2.2 N (weightsAll_memJ _ hN.2.1 _ (List.mem_map_of_mem hi))
theorem actss15_sized {H:Type} {enc:TypeId × Value → H} {W:World} {base:Nat} {v:Value} {d:DataW H} {p:List MemPlace} (hval:Value.okWide Tryz.prog W .any base 34 v)
 (h:DataW.Trod enc Tryz.prog W 0 (fun _ => true) true 34 v d p) :
 ∃ ls,ReadsAA W v ls ∧ (∀ N,(d.weights Tryz.prog 34).all (· ≤ N) = true → ∀ l ∈ ls,∀ a ∈ l,a.key.length ≤ N ∧ a.data.length ≤ N) ∧ ∀ x ∈ p,x.block < W.heap.size:=by
 obtain ⟨a1,len,cap,rfl⟩:=okWide_slice Tryz.underlying34 hval
 obtain ⟨fuel,hf⟩:=h
 have hp0:=DataW.trod_lt _ _ _ _ hf
 rcases Go.Deep.open_slice Tryz.underlying34 hf with ⟨hcs,hx⟩ | ⟨a,len',cap',m,n,D,Pl,hcs,_,hl,hm,hmm,hx,hV⟩
 · simp [Value.cells] at hcs
   obtain ⟨rfl,rfl,rfl⟩:=hcs;exact ⟨[],⟨none,0,rfl,Nat.le_refl _,fun h => absurd h (by simp)⟩,(fun _ _ _ h => by cases h),hp0⟩
 · simp [Value.cells] at hcs
   obtain ⟨rfl,rfl,rfl⟩:=hcs;simp only [Prod.mk.injEq] at hx;obtain ⟨rfl,rfl⟩:=hx;simp only [if_true] at hmm;subst hmm;rw [cells_acts15] at hV;have:Inhabited (List ActT × Value):=⟨([],.int .i64 0)⟩
   obtain ⟨B,hB⟩:=Go.Deep.choose_lt (α:=List ActT × Value) (p:=fun i q => W.cells? 0 (a.add (i * 1)) 1 = some [q.2] ∧ ReadsA W q.2 q.1 ∧ (∀ N,((D i).weights Tryz.prog 22).all (· ≤ N) = true → ∀ o ∈ q.1,o.key.length ≤ N ∧ o.data.length ≤ N)) (fun i hi => by
    obtain ⟨cs',h1,h2⟩:=hV i hi;obtain ⟨h5,h6,h7⟩:=World.cells?_some h1
    match cs',h6 with
    | [vB],_ =>
     obtain ⟨o,h3,h4⟩:=acts15_at h2;exact ⟨(o,vB),h1,h3,h4⟩)
   have hlen:((List.range len).map fun i => (B i).1).length = len:=by simp
   obtain ⟨ab,ao,spot⟩:=a
   have cell:∀ i,i < m → W.cell? ((⟨ab,ao,spot⟩:Addr).add i) = some (B i).2:=by
    intro i hi;obtain ⟨h1,_⟩:=hB i hi;obtain ⟨_,_,h4⟩:=World.cells?_some h1;have:=h4 0 (by omega)
    rw [Go.Deep.add_add,Nat.add_zero,Nat.mul_one] at this;exact this
   have hspot:0 < m → spot = none:=fun hp => by
    have h:=cell 0 hp
    simpa [Addr.add] using World.cell?_spot h
   refine ⟨(List.range len).map fun i => (B i).1,⟨some ⟨ab,ao,spot⟩,m,by rw [hlen],by rw [hlen];exact hl,fun hp => ?_⟩,?_,hp0⟩
   · rw [hlen] at hp ⊢
     have hs:=hspot (by omega)
     subst hs;refine ⟨ab,ao,rfl,fun j hj => ?_⟩
     have e:((List.range len).map fun i => (B i).1).getD j [] = (B j).1:=by simp [hj]
     rw [e];have h0:=cell j (by omega)
     rw [Addr.add_lit] at h0;exact ⟨(B j).2,h0,(hB j (by omega)).2.1⟩
   · intro N hN l ho
     rw [DataW.weights] at hN;simp only [Tryz.underlying34,List.all_cons,List.all_append,Bool.and_eq_true,List.length_map,List.length_range] at hN;obtain ⟨i,hi,rfl⟩:=List.mem_map.1 ho;have hi2:=List.mem_range.1 hi;exact (hB i (by omega)).2.2 N (weightsAll_memJ _ hN.2.1 _ (List.mem_map_of_mem hi))
end Go.Proofs.YtheincjkoefalaaGreatDoor

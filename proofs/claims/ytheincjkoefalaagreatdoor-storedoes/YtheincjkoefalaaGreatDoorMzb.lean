/- Texts that the proof leans on, one behind the other: The program's disk in memory: sectors, writes that wait, its cells; what single operations do (layer 13). The walks of disk's New, Size, Pending, refused, change and Fuse (layer 13). The walks of disk's seen and Read (layer 13). .. -/
import Derived.Test.YtheincjkoefalaaGreatDoorMza
import Derived.Great.BuildSlice
import Derived.Maps.AppendAt
set_option maxRecDepth 100000
set_option maxHeartbeats 16000000
namespace Go.Proofs.YtheincjkoefalaaGreatDoor
open Go.RowKit
theorem wpAnyH_comm {P:Program} {md:Region.Mode} {ops:Array Oper} {Q:Exit → Act → World → Prop} {S:World → Prop} {fuel:Nat} {listed:Array Bool} {a:Act} {w:World} (i j:Nat) {oi oj:Oper} (v u:Value) (w':World)
 (hr:Region.ready md ops listed = [i,j]) (hi:ops[i]? = some oi) (hj:ops[j]? = some oj)
 (wi:Region.wanted oi (yielded ops a.tmps) = true) (wj:Region.wanted oj (yielded ops a.tmps) = true) (wi2:Region.wanted oi (yielded ops (a.put oj.dst u).tmps) = true) (wj2:Region.wanted oj (yielded ops (a.put oi.dst v).tmps) = true)
 (ei:(execOp a.eval oi).run P w = .ok (.value v) w) (ej:(execOp a.eval oj).run P w = .ok (.value u) w') (ei2:(execOp (a.put oj.dst u).eval oi).run P w' = .ok (.value v) w') (ej2:(execOp (a.put oi.dst v).eval oj).run P w = .ok (.value u) w')
 (hr1:Region.ready md ops (listed.setIfInBounds i true) = [j]) (hr2:Region.ready md ops (listed.setIfInBounds j true) = [i])
 (hp:(a.put oj.dst u).put oi.dst v = (a.put oi.dst v).put oj.dst u) (hl:(listed.setIfInBounds j true).setIfInBounds i true = (listed.setIfInBounds i true).setIfInBounds j true)
 (hS:S w) (hS':S w') (h:wpAnyH P md ops Q S fuel ((listed.setIfInBounds i true).setIfInBounds j true) ((a.put oi.dst v).put oj.dst u) w'):wpAnyH P md ops Q S (fuel + 2) listed a w:=by
 refine wpAnyH_all hr (by simp) (fun k hk => ?_)
 rcases List.mem_cons.1 hk with rfl | hk
 · exact wpOp_vl k v w hi wi ei ⟨hS,wpAnyH_step j u w' hr1 hj wj2 ej2 hS' h⟩
 · obtain rfl:k = j:=by simpa using hk
   refine wpOp_vl k u w' hj wj ej ⟨hS',wpAnyH_step i v w' hr2 hi wi2 ei2 hS' ?_⟩;rw [hl,hp];exact h

def zs64:Bs:=List.replicate 64 0
theorem len_zs64:zs64.length = 64:=List.length_replicate ..
theorem Tryz.infoSc:(Tryz.prog.info? 107).map (fun i => (i.zero,i.size,i.bytes)) = some (some (.agg (cb zs64).toArray),64,64):=by kernel_rfl
theorem Tryz.infoDw:(Tryz.prog.info? 109).map (fun i => (i.zero,i.size,i.bytes)) = some (some (.agg (Value.int .i64 0 :: cb zs64).toArray),65,72):=by kernel_rfl
theorem size_sc:(Tryz.prog.info? 107).map (·.size) = some 64:=by kernel_rfl
theorem size_dw:(Tryz.prog.info? 109).map (·.size) = some 65:=by kernel_rfl
def wrC (p:Nat × Bs):List Value:=.int .i64 (p.1:Int) :: cb p.2
theorem wrC_len {p:Nat × Bs} (h:p.2.length = 64):(wrC p).length = 65:=by rw [wrC,List.length_cons,cb_len,h]
theorem wrC_one (p:Nat × Bs):∀ v ∈ wrC p,v.oneCell' = true:=fun v hv => by
 rcases List.mem_cons.1 hv with rfl | hv
 · rfl
 · exact cb_one _ v hv
def flatV (l:List (Nat × Bs)):List Value:=(l.map wrC).flatten
theorem flatV_cons (p:Nat × Bs) (l:List (Nat × Bs)):flatV (p :: l) = wrC p ++ flatV l:=rfl
theorem flatV_snoc (l:List (Nat × Bs)) (p:Nat × Bs):flatV (l ++ [p]) = flatV l ++ wrC p:=by simp [flatV]
theorem flatV_at:∀ (l:List (Nat × Bs)),(∀ p ∈ l,p.2.length = 64) → ∀ (j:Nat) (p:Nat × Bs),l[j]? = some p → ∀ i v,(wrC p)[i]? = some v → (flatV l)[j * 65 + i]? = some v
 | [],_,j,p,h,_,_,_ => by simp at h
 | q :: l,hl,0,p,h,i,v,hv => by
  simp only [List.getElem?_cons_zero,Option.some.injEq] at h
  subst h
  have hi:i < (wrC q).length:=(List.getElem?_eq_some_iff.1 hv).1
  rw [flatV_cons,Nat.zero_mul,Nat.zero_add,List.getElem?_append_left hi]
  exact hv
 | q :: l,hl,j + 1,p,h,i,v,hv => by
  simp only [List.getElem?_cons_succ] at h
  have:=flatV_at l (fun x hx => hl x (by simp [hx])) j p h i v hv
  have hq:=wrC_len (hl q (by simp))
  rw [flatV_cons,List.getElem?_append_right (by rw [hq];omega),hq,show (j + 1) * 65 + i - 65 = j * 65 + i by omega]
  exact this
def OwnV (w:World) (v:Value) (l:List (Nat × Bs)):Prop:=w.ownsRow 0 109 65 v l.length (flatV l)
theorem OwnV.nil (w:World):OwnV w (.slice none 0 0) []:=World.ownsRow_nil _ _ _ _
theorem OwnV.lt {w:World} {v:Value} {l:List (Nat × Bs)} (h:OwnV w v l):∀ k,v.ownBlock = some k → k < w.heap.size:=fun k hk => (World.ownsRow.lt h k hk).2
theorem OwnV.same {w w':World} {v:Value} {l:List (Nat × Bs)} (h:OwnV w v l) (hs:∀ k,v.ownBlock = some k → w'.heap[k]? = w.heap[k]?):OwnV w' v l:=by
 rcases h with ⟨h1,⟨rfl,h2⟩ | ⟨g,cap,cur,rfl,hg,hh,h3⟩⟩
 · exact ⟨h1,Or.inl ⟨rfl,h2⟩⟩
 · exact ⟨h1,Or.inr ⟨g,cap,cur,rfl,hg,by rw [hs g rfl];exact hh,h3⟩⟩
theorem OwnV.ne {w:World} {v:Value} {l:List (Nat × Bs)} (h:OwnV w v l) {g:Nat} {cs:List Value} {t:TypeId} (hb:Blk w g cs t) (ht:t ≠ 109):v.ownBlock ≠ some g:=fun e => by
 rcases h with ⟨_,⟨rfl,_⟩ | ⟨g',cap,cur,rfl,hg,hh,_⟩⟩
 · cases e
 · have e2:g' = g:=by simpa [Value.ownBlock] using e
   subst e2;unfold Blk at hb;rw [hh] at hb;simp only [Option.some.injEq,Obj.cells.injEq] at hb;exact ht hb.2.1.symm
theorem OwnV.form {w:World} {v:Value} {l:List (Nat × Bs)} (h:OwnV w v l):∃ ad c,v = .slice ad l.length c:=by
 rcases h with ⟨_,⟨rfl,h2⟩ | ⟨g',cap,cur,rfl,_⟩⟩
 · exact ⟨none,0,by rw [h2]⟩
 · exact ⟨_,_,rfl⟩
theorem OwnV.at {w:World} {ad:Option Addr} {n c:Nat} {l:List (Nat × Bs)} (h:OwnV w (.slice ad n c) l) (hl:∀ p ∈ l,p.2.length = 64) (hp:0 < l.length):∃ b,ad = some ⟨b,0,none⟩ ∧ ∀ j,j < l.length → w.rangeAt b (j * 65) (wrC (l.getD j (0,[]))):=by
 obtain ⟨h1,h2⟩:=id h
 rcases h2 with ⟨_,h0⟩ | ⟨b,cap,cur,hv,_,hh,_,_,_,ht⟩
 · omega
 simp only [Value.slice.injEq] at hv
 obtain ⟨rfl,_,_⟩:=hv
 refine ⟨b,rfl,fun j hj i v hv => ?_⟩
 have e:l[j]? = some (l.getD j (0,[])):=by rw [List.getD_eq_getElem?_getD,List.getElem?_eq_getElem hj];rfl
 have h3:=flatV_at l hl j _ e i v hv
 have hi:i < 65:=by
  have h4:=(List.getElem?_eq_some_iff.1 hv).1
  rwa [wrC_len (hl _ (List.mem_of_getElem? e))] at h4
 rw [cell_of_row w b _ cur 109 (0,0) hh]
 rw [← ht,List.getElem?_take_of_lt (by omega)] at h3
 simpa using h3
theorem Blk.neT {w:World} {g g':Nat} {cs cs':List Value} {t t':TypeId} (h:Blk w g cs t) (h':Blk w g' cs' t') (ht:t ≠ t'):g ≠ g':=fun e => by
 subst e
 unfold Blk at h h'
 rw [h] at h'
 simp only [Option.some.injEq,Obj.cells.injEq] at h'
 exact ht h'.2.1
def dkC (gs n:Nat) (vw:Value) (dn fu:Bool) (lf:Int):List Value:=[.slice (some ⟨gs,0,none⟩) n n,vw,.bool dn,.bool fu,.int .i64 lf]
structure DkM (w:World) (g gs:Nat) (vw:Value) (fu:Bool) (lf:Int) (D:DkT):Prop where
 me:Blk w g (dkC gs (sizeD D) vw D.down fu lf) 94
 sf:Blk w gs (cb D.safe) 107
 wt:OwnV w vw D.wait
 ok:okD D
 fs:fu = decide (0 ≤ D.left)
 ls:0 ≤ D.left → lf = D.left
def dkP (g gs:Nat) (vw:Value):Nat → Prop:=fun k => k = g ∨ k = gs ∨ vw.ownBlock = some k
def DkIs (w:World) (g:Nat) (P:Nat → Prop) (D:DkT):Prop:=∃ gs vw fu lf,DkM w g gs vw fu lf D ∧ P = dkP g gs vw
theorem DkM.ne {w:World} {g gs:Nat} {vw:Value} {fu:Bool} {lf:Int} {D:DkT} (h:DkM w g gs vw fu lf D):g ≠ gs ∧ vw.ownBlock ≠ some g ∧ vw.ownBlock ≠ some gs:=⟨h.me.neT h.sf (by decide),h.wt.ne h.me (by decide),h.wt.ne h.sf (by decide)⟩
theorem DkM.lt {w:World} {g gs:Nat} {vw:Value} {fu:Bool} {lf:Int} {D:DkT} (h:DkM w g gs vw fu lf D):∀ k,dkP g gs vw k → k < w.heap.size:=fun k hk => by
 rcases hk with rfl | rfl | hk
 · exact h.me.lt
 · exact h.sf.lt
 · exact h.wt.lt k hk
theorem blk_same {w w':World} {g:Nat} {cs:List Value} {t:TypeId} (h:Blk w g cs t) (e:w'.heap[g]? = w.heap[g]?):Blk w' g cs t:=by unfold Blk at *;rw [e];exact h
theorem DkM.same {w w':World} {g gs:Nat} {vw:Value} {fu:Bool} {lf:Int} {D:DkT} (h:DkM w g gs vw fu lf D) (hs:∀ k,dkP g gs vw k → w'.heap[k]? = w.heap[k]?):DkM w' g gs vw fu lf D:=
 ⟨blk_same h.me (hs g (Or.inl rfl)),blk_same h.sf (hs gs (Or.inr (Or.inl rfl))),h.wt.same (fun k hk => hs k (Or.inr (Or.inr hk))),h.ok,h.fs,h.ls⟩
theorem DkM.below {w w':World} {g gs:Nat} {vw:Value} {fu:Bool} {lf:Int} {D:DkT} (h:DkM w g gs vw fu lf D) (hb:Below w.heap.size w w'):DkM w' g gs vw fu lf D:=h.same (fun k hk => hb.block k (h.lt k hk))
theorem DkM.mine {w w':World} {g gs:Nat} {vw vw':Value} {fu fu':Bool} {lf lf':Int} {D D':DkT} (h:DkM w g gs vw fu lf D) (ho:Only g w w') (hb:Blk w' g (dkC gs (sizeD D') vw' D'.down fu' lf') 94) (h1:D'.safe = D.safe) (hw:OwnV w' vw' D'.wait) (ok:okD D') (h3:fu' = decide (0 ≤ D'.left)) (h4:0 ≤ D'.left → lf' = D'.left):DkM w' g gs vw' fu' lf' D':=
 ⟨hb,by rw [h1];exact h.sf.only ho (Ne.symm h.ne.1),hw,ok,h3,h4⟩
theorem DkM.wtOnly {w w':World} {g gs:Nat} {vw:Value} {fu:Bool} {lf:Int} {D:DkT} (h:DkM w g gs vw fu lf D) (ho:Only g w w'):OwnV w' vw D.wait:=h.wt.same (fun k hk => ho.block k (fun e => h.ne.2.1 (e ▸ hk)) (h.wt.lt k hk))
theorem DkM.sect {w w':World} {g gs:Nat} {vw:Value} {fu:Bool} {lf:Int} {D:DkT} {b:Bs} (h:DkM w g gs vw fu lf D) (ho:Only gs w w') (hb:Blk w' gs (cb b) 107) (hl:b.length = D.safe.length):DkM w' g gs vw fu lf ⟨b,D.wait,D.left,D.down⟩:=by
 have e:sizeD ⟨b,D.wait,D.left,D.down⟩ = sizeD D:=by show b.length / 64 = _;rw [hl];rfl
 refine ⟨by rw [e];exact h.me.only ho h.ne.1,hb,h.wt.same (fun k hk => ho.block k (fun e => h.ne.2.2 (e ▸ hk)) (h.wt.lt k hk)),⟨?_,h.ok.lo,h.ok.hi⟩,h.fs,h.ls⟩
 obtain ⟨n,h1,h2,h3,h4⟩:=h.ok.ex
 exact ⟨n,h1,h2,by rw [hl];exact h3,h4⟩
theorem idxSec (gs n k:Nat) (hk:k < n) (f:Operand → Value) (o:Oper) (x y:Operand) (ho:o.op = .indexAddr 91 x y) (hx:f x = .slice (some ⟨gs,0,none⟩) n n) (hy:f y = .int .i64 (k:Int)) (w:World) :
 (execOp f o).run Tryz.prog w = .ok (.value (.pointer (some ⟨gs,64 * k,none⟩))) w:=by
 have k0:(0:Int) ≤ (k:Int):=by omega
 have k1:(k:Int) < (n:Int):=by omega
 have hs:(sizeOf 107).run Tryz.prog w = .ok 64 w:=by kernel_rfl
 unfold execOp
 rw [ho]
 simp [go_sem,hx,hy,k0,k1,Addr.add_mid,hs]
 try omega
theorem idxWr (b n c k:Nat) (hk:k < n) (f:Operand → Value) (o:Oper) (x y:Operand) (ho:o.op = .indexAddr 92 x y) (hx:f x = .slice (some ⟨b,0,none⟩) n c) (hy:f y = .int .i64 (k:Int)) (w:World) :
 (execOp f o).run Tryz.prog w = .ok (.value (.pointer (some ⟨b,k * 65,none⟩))) w:=by
 have k0:(0:Int) ≤ (k:Int):=by omega
 have k1:(k:Int) < (n:Int):=by omega
 have hs:(sizeOf 109).run Tryz.prog w = .ok 65 w:=by kernel_rfl
 unfold execOp
 rw [ho]
 simp [go_sem,hx,hy,k0,k1,Addr.add_mid,hs]
theorem sliceSec (b off:Nat) (f:Operand → Value) (o:Oper) (x:Operand) (ho:o.op = .slice 107 x none none none) (hx:f x = .pointer (some ⟨b,off,none⟩)) (w:World) :
 (execOp f o).run Tryz.prog w = .ok (.value (.slice (some ⟨b,off,none⟩) 64 64)) w:=by
 unfold execOp
 rw [ho]
 simp only [hx,Option.map_none]
 kernel_rfl
theorem cutFrom (b off n c l:Nat) (hl:l < n) (hc:n ≤ c) (f:Operand → Value) (o:Oper) (x y:Operand) (ho:o.op = .slice 23 x (some y) none none) (hx:f x = .slice (some ⟨b,off,none⟩) n c) (hy:f y = .int .i64 (l:Int)) (w:World) :
 (execOp f o).run Tryz.prog w = .ok (.value (.slice (some ⟨b,off + l,none⟩) (n - l) (c - l))) w:=by
 have hs:(sizeOf 5).run Tryz.prog w = .ok 1 w:=by kernel_rfl
 have l0:(0:Int) ≤ (l:Int):=by omega
 have l1:(l:Int) ≤ (n:Int):=by omega
 unfold execOp
 rw [ho]
 simp only [hx,hy,Option.map_some,Option.map_none,Sem.run_bind]
 rw [run_sliceAt_slice w 23 _ _ _ _ (by kernel_rfl),run_slice_l w 23 _ _ _ (by kernel_rfl) .i64 (l:Int) (by omega) (by omega)]
 rw [show Tryz.prog.elem 23 = 5 from by kernel_rfl,hs]
 simp only [Result.andThen_ok,sliced,Int.toNat_natCast,Nat.mul_one]
 rw [if_neg (by omega)]
 simp [Addr.add_mid]
theorem loadSec (b off:Nat) (x:Bs) (hx:x.length = 64) {a:Act} {o:Oper} (y:Operand) (ho:o.op = .load 107 y) (hy:a.eval y = .pointer (some ⟨b,off,none⟩)) {w:World} (hr:w.rangeAt b off (cb x)):(execOp a.eval o).run Tryz.prog w = .ok (.value (.agg (cb x).toArray)) w:=
 load_run 107 y ho b off hy (cb x) _ hr Tryz.underlying107 rfl (by rw [cb_len,hx];exact size_sc)
theorem loadWr (b off:Nat) (p:Nat × Bs) (hp:p.2.length = 64) {a:Act} {o:Oper} (y:Operand) (ho:o.op = .load 109 y) (hy:a.eval y = .pointer (some ⟨b,off,none⟩)) {w:World} (hr:w.rangeAt b off (wrC p)):(execOp a.eval o).run Tryz.prog w = .ok (.value (.agg (wrC p).toArray)) w:=
 load_run 109 y ho b off hy (wrC p) _ hr Tryz.underlying109 rfl (by rw [wrC_len hp];exact size_dw)
theorem copyO (f:Operand → Value) (o:Oper) (d s:Operand) (ho:o.op = .call { callee:=.builtin .copy,args:=#[d,s],argTypes:=#[23,23] }) (w:World) (g k dLen dCap b off sLen sCap:Nat) (t:TypeId) (cs:List Value) (xs:Bs) (hg:Blk w g cs t) (hm:xs.length = min sLen dLen) (hk:k + xs.length ≤ cs.length)
 (hsrc:∀ j,j < xs.length → w.cell? ⟨b,off + j,none⟩ = some (.int .u8 ((xs.getD j 0).toNat:Int))) (hx:f d = .slice (some ⟨g,k,none⟩) dLen dCap) (hy:f s = .slice (some ⟨b,off,none⟩) sLen sCap) :
 ∃ w',(execOp f o).run Tryz.prog w = .ok (.value (.int .i64 (xs.length:Int))) w' ∧ Blk w' g (cs.take k ++ cb xs ++ cs.drop (k + xs.length)) t ∧ Only g w w':=by
 have hcp:∀ ty,(Builtin.copy_ #[23,23] ty #[.slice (some ⟨g,k,none⟩) dLen dCap,.slice (some ⟨b,off,none⟩) sLen sCap]).run Tryz.prog w = .ok (goInt (cb xs).length) (w.setCells g k (cb xs)):=fun ty =>
  run_copy_cells w _ _ ty 5 g k dLen dCap ⟨b,off,none⟩ sLen sCap (cb xs) Tryz.underlying23 (by kernel_rfl) (by rw [cb_len];exact hm)
   (fun j u hj => by
     have hjl:j < xs.length:=by have:=(List.getElem?_eq_some_iff.1 hj).1;rwa [cb_len] at this
     rw [Addr.add_mid,hsrc j hjl,← hj,cb_get xs j hjl])
   (fun j hj => by rw [hg.cell,List.getElem?_eq_getElem (by rw [cb_len] at hj;omega)];rfl) (fun j _ => hg.frozen _) (cb_one _)
 refine ⟨w.setCells g k (cb xs),?_,?_,Only.setCells _ _ _ (Only.refl g w)⟩
 · unfold execOp
   rw [ho];rw [cb_len] at hcp;simp [resolve,invoke,builtin,hx,hy,hcp,Result.andThen]
   rfl
 · have:=setCells_eq g (cb xs) k w cs t hg (by rw [cb_len];exact hk)
   rwa [cb_len] at this
theorem cb_rep (n j:Nat) (h:j < (cb (List.replicate n (0:BitVec 8))).length):(cb (List.replicate n (0:BitVec 8)))[j] = .int .u8 0:=by
 simp only [cb,List.getElem_map,List.getElem_replicate]
 rfl
theorem madeSc (n:Nat):madeCells (cb zs64).toArray (n * 64) = (cb (List.replicate (64 * n) (0:BitVec 8))).toArray:=by
 apply Array.ext
 · rw [size_madeCells,List.size_toArray,cb_len,List.length_replicate,Nat.mul_comm]
 · intro j h1 h2
   have hm:j % 64 < 64:=Nat.mod_lt _ (by decide)
   have hz:(cb zs64).toArray.size = 64:=by rw [List.size_toArray,cb_len,len_zs64]
   simp only [madeCells,Array.getElem_map,Array.getElem_range,hz];rw [getElem!_pos _ _ (by rw [hz];exact hm),List.getElem_toArray,List.getElem_toArray]
   unfold zs64;rw [cb_rep,cb_rep]
theorem make_sc (f:Operand → Value) (o:Oper) (x y:Operand) (n:Nat) (hn:n ≤ 1000000) (ho:o.op = .makeSlice 91 x y) (hx:f x = .int .i64 (n:Int)) (hy:f y = .int .i64 (n:Int)) (w:World) :
 (execOp f o).run Tryz.prog w = .ok (.value (.slice (some ⟨w.heap.size,0,none⟩) n n)) (w.alloc (.cells (cb (List.replicate (64 * n) (0:BitVec 8))).toArray 107)):=by
 obtain ⟨i0,hi,hz,hs,hby⟩:=info_parts Tryz.infoSc
 have hr:=run_make (P:=Tryz.prog) w 91 107 i0 _ Tryz.underlying91 hi hz .i64 .i64 (n:Int) (n:Int) (by omega) (Int.le_refl _) (by rw [hby];omega) (by omega)
 rw [Int.toNat_natCast,hs] at hr
 rw [show Value.cells (.agg (cb zs64).toArray) = (cb zs64).toArray from rfl,madeSc] at hr
 unfold execOp
 rw [ho]
 simp only [hx,hy,Sem.run_bind,hr,Result.andThen_ok,Sem.run_pure]
theorem wpSeq_makeSc {ops:Array Oper} {Q:Exit → Act → World → Prop} {rest:List Oper} {o:Oper} {a:Act} {w:World} (x y:Operand) (n:Nat) (hn:n ≤ 1000000) (ho:o.op = .makeSlice 91 x y) (hx:a.eval x = .int .i64 (n:Int)) (hy:a.eval y = .int .i64 (n:Int)) (hw:Region.wanted o (yielded ops a.tmps) = true)
 (h:∀ g w',NewR (cb (List.replicate (64 * n) (0:BitVec 8))) 107 w g w' → wpList Tryz.prog ops Q rest (a.put o.dst (.slice (some ⟨g,0,none⟩) n n)) w'):wpList Tryz.prog ops Q (o :: rest) a w:=
 wpSeq_val _ _ hw (make_sc _ o x y n hn ho hx hy w) (h _ _ (NewR.of _ _ w))
theorem built_dk (ad:Option Addr) (n c:Nat):∀ ps,ps = [(0,Value.slice ad n c)] → Tryz.prog.built 94 ps = some [Value.slice ad n c,.slice none 0 0,.bool false,.bool false,.int .i64 0].toArray:=fun ps h => by subst h;kernel_rfl
theorem size_zero (n:Nat):sizeD (zeroD n) = n:=by show (List.replicate (64 * n) (0:BitVec 8)).length / 64 = n;rw [List.length_replicate,Nat.mul_div_cancel_left _ (by decide)]
theorem dkNew_m (w:World) (n:Nat) (h1:1 ≤ n) (h2:n ≤ 16384):Calls Tryz.prog 35 #[.int .i64 (n:Int)] w fun r w' => ∃ g gs,r = .returned (.tuple #[.pointer (some ⟨g,0,none⟩),.int .i64 0]) ∧ DkM w' g gs (.slice none 0 0) false 0 (zeroD n) ∧ Below w.heap.size w w' ∧ w.heap.size ≤ g ∧ w.heap.size ≤ gs:=by
 have q1:¬ ((n:Int) < 1):=by omega
 have q2:¬ ((16384:Int) < (n:Int)):=by omega
 have HR:Hid (1 ≤ n ∧ n ≤ 16384):=⟨h1,h2⟩
 have HMX:Hid (n ≤ 1000000):=Nat.le_trans h2 (by decide)
 clear h1 h2
 go_enter Tryz.func35,Tryz.ntmps35
 obtain ⟨tk0,tk1,tk2⟩:=sqk3
 go_wp2_with (first
  | (clear tk0;with_reducible refine wpSeq_makeSc (.tmp 10) (.tmp 10) n HMX.out ?_ ?_ ?_ ?_ ?_
     · rfl
     · rfl
     · rfl
     · rfl
     intro gs y1 nn;have HS:Hid (Blk y1 gs (cb (List.replicate (64 * n) (0:BitVec 8))) 107):=nn.blk;have HB:Hid (Below w.heap.size w y1):=nn.below;have HG:Hid (w.heap.size ≤ gs):=nn.ge;clear nn)
  | (clear tk1;with_reducible refine wpSeq_build 94 [(0,.tmp 11)] [.slice (some ⟨gs,0,none⟩) n n,.slice none 0 0,.bool false,.bool false,.int .i64 0] ?_ ?_ ?_ ?_
     rotate_left
     · rfl
     · rfl
     rotate_left
     · exact built_dk _ _ _ _ rfl)
  | (clear tk2;with_reducible refine wpSeq_boxW 94 (.tmp 12) [.slice (some ⟨gs,0,none⟩) n n,.slice none 0 0,.bool false,.bool false,.int .i64 0] ?_ ?_ ?_ ?_
     · rfl
     · rfl
     · rfl
     intro g y2 nn;have HD:Hid (Blk y2 g [.slice (some ⟨gs,0,none⟩) n n,.slice none 0 0,.bool false,.bool false,.int .i64 0] 94):=nn.blk;replace HS:Hid (Blk y2 gs (cb (List.replicate (64 * n) (0:BitVec 8))) 107):=HS.out.below nn.below HS.out.lt;have HGG:Hid (w.heap.size ≤ g):=Nat.le_trans HB.out.size nn.ge;replace HB:Hid (Below w.heap.size w y2):=HB.out.trans (nn.below.mono HB.out.size);clear nn))
 refine bodyPost_ret (results_tmp2 rfl _ _ _) rfl ?_
 refine ⟨g,rfl,gs,⟨?_,HS.out,OwnV.nil _,okD_zero HR.out.1 HR.out.2,rfl,fun h => absurd h (by show ¬ (0:Int) ≤ -1;decide)⟩,HB.out,HGG.out,HG.out⟩
 rw [size_zero]
 exact HD.out
theorem dkRefused_any {w:World} {g gs:Nat} {vw:Value} {fu:Bool} {lf:Int} {D:DkT} (i:Int) (hm:DkM w g gs vw fu lf D):Calls Tryz.prog 111 #[.pointer (some ⟨g,0,none⟩),.int .i64 i] w fun r w' => r = .returned (.int .i64 (readX13 D i)) ∧ w' = w:=by
 obtain ⟨n,HN⟩:=sqn (sizeD D)
 obtain ⟨aw,cw,hvw⟩:=hm.wt.form
 obtain ⟨nw,HNW⟩:=sqn (D.wait.length)
 rw [← HNW.out] at hvw
 subst hvw
 obtain ⟨dn,HDN⟩:=sqn (D.down)
 have HM:Hid (DkM w g gs (.slice aw nw cw) fu lf D):=hm
 have HME:Hid (Blk w g [.slice (some ⟨gs,0,none⟩) n n,.slice aw nw cw,.bool dn,.bool fu,.int .i64 lf] 94):=by have h9:=hm.me;rw [dkC,← HN.out,← HDN.out] at h9;exact h9
 have c0:w.cell? ⟨g,0,none⟩ = some (.slice (some ⟨gs,0,none⟩) n n):=HME.out.cell 0
 have c1:w.cell? ⟨g,1,none⟩ = some (.slice aw nw cw):=HME.out.cell 1
 have c2:w.cell? ⟨g,2,none⟩ = some (.bool dn):=HME.out.cell 2
 have c3:w.cell? ⟨g,3,none⟩ = some (.bool fu):=HME.out.cell 3
 have c4:w.cell? ⟨g,4,none⟩ = some (.int .i64 lf):=HME.out.cell 4
 clear hm
 cases dn with
 | true =>
  have HX:Hid (readX13 D i = 14):=by show _ = _;rw [readX13,← HDN.out];rfl
  rw [HX.out]
  go_enter Tryz.func111,Tryz.ntmps111
  go_wp2
  go_ret
  exact ⟨rfl,rfl⟩
 | false =>
  by_cases hi:0 ≤ i ∧ i < (n:Int)
  · have HX:Hid (readX13 D i = 0):=by show _ = _;rw [readX13,← HDN.out,if_neg (by decide),if_neg (by rw [hasD_not,← HN.out];exact fun h => h hi)]
    rw [HX.out];have q1:¬ (i < 0):=by omega
    have q2:¬ ((n:Int) ≤ i):=by omega
    clear hi
    go_enter Tryz.func111,Tryz.ntmps111
    go_wp2;go_ret;exact ⟨rfl,rfl⟩
  · have HX:Hid (readX13 D i = 2):=by show _ = _;rw [readX13,← HDN.out,if_neg (by decide),if_pos (by rw [hasD_not,← HN.out];exact hi)]
    rw [HX.out]
    by_cases q1:i < 0
    · clear hi
      go_enter Tryz.func111,Tryz.ntmps111
      go_wp2;go_ret;exact ⟨rfl,rfl⟩
    · have q2:(n:Int) ≤ i:=by omega
      clear hi
      go_enter Tryz.func111,Tryz.ntmps111
      go_wp2;go_ret;exact ⟨rfl,rfl⟩
def chD (D:DkT):DkT:=⟨D.safe,D.wait,lessL D.left,decide (D.left = 0)⟩
theorem okD.ch {D:DkT} (h:okD D):okD (chD D):=by
 refine ⟨h.ex,?_,?_⟩
 · show -1 ≤ lessL D.left;have:=h.lo;unfold lessL;split <;> omega
 · show lessL D.left < _;have:=h.hi;unfold lessL;split <;> omega
theorem dkChange_any {w:World} {g gs:Nat} {vw:Value} {fu:Bool} {lf:Int} {D:DkT} (hd:D.down = false) (hm:DkM w g gs vw fu lf D):Calls Tryz.prog 117 #[.pointer (some ⟨g,0,none⟩)] w fun r w' => ∃ lf',r = .returned (.int .i64 (if D.left = 0 then 14 else 0)) ∧ DkM w' g gs vw fu lf' (chD D) ∧ Only g w w':=by
 obtain ⟨n,HN⟩:=sqn (sizeD D)
 obtain ⟨aw,cw,hvw⟩:=hm.wt.form
 obtain ⟨nw,HNW⟩:=sqn (D.wait.length)
 rw [← HNW.out] at hvw
 subst hvw
 obtain ⟨dn,HDN⟩:=sqn (D.down)
 have HM:Hid (DkM w g gs (.slice aw nw cw) fu lf D):=hm
 have HME:Hid (Blk w g [.slice (some ⟨gs,0,none⟩) n n,.slice aw nw cw,.bool dn,.bool fu,.int .i64 lf] 94):=by have h9:=hm.me;rw [dkC,← HN.out,← HDN.out] at h9;exact h9
 have c0:w.cell? ⟨g,0,none⟩ = some (.slice (some ⟨gs,0,none⟩) n n):=HME.out.cell 0
 have c1:w.cell? ⟨g,1,none⟩ = some (.slice aw nw cw):=HME.out.cell 1
 have c2:w.cell? ⟨g,2,none⟩ = some (.bool dn):=HME.out.cell 2
 have c3:w.cell? ⟨g,3,none⟩ = some (.bool fu):=HME.out.cell 3
 have c4:w.cell? ⟨g,4,none⟩ = some (.int .i64 lf):=HME.out.cell 4
 have HL:Hid (-1 ≤ D.left ∧ D.left < 9223372036854775808):=⟨hm.ok.lo,hm.ok.hi⟩
 have HF:Hid (fu = decide (0 ≤ D.left)):=hm.fs
 have HLF:Hid (0 ≤ D.left → lf = D.left):=hm.ls
 rw [hd] at HDN
 clear hm
 cases fu with
 | false =>
  have HN0:Hid (¬ 0 ≤ D.left):=by have h9:=HF.out;exact of_decide_eq_false (p:=0 ≤ D.left) h9.symm
  have HX:Hid ((if D.left = 0 then (14:Int) else 0) = 0):=if_neg (by have:=HN0.out;omega)
  have HC:Hid (chD D = D):=by
   show _ = _;have:=HN0.out;rw [chD,lessL,if_neg (by omega),decide_eq_false (by omega),← hd]
  rw [HX.out]
  go_enter Tryz.func117,Tryz.ntmps117
  go_wp2
  go_ret
  exact ⟨rfl,⟨lf,by rw [HC.out];exact HM.out⟩,Only.refl _ _⟩
 | true =>
  have HP0:Hid (0 ≤ D.left):=by have h9:=HF.out;exact of_decide_eq_true (p:=0 ≤ D.left) h9.symm
  have hlf:=HLF.out HP0.out
  by_cases h0:lf = 0
  · have HX:Hid ((if D.left = 0 then (14:Int) else 0) = 14):=if_pos (by omega)
    rw [HX.out];have HE:Hid (D.left = 0):=by show _ = _;omega
    clear hlf;subst h0
    go_enter Tryz.func117,Tryz.ntmps117
    have tk0:Hid True:=trivial
    go_wp2_with (first
     | (clear tk0;with_reducible refine wpSeq_cellB (.tmp 15) (.const (.bool true)) g 2 [.slice (some ⟨gs,0,none⟩) n n,.slice aw nw cw,.bool dn,.bool true,.int .i64 0] true 94 (by simp) HME.out ?_ ?_ ?_ ?_ ?_
        · rfl
        · rfl
        · rfl
        · rfl
        intro y1 hb ho;have HB1:Hid (Blk y1 g [.slice (some ⟨gs,0,none⟩) n n,.slice aw nw cw,.bool true,.bool true,.int .i64 0] 94):=hb;have HO1:Hid (Only g w y1):=ho;clear hb ho c0 c1 c2 c3 c4))
    go_ret;refine ⟨0,rfl,HM.out.mine HO1.out ?_ rfl (HM.out.wtOnly HO1.out) HM.out.ok.ch ?_ ?_,HO1.out⟩
    · show Blk y1 g (dkC gs (sizeD D) _ (decide (D.left = 0)) true 0) _
      rw [← HN.out,decide_eq_true HE.out];exact HB1.out
    · show _ = decide (0 ≤ lessL D.left);rw [HE.out];rfl
    · intro _;show _ = lessL D.left;rw [HE.out];rfl
  · have HX:Hid ((if D.left = 0 then (14:Int) else 0) = 0):=if_neg (by omega)
    rw [HX.out];have HE:Hid (0 < D.left ∧ lf = D.left):=⟨by have:=HP0.out;omega,hlf⟩
    have f1:IntKind.i64.wrap (lf - 1) = lf - 1:=by rw [IntKind.wrap_i64];have h:=HL.out;have h2:=HE.out;omega
    have q0:(lf == 0) = false:=by rw [beq_eq_false_iff_ne];exact h0
    clear hlf
    go_enter Tryz.func117,Tryz.ntmps117
    have tk0:Hid True:=trivial
    go_wp2_with (first
     | (clear tk0;with_reducible refine wpSeq_cellI (.tmp 22) (.tmp 20) g 4 [.slice (some ⟨gs,0,none⟩) n n,.slice aw nw cw,.bool dn,.bool true,.int .i64 lf] (lf - 1) 94 (by simp) HME.out ?_ ?_ ?_ ?_ ?_
        · rfl
        · rfl
        · rfl
        · rfl
        intro y1 hb ho;have HB1:Hid (Blk y1 g [.slice (some ⟨gs,0,none⟩) n n,.slice aw nw cw,.bool dn,.bool true,.int .i64 (lf - 1)] 94):=hb;have HO1:Hid (Only g w y1):=ho;clear hb ho c0 c1 c2 c3 c4))
    go_ret;have hE:=HE.out;have e1:lessL D.left = lf - 1:=by rw [lessL,if_pos hE.1,hE.2]
    refine ⟨lf - 1,rfl,HM.out.mine HO1.out ?_ rfl (HM.out.wtOnly HO1.out) HM.out.ok.ch ?_ ?_,HO1.out⟩
    · show Blk y1 g (dkC gs (sizeD D) _ (decide (D.left = 0)) true (lf - 1)) _
      rw [← HN.out,decide_eq_false (by omega),← HDN.out]
      exact HB1.out
    · show _ = decide (0 ≤ lessL D.left);rw [e1,decide_eq_true (by omega)]
    · intro _;show _ = lessL D.left;rw [e1]
def secD (b:Bs) (i:Nat):Bs:=(b.drop (64 * i)).take 64
theorem sec_len {b:Bs} {i:Nat} (h:64 * i + 64 ≤ b.length):(secD b i).length = 64:=by rw [secD,List.length_take,List.length_drop];omega
theorem sec_at {b:Bs} {i j:Nat} (hj:j < 64):(secD b i)[j]? = b[64 * i + j]?:=by rw [secD,List.getElem?_take_of_lt hj,List.getElem?_drop]
theorem sec_range {w:World} {gs:Nat} {b:Bs} {t:TypeId} (h:Blk w gs (cb b) t) {i:Nat} (hi:64 * i + 64 ≤ b.length):w.rangeAt gs (64 * i) (cb (secD b i)):=fun j v hv => by
 have hj:j < 64:=by have:=(List.getElem?_eq_some_iff.1 hv).1;rwa [cb_len,sec_len hi] at this
 rw [h.cell,← hv,cb_get _ _ (by omega),cb_get _ _ (by rw [sec_len hi];exact hj)]
 rw [List.getD_eq_getElem?_getD,List.getD_eq_getElem?_getD,sec_at hj]
theorem range_tail {w:World} {b off:Nat} {v:Value} {cs:List Value} (h:w.rangeAt b off (v :: cs)):w.rangeAt b (off + 1) cs:=fun j u hu => by
 have:=h (j + 1) u (by rw [List.getElem?_cons_succ];exact hu)
 rwa [show off + (j + 1) = off + 1 + j by omega] at this
theorem alloc_dw (f:Operand → Value) (o:Oper) (ho:o.op = .alloc 109) (w:World):(execOp f o).run Tryz.prog w = .ok (.value (.pointer (some ⟨w.heap.size,0,none⟩))) (w.alloc (.cells (wrC (0,zs64)).toArray 109)):=by
 unfold execOp
 rw [ho]
 kernel_rfl
theorem wpSeq_allocDw {ops:Array Oper} {Q:Exit → Act → World → Prop} {rest:List Oper} {o:Oper} {a:Act} {w:World} (ho:o.op = .alloc 109) (hw:Region.wanted o (yielded ops a.tmps) = true)
 (h:∀ g w',NewR (wrC (0,zs64)) 109 w g w' → wpList Tryz.prog ops Q rest (a.put o.dst (.pointer (some ⟨g,0,none⟩))) w'):wpList Tryz.prog ops Q (o :: rest) a w:=
 wpSeq_val _ _ hw (alloc_dw _ _ ho _) (h _ _ (NewR.of _ _ w))
theorem wpSeq_idxWr {ops:Array Oper} {Q:Exit → Act → World → Prop} {rest:List Oper} {o:Oper} {a:Act} {w:World} (x y:Operand) (b n c k:Nat) (hk:k < n) (ho:o.op = .indexAddr 92 x y) (hx:a.eval x = .slice (some ⟨b,0,none⟩) n c) (hy:a.eval y = .int .i64 (k:Int)) (hw:Region.wanted o (yielded ops a.tmps) = true)
 (h:wpList Tryz.prog ops Q rest (a.put o.dst (.pointer (some ⟨b,k * 65,none⟩))) w):wpList Tryz.prog ops Q (o :: rest) a w:=
 wpSeq_val _ _ hw (idxWr b n c k hk _ o x y ho hx hy w) h
theorem wpSeq_sliceSec {ops:Array Oper} {Q:Exit → Act → World → Prop} {rest:List Oper} {o:Oper} {a:Act} {w:World} (x:Operand) (b off:Nat) (ho:o.op = .slice 107 x none none none) (hx:a.eval x = .pointer (some ⟨b,off,none⟩)) (hw:Region.wanted o (yielded ops a.tmps) = true)
 (h:wpList Tryz.prog ops Q rest (a.put o.dst (.slice (some ⟨b,off,none⟩) 64 64)) w):wpList Tryz.prog ops Q (o :: rest) a w:=
 wpSeq_val _ _ hw (sliceSec b off _ o x ho hx w) h
theorem sz_sec {x:Bs} (h:x.length = 64):(Tryz.prog.info? 107).map (·.size) = some (cb x).length:=by rw [cb_len,h];exact size_sc
theorem sz_wr {p:Nat × Bs} (h:p.2.length = 64):(Tryz.prog.info? 109).map (·.size) = some (wrC p).length:=by rw [wrC_len h];exact size_dw
def rdNum (l:Bs):Nat:=l.foldl (fun a b => a * 256 + b.toNat) 0
theorem rd_num8 {n:Nat} (h:n < 18446744073709551616):rdNum (num8 n) = n:=by
 simp [rdNum,num8,tl8,List.range_succ]
 omega
theorem rdNum_lt:∀ (l:Bs) (a:Nat),l.foldl (fun a b => a * 256 + b.toNat) a < (a + 1) * 256 ^ l.length
 | [],a => by simp
 | b :: l,a => by
  have h:=rdNum_lt l (a * 256 + b.toNat)
  have hb:b.toNat < 256:=b.isLt
  rw [List.foldl_cons,List.length_cons,Nat.pow_succ]
  refine Nat.lt_of_lt_of_le h ?_
  rw [Nat.mul_comm (256 ^ l.length) 256,← Nat.mul_assoc]
  exact Nat.mul_le_mul_right _ (by omega)
theorem rdNum_8 {l:Bs} (h:l.length = 8):rdNum l < 18446744073709551616:=by
 have:=rdNum_lt l 0
 rw [h] at this
 simpa [rdNum] using this
def padB (b:Bs):Bs:=b ++ List.replicate ((b.length + 63) / 64 * 64 - b.length) 0
theorem len_padB (b:Bs):(padB b).length = (b.length + 63) / 64 * 64:=by rw [padB,List.length_append,List.length_replicate];omega
def hd9 (gen:Nat):Bs:=72 :: num8 gen
def headB (gen:Nat):Bs:=padB (hd9 gen ++ dig (hd9 gen))
def textB (gen seq:Nat) (b:Bs):Bs:=74 :: (num8 gen ++ (num8 seq ++ b))
def rawB (gen seq:Nat) (b:Bs):Bs:=74 :: (num8 gen ++ (num8 seq ++ (dig (textB gen seq b) ++ (num8 b.length ++ b))))
def recB (gen seq:Nat) (b:Bs):Bs:=padB (rawB gen seq b)
def secR (n:Nat):Nat:=(n + 120) / 64
theorem len_hd9 (gen:Nat):(hd9 gen).length = 9:=by rw [hd9,List.length_cons,len_num8]
theorem len_headB (gen:Nat):(headB gen).length = 64:=by rw [headB,len_padB,List.length_append,len_hd9,len_dig']
theorem len_rawB (gen seq:Nat) (b:Bs):(rawB gen seq b).length = 57 + b.length:=by
 rw [rawB]
 simp only [List.length_cons,List.length_append,len_num8,len_dig']
 omega
theorem len_recB (gen seq:Nat) (b:Bs):(recB gen seq b).length = 64 * secR b.length:=by rw [recB,len_padB,len_rawB,secR];omega
def ovl (b:Bs) (at_:Nat) (r:Bs):Bs:=b.take at_ ++ (r ++ b.drop (at_ + r.length))
theorem ovl_at {b r:Bs} {at_:Nat} (h:at_ + r.length ≤ b.length) (j:Nat):(ovl b at_ r)[j]? = if at_ ≤ j ∧ j < at_ + r.length then r[j - at_]? else b[j]?:=by
 have e1:(b.take at_).length = at_:=by rw [List.length_take];omega
 rw [ovl]
 by_cases h1:j < at_
 · rw [if_neg (by omega),List.getElem?_append_left (by omega),List.getElem?_take_of_lt h1]
 · rw [List.getElem?_append_right (by omega),e1]
   by_cases h2:j < at_ + r.length
   · rw [if_pos ⟨by omega,h2⟩,List.getElem?_append_left (by omega)]
   · rw [if_neg (by omega),List.getElem?_append_right (by omega),List.getElem?_drop]
     congr 1
     omega
theorem len_ovl {b r:Bs} {at_:Nat} (h:at_ + r.length ≤ b.length):(ovl b at_ r).length = b.length:=by
 rw [ovl,List.length_append,List.length_append,List.length_take,List.length_drop]
 omega
def secsOf:Nat → Nat → Bs → List (Nat × Bs)
 | _,0,_ => []
 | s,m + 1,r => (s,r.take 64) :: secsOf (s + 1) m (r.drop 64)
theorem secs_mem {n:Nat}:∀ (m s:Nat) (r:Bs),r.length = 64 * m → s + m ≤ n → ∀ p ∈ secsOf s m r,p.1 < n ∧ p.2.length = 64
 | 0,_,_,_,_,p,hp => by simp [secsOf] at hp
 | m + 1,s,r,hr,hs,p,hp => by
  rw [secsOf,List.mem_cons] at hp
  rcases hp with rfl | hp
  · exact ⟨by omega,by rw [List.length_take];omega⟩
  · exact secs_mem m (s + 1) (r.drop 64) (by rw [List.length_drop];omega) (by omega) p hp
theorem secs_len:∀ (m s:Nat) (r:Bs),(secsOf s m r).length = m
 | 0,_,_ => rfl
 | m + 1,s,r => by rw [secsOf,List.length_cons,secs_len m]
theorem dump_secs:∀ (m s:Nat) (r b:Bs),r.length = 64 * m → 64 * s + 64 * m ≤ b.length → dumpW b (secsOf s m r) = ovl b (64 * s) r
 | 0,s,r,b,hr,_ => by
  have h0:r = []:=List.eq_nil_of_length_eq_zero (by omega)
  subst h0
  show b = _
  rw [ovl]
  simp
 | m + 1,s,r,b,hr,hb => by
  show dumpW (layD b s (r.take 64) 64) (secsOf (s + 1) m (r.drop 64)) = _
  have h64:(r.take 64).length = 64:=by rw [List.length_take];omega
  have hd:(r.drop 64).length = 64 * m:=by rw [List.length_drop];omega
  have hl:(layD b s (r.take 64) 64).length = b.length:=len_layD (by omega) (by omega)
  rw [dump_secs m (s + 1) (r.drop 64) _ hd (by rw [hl];omega)]
  apply List.ext_getElem?
  intro j
  rw [ovl_at (by rw [hd,hl];omega),ovl_at (by omega),layD_at (by omega) (by omega),hd,hr]
  by_cases h1:64 * (s + 1) ≤ j ∧ j < 64 * (s + 1) + 64 * m
  · rw [if_pos h1,if_pos (by omega),List.getElem?_drop]
    congr 1
    omega
  · rw [if_neg h1]
    by_cases h2:64 * s ≤ j ∧ j < 64 * s + 64
    · rw [if_pos h2,if_pos (by omega),List.getElem?_take_of_lt (by omega)]
    · rw [if_neg h2,if_neg (by omega)]
def halfN (b:Bs):Nat:=b.length / 64 / 2 * 64
def halfB (b:Bs) (k:Nat):Bs:=(b.drop (k * halfN b)).take (halfN b)
theorem half_at {b:Bs} {k j:Nat} (hj:j < halfN b):(halfB b k)[j]? = b[k * halfN b + j]?:=by rw [halfB,List.getElem?_take_of_lt hj,List.getElem?_drop]
theorem half_out {b:Bs} {k j:Nat} (hj:¬ j < halfN b):(halfB b k)[j]? = none:=by rw [halfB,List.getElem?_take,if_neg hj]
theorem half_le (b:Bs):2 * halfN b ≤ b.length:=by unfold halfN;omega
theorem len_half {b:Bs} {k:Nat} (hk:k ≤ 1):(halfB b k).length = halfN b:=by
 have:=half_le b
 rw [halfB,List.length_take,List.length_drop]
 rcases Nat.le_one_iff_eq_zero_or_eq_one.1 hk with rfl | rfl <;> omega
theorem halfN_ovl {b r:Bs} {at_:Nat} (h:at_ + r.length ≤ b.length):halfN (ovl b at_ r) = halfN b:=by rw [halfN,halfN,len_ovl h]
theorem half_ovl {b r:Bs} {k o:Nat} (hk:k ≤ 1) (h:o + r.length ≤ halfN b):halfB (ovl b (k * halfN b + o) r) k = ovl (halfB b k) o r:=by
 have h1:=half_le b
 have h2:k * halfN b + o + r.length ≤ b.length:=by rcases Nat.le_one_iff_eq_zero_or_eq_one.1 hk with rfl | rfl <;> omega
 have h3:o + r.length ≤ (halfB b k).length:=by rw [len_half hk];exact h
 apply List.ext_getElem?
 intro j
 rw [ovl_at h3]
 by_cases hj:j < halfN b
 · rw [half_at (by rw [halfN_ovl h2];exact hj),halfN_ovl h2,ovl_at h2,half_at hj]
   by_cases h4:o ≤ j ∧ j < o + r.length
   · rw [if_pos h4,if_pos (by omega)]
     congr 1
     omega
   · rw [if_neg h4,if_neg (by omega)]
 · rw [half_out (by rw [halfN_ovl h2];exact hj),if_neg (by omega),half_out hj]
theorem half_other {b r:Bs} {k o:Nat} (hk:k ≤ 1) (h:o + r.length ≤ halfN b):halfB (ovl b (k * halfN b + o) r) (1 - k) = halfB b (1 - k):=by
 have h1:=half_le b
 have h2:k * halfN b + o + r.length ≤ b.length:=by rcases Nat.le_one_iff_eq_zero_or_eq_one.1 hk with rfl | rfl <;> omega
 apply List.ext_getElem?
 intro j
 by_cases hj:j < halfN b
 · rw [half_at (by rw [halfN_ovl h2];exact hj),halfN_ovl h2,ovl_at h2,half_at hj,if_neg]
   rcases Nat.le_one_iff_eq_zero_or_eq_one.1 hk with rfl | rfl <;> omega
 · rw [half_out (by rw [halfN_ovl h2];exact hj),half_out hj]
def genH (half:Bs):Nat:=if rdNum ((half.drop 1).take 8) = 0 ∨ half.take 64 ≠ headB (rdNum ((half.drop 1).take 8)) then 0 else rdNum ((half.drop 1).take 8)
theorem head_num (gen:Nat) (z:Bs):((headB gen ++ z).drop 1).take 8 = num8 gen:=by
 have e:headB gen ++ z = [72] ++ (num8 gen ++ (dig (hd9 gen) ++ (List.replicate (((hd9 gen ++ dig (hd9 gen)).length + 63) / 64 * 64 - (hd9 gen ++ dig (hd9 gen)).length) 0 ++ z))):=by simp [headB,padB,hd9]
 rw [e,List.singleton_append,List.drop_succ_cons,List.drop_zero,List.take_left' (len_num8 gen)]
theorem gen_head {gen:Nat} (h1:1 ≤ gen) (h2:gen < 18446744073709551616) (z:Bs):genH (headB gen ++ z) = gen:=by
 rw [genH,head_num,rd_num8 h2,if_neg]
 rw [List.take_left' (len_headB gen)]
 simp
 omega
theorem gen_is {half:Bs} (h:genH half ≠ 0):half.take 64 = headB (genH half) ∧ genH half < 18446744073709551616:=by
 unfold genH at h ⊢
 by_cases hc:rdNum ((half.drop 1).take 8) = 0 ∨ half.take 64 ≠ headB (rdNum ((half.drop 1).take 8))
 · rw [if_pos hc] at h;exact absurd rfl h
 · rw [if_neg hc]
   refine ⟨Decidable.not_not.1 (fun e => hc (Or.inr e)),?_⟩
   have e:=Decidable.not_not.1 (fun e => hc (Or.inr e))
   have hl:64 ≤ half.length:=by
    have:=congrArg List.length e;rw [len_headB,List.length_take] at this;omega
   exact rdNum_8 (by rw [List.length_take,List.length_drop];omega)
def pickB (b:Bs):Nat × Nat:=if genH (halfB b 0) < genH (halfB b 1) then (1,genH (halfB b 1)) else (0,genH (halfB b 0))
def recsL (gen:Nat) (half:Bs):Nat → Nat → Nat → List Bs × Nat
 | 0,at_,_ => ([],at_)
 | f + 1,at_,seq =>
  if at_ + 64 ≤ half.length then
   if rdNum ((half.drop (at_ + 49)).take 8) = 0 ∨ half.length - at_ - 57 < rdNum ((half.drop (at_ + 49)).take 8) then ([],at_)
   else if half.length < at_ + (recB gen seq ((half.drop (at_ + 57)).take (rdNum ((half.drop (at_ + 49)).take 8)))).length ∨ (half.drop at_).take (recB gen seq ((half.drop (at_ + 57)).take (rdNum ((half.drop (at_ + 49)).take 8)))).length ≠ recB gen seq ((half.drop (at_ + 57)).take (rdNum ((half.drop (at_ + 49)).take 8))) then ([],at_)
   else ((half.drop (at_ + 57)).take (rdNum ((half.drop (at_ + 49)).take 8)) :: (recsL gen half f (at_ + (recB gen seq ((half.drop (at_ + 57)).take (rdNum ((half.drop (at_ + 49)).take 8)))).length) (seq + 1)).1,(recsL gen half f (at_ + (recB gen seq ((half.drop (at_ + 57)).take (rdNum ((half.drop (at_ + 49)).take 8)))).length) (seq + 1)).2)
  else ([],at_)
def recsOf (gen:Nat) (half:Bs):List Bs × Nat:=recsL gen half (half.length / 64) 64 0
def readJ (b:Bs):Nat × List Bs:=if (pickB b).2 = 0 then (0,[]) else ((pickB b).2,(recsOf (pickB b).2 (halfB b (pickB b).1)).1)
def recsB (gen:Nat):Nat → List Bs → Bs
 | _,[] => []
 | seq,x :: l => recB gen seq x ++ recsB gen (seq + 1) l
def sizeL (l:List Bs):Nat:=(l.map fun x => 64 * secR x.length).sum
theorem len_recsB (gen:Nat):∀ (l:List Bs) (seq:Nat),(recsB gen seq l).length = sizeL l
 | [],_ => rfl
 | x :: l,seq => by rw [recsB,List.length_append,len_recB,len_recsB gen l];rfl
theorem recsB_snoc (gen:Nat):∀ (l:List Bs) (seq:Nat) (x:Bs),recsB gen seq (l ++ [x]) = recsB gen seq l ++ recB gen (seq + l.length) x
 | [],seq,x => by simp [recsB]
 | y :: l,seq,x => by
  show recB gen seq y ++ recsB gen (seq + 1) (l ++ [x]) = _
  rw [recsB_snoc gen l (seq + 1) x,recsB,List.append_assoc,List.length_cons,show seq + 1 + l.length = seq + (l.length + 1) by omega]
theorem sizeL_snoc (l:List Bs) (x:Bs):sizeL (l ++ [x]) = sizeL l + 64 * secR x.length:=by simp [sizeL]
theorem rd_zero (n:Nat):rdNum (List.replicate n 0) = 0:=by
 induction n with
 | zero => rfl
 | succ n ih => rw [List.replicate_succ,rdNum,List.foldl_cons];exact ih
theorem raw_at (gen seq:Nat) (x z:Bs):((rawB gen seq x ++ z).drop 49).take 8 = num8 x.length ∧ ((rawB gen seq x ++ z).drop 57).take x.length = x:=by
 have e:rawB gen seq x ++ z = (74 :: (num8 gen ++ (num8 seq ++ dig (textB gen seq x)))) ++ (num8 x.length ++ (x ++ z)):=by simp [rawB]
 have hl:(74 :: (num8 gen ++ (num8 seq ++ dig (textB gen seq x)))).length = 49:=by simp [len_num8,len_dig']
 constructor
 · rw [e,List.drop_left' hl,List.take_left' (len_num8 _)]
 · rw [e,show 57 = 49 + 8 from rfl,← List.drop_drop,List.drop_left' hl,List.drop_left' (len_num8 _),List.take_left' rfl]
theorem rec_at (gen seq:Nat) (x z:Bs):((recB gen seq x ++ z).drop 49).take 8 = num8 x.length ∧ ((recB gen seq x ++ z).drop 57).take x.length = x:=by
 rw [recB,padB,List.append_assoc]
 exact raw_at gen seq x _
theorem recs_back {gen:Nat}:∀ (l:List Bs) (f seq m:Nat) (A:Bs),(∀ x ∈ l,x ≠ [] ∧ x.length < 18446744073709551616) → l.length ≤ f → recsL gen (A ++ (recsB gen seq l ++ List.replicate m 0)) f A.length seq = (l,A.length + sizeL l)
 | [],0,seq,m,A,_,_ => rfl
 | [],f + 1,seq,m,A,_,_ => by
  rw [recsL,recsB,List.nil_append]
  split
  · rename_i h
    rw [List.length_append,List.length_replicate] at h;rw [if_pos]
    · rfl
    · left
      rw [show A.length + 49 = A.length + 49 from rfl,← List.drop_drop,List.drop_left' rfl,List.drop_replicate,List.take_replicate,rd_zero]
  · rfl
 | x :: l,0,_,_,_,_,hf => by simp at hf
 | x :: l,f + 1,seq,m,A,hl,hf => by
  obtain ⟨hx1,hx2⟩:=hl x (by simp)
  have hxp:0 < x.length:=List.length_pos_iff.2 hx1
  have er:recsB gen seq (x :: l) ++ List.replicate m (0:BitVec 8) = recB gen seq x ++ (recsB gen (seq + 1) l ++ List.replicate m 0):=by rw [recsB,List.append_assoc]
  have hrl:=len_recB gen seq x
  have hsr:57 + x.length ≤ 64 * secR x.length:=by unfold secR;omega
  have eN:((A ++ (recB gen seq x ++ (recsB gen (seq + 1) l ++ List.replicate m 0))).drop (A.length + 49)).take 8 = num8 x.length:=by
   rw [← List.drop_drop,List.drop_left' rfl];exact (rec_at gen seq x _).1
  have eX:((A ++ (recB gen seq x ++ (recsB gen (seq + 1) l ++ List.replicate m 0))).drop (A.length + 57)).take x.length = x:=by
   rw [← List.drop_drop,List.drop_left' rfl];exact (rec_at gen seq x _).2
  have eR:((A ++ (recB gen seq x ++ (recsB gen (seq + 1) l ++ List.replicate m 0))).drop A.length).take (recB gen seq x).length = recB gen seq x:=by
   rw [List.drop_left' rfl,List.take_left' rfl]
  have hlen:(A ++ (recB gen seq x ++ (recsB gen (seq + 1) l ++ List.replicate m (0:BitVec 8)))).length = A.length + (64 * secR x.length + (sizeL l + m)):=by
   rw [List.length_append,List.length_append,List.length_append,hrl,len_recsB,List.length_replicate]
  have ih:=recs_back (gen:=gen) l f (seq + 1) m (A ++ recB gen seq x) (fun y hy => hl y (by simp [hy])) (by simpa using hf)
  rw [List.append_assoc,List.length_append] at ih
  rw [er,recsL,if_pos (by rw [hlen];omega),eN,rd_num8 hx2,eX,if_neg (by rw [hlen];omega),if_neg (by rw [hlen,eR,hrl];rintro (h | h);omega;exact h rfl),ih]
  rw [hrl]
  show (x :: l,_) = _
  congr 1
  show A.length + 64 * secR x.length + sizeL l = A.length + (64 * secR x.length + sizeL l)
  omega
theorem recs_inv {gen:Nat} {half:Bs}:∀ (f at_ seq:Nat),at_ ≤ half.length → (half.drop at_).take (sizeL (recsL gen half f at_ seq).1) = recsB gen seq (recsL gen half f at_ seq).1 ∧ (recsL gen half f at_ seq).2 = at_ + sizeL (recsL gen half f at_ seq).1 ∧ (recsL gen half f at_ seq).2 ≤ half.length ∧ (∀ x ∈ (recsL gen half f at_ seq).1,x ≠ [] ∧ x.length ≤ half.length) ∧ (recsL gen half f at_ seq).1.length ≤ f
 | 0,at_,seq,h => ⟨by simp [recsL,sizeL,recsB],rfl,h,by simp [recsL],Nat.le_refl _⟩
 | f + 1,at_,seq,h => by
  have base:(half.drop at_).take (sizeL ([]:List Bs)) = recsB gen seq [] ∧ at_ = at_ + sizeL [] ∧ at_ ≤ half.length ∧ (∀ x ∈ ([]:List Bs),x ≠ [] ∧ x.length ≤ half.length) ∧ ([]:List Bs).length ≤ f + 1:=⟨by simp [sizeL,recsB],rfl,h,by simp,Nat.zero_le _⟩
  rw [recsL]
  by_cases h1:at_ + 64 ≤ half.length
  case neg => rw [if_neg h1];exact base
  rw [if_pos h1]
  generalize hn:rdNum ((half.drop (at_ + 49)).take 8) = n
  by_cases h2:n = 0 ∨ half.length - at_ - 57 < n
  · rw [if_pos h2];exact base
  rw [if_neg h2]
  generalize hx:(half.drop (at_ + 57)).take n = x
  have hxl:x.length = n:=by rw [← hx,List.length_take,List.length_drop];omega
  generalize hr:recB gen seq x = r
  by_cases h3:half.length < at_ + r.length ∨ (half.drop at_).take r.length ≠ r
  · rw [if_pos h3];exact base
  rw [if_neg h3]
  have h4:(half.drop at_).take r.length = r:=Decidable.not_not.1 (fun e => h3 (Or.inr e))
  have hrl:r.length = 64 * secR x.length:=by rw [← hr,len_recB]
  obtain ⟨i1,i2,i3,i4,i5⟩:=recs_inv (gen:=gen) (half:=half) f (at_ + r.length) (seq + 1) (by omega)
  refine ⟨?_,?_,i3,?_,?_⟩
  · show (half.drop at_).take (64 * secR x.length + sizeL (recsL gen half f (at_ + r.length) (seq + 1)).1) = recB gen seq x ++ recsB gen (seq + 1) (recsL gen half f (at_ + r.length) (seq + 1)).1
    rw [← hrl,List.take_add,h4,List.drop_drop,i1,hr]
  · show _ = at_ + (64 * secR x.length + sizeL (recsL gen half f (at_ + r.length) (seq + 1)).1)
    rw [i2,hrl];omega
  · intro y hy
    rcases List.mem_cons.1 hy with rfl | hy
    · exact ⟨fun e => by rw [e] at hxl;simp at hxl;omega,by omega⟩
    · exact i4 y hy
  · simpa using i5
structure Good (b:Bs) (k gen:Nat) (l:List Bs):Prop where
 hk:k ≤ 1
 g1:1 ≤ gen
 g2:gen < 18446744073709551616
 half:∃ m,halfB b k = headB gen ++ (recsB gen 0 l ++ List.replicate m 0)
 ne:∀ x ∈ l,x ≠ [] ∧ x.length < 18446744073709551616
 oth:genH (halfB b (1 - k)) ≤ gen ∧ (k = 1 → genH (halfB b 0) < gen)
theorem Good.size {b:Bs} {k gen:Nat} {l:List Bs} (h:Good b k gen l):64 + sizeL l ≤ halfN b:=by
 obtain ⟨m,hm⟩:=h.half
 have:=congrArg List.length hm
 rw [len_half h.hk,List.length_append,len_headB,List.length_append,len_recsB] at this
 omega
theorem sizeL_ge:∀ (l:List Bs),64 * l.length ≤ sizeL l
 | [] => Nat.le_refl _
 | x :: l => by
  have:=sizeL_ge l
  show _ ≤ 64 * secR x.length + sizeL l
  have h1:1 ≤ secR x.length:=by unfold secR;omega
  rw [List.length_cons]
  omega
theorem Good.pick {b:Bs} {k gen:Nat} {l:List Bs} (h:Good b k gen l):pickB b = (k,gen):=by
 obtain ⟨m,hm⟩:=h.half
 have hg:genH (halfB b k) = gen:=by rw [hm];exact gen_head h.g1 h.g2 _
 obtain ⟨h1,h2⟩:=h.oth
 unfold pickB
 rcases Nat.le_one_iff_eq_zero_or_eq_one.1 h.hk with rfl | rfl
 · rw [hg,if_neg (by show ¬ gen < genH (halfB b (1 - 0));omega)]
 · rw [hg,if_pos (h2 rfl)]
theorem Good.recs {b:Bs} {k gen:Nat} {l:List Bs} (h:Good b k gen l):recsOf gen (halfB b k) = (l,64 + sizeL l):=by
 obtain ⟨m,hm⟩:=h.half
 have h1:=sizeL_ge l
 have h2:=h.size
 unfold recsOf
 rw [hm]
 have:=recs_back (gen:=gen) l ((headB gen ++ (recsB gen 0 l ++ List.replicate m 0)).length / 64) 0 m (headB gen) h.ne (by rw [← hm,len_half h.hk];omega)
 rw [len_headB] at this
 exact this
theorem Good.read {b:Bs} {k gen:Nat} {l:List Bs} (h:Good b k gen l):readJ b = (gen,l):=by
 rw [readJ,h.pick]
 show (if gen = 0 then _ else _) = _
 rw [if_neg (by have:=h.g1;omega),h.recs]
theorem ovl_mid (A B C r:Bs) (h:r.length ≤ B.length):ovl (A ++ (B ++ C)) A.length r = A ++ (r ++ (B.drop r.length ++ C)):=by
 rw [ovl,List.take_left' rfl,← List.drop_drop,List.drop_left' rfl,List.drop_append_of_le_length h]
theorem Good.app {b:Bs} {k gen:Nat} {l:List Bs} (h:Good b k gen l) {x:Bs} (hx:x ≠ []) (hx2:x.length < 18446744073709551616) (hs:64 + sizeL l + 64 * secR x.length ≤ halfN b):Good (ovl b (k * halfN b + (64 + sizeL l)) (recB gen l.length x)) k gen (l ++ [x]):=by
 have hr:=len_recB gen l.length x
 obtain ⟨m,hm⟩:=h.half
 have hlen:=congrArg List.length hm
 rw [len_half h.hk,List.length_append,len_headB,List.length_append,len_recsB,List.length_replicate] at hlen
 refine ⟨h.hk,h.g1,h.g2,⟨m - 64 * secR x.length,?_⟩,fun y hy => ?_,?_⟩
 · rw [half_ovl h.hk (by rw [hr];omega),hm]
   have e:headB gen ++ (recsB gen 0 l ++ List.replicate m (0:BitVec 8)) = (headB gen ++ recsB gen 0 l) ++ (List.replicate m 0 ++ []):=by simp
   have el:64 + sizeL l = (headB gen ++ recsB gen 0 l).length:=by rw [List.length_append,len_headB,len_recsB]
   rw [e,el,ovl_mid _ _ _ _ (by rw [List.length_replicate,hr];omega),recsB_snoc,Nat.zero_add,List.append_nil,List.drop_replicate,hr]
   simp
 · rcases List.mem_append.1 hy with hy | hy
   · exact h.ne y hy
   · rw [List.mem_singleton.1 hy];exact ⟨hx,hx2⟩
 · have ho:halfB (ovl b (k * halfN b + (64 + sizeL l)) (recB gen l.length x)) (1 - k) = halfB b (1 - k):=half_other h.hk (by rw [hr];omega)
   refine ⟨by rw [ho];exact h.oth.1,fun hk1 => ?_⟩
   have h2:=h.oth.2 hk1;subst hk1;rw [show 1 - 1 = 0 from rfl] at ho;rw [ho];exact h2
theorem rep_split (n m k:Nat) (h:n = m + k):List.replicate n (0:BitVec 8) = List.replicate m 0 ++ List.replicate k 0:=by rw [h,List.replicate_append_replicate]
theorem rep_sec (n:Nat) (h:64 ≤ n):List.replicate n (0:BitVec 8) = zs64 ++ (List.replicate (n - 64) 0 ++ []):=by
 rw [List.append_nil]
 exact rep_split n 64 (n - 64) (by omega)
def anewB (b:Bs) (k gen:Nat) (l:List Bs):Bs:=ovl (ovl (ovl b (k * halfN b) (List.replicate (halfN b) 0)) (k * halfN b + 64) (recsB gen 0 l)) (k * halfN b) (headB gen)
theorem Good.anew {b:Bs} {k gen:Nat} {l:List Bs} (hk:k ≤ 1) (g1:1 ≤ gen) (g2:gen < 18446744073709551616) (hl:∀ x ∈ l,x ≠ [] ∧ x.length < 18446744073709551616) (hs:64 + sizeL l ≤ halfN b) (ho:genH (halfB b (1 - k)) < gen):Good (anewB b k gen l) k gen l ∧ (anewB b k gen l).length = b.length:=by
 have h1:=half_le b
 have hb:∀ o (r:Bs),o + r.length ≤ halfN b → k * halfN b + o + r.length ≤ b.length:=fun o r h => by rcases Nat.le_one_iff_eq_zero_or_eq_one.1 hk with rfl | rfl <;> omega
 have hz:(List.replicate (halfN b) (0:BitVec 8)).length = halfN b:=List.length_replicate
 have hR:=len_recsB gen l 0
 have hH:=len_headB gen
 obtain ⟨b1,e1⟩:∃ b1,b1 = ovl b (k * halfN b + 0) (List.replicate (halfN b) 0):=⟨_,rfl⟩
 have l1:b1.length = b.length:=by rw [e1];exact len_ovl (hb 0 _ (by omega))
 have n1:halfN b1 = halfN b:=by rw [halfN,halfN,l1]
 obtain ⟨b2,e2⟩:∃ b2,b2 = ovl b1 (k * halfN b1 + 64) (recsB gen 0 l):=⟨_,rfl⟩
 have l2:b2.length = b.length:=by rw [e2,n1,len_ovl (by rw [l1];exact hb 64 _ (by omega)),l1]
 have n2:halfN b2 = halfN b:=by rw [halfN,halfN,l2]
 obtain ⟨b3,e3⟩:∃ b3,b3 = ovl b2 (k * halfN b2 + 0) (headB gen):=⟨_,rfl⟩
 have l3:b3.length = b.length:=by rw [e3,n2,len_ovl (by rw [l2];exact hb 0 _ (by omega)),l2]
 have e:anewB b k gen l = b3:=by
  rw [anewB,e3,n2,e2,n1,e1]
  rfl
 have hh1:halfB b1 k = List.replicate (halfN b) 0:=by
  rw [e1,half_ovl hk (by omega)]
  have hlh:=len_half (b:=b) hk
  rw [ovl,List.take_zero,List.nil_append,Nat.zero_add,hz,List.drop_of_length_le (by omega),List.append_nil]
 have hh2:halfB b2 k = zs64 ++ (recsB gen 0 l ++ List.replicate (halfN b - 64 - sizeL l) 0):=by
  rw [e2,half_ovl hk (by omega),hh1]
  have e6:=ovl_mid zs64 (List.replicate (halfN b - 64) 0) [] (recsB gen 0 l) (by rw [List.length_replicate];omega)
  rw [len_zs64] at e6
  rw [rep_sec (halfN b) (by omega),e6,List.append_nil,List.drop_replicate,hR]
 have hh3:halfB b3 k = headB gen ++ (recsB gen 0 l ++ List.replicate (halfN b - 64 - sizeL l) 0):=by
  rw [e3,half_ovl hk (by omega),hh2]
  have e6:=ovl_mid [] zs64 (recsB gen 0 l ++ List.replicate (halfN b - 64 - sizeL l) 0) (headB gen) (by rw [len_zs64];omega)
  have e7:zs64.drop 64 = []:=List.drop_of_length_le (Nat.le_of_eq len_zs64)
  rw [List.length_nil,List.nil_append,List.nil_append,hH,e7,List.nil_append] at e6
  exact e6
 have ho3:halfB b3 (1 - k) = halfB b (1 - k):=by
  rw [e3,half_other hk (by omega),e2,half_other hk (by omega),e1,half_other hk (by omega)]
 rw [e]
 refine ⟨⟨hk,g1,g2,⟨_,hh3⟩,hl,by rw [ho3];omega,fun hk1 => ?_⟩,l3⟩
 subst hk1
 rw [show 1 - 1 = 0 from rfl] at ho3 ho
 rw [ho3]
 exact ho
def runJ:DkT → List (Option (Nat × Bs)) → DkT × Int
 | D,[] => (D,0)
 | D,some p :: r => if putX13 D (p.1:Int) p.2 = 0 then runJ (putD13 D (p.1:Int) p.2) r else (putD13 D (p.1:Int) p.2,putX13 D (p.1:Int) p.2)
 | D,none :: r => if syncX13 D = 0 then runJ (syncD13 D) r else (syncD13 D,syncX13 D)
theorem put_good {s:Bs} {ws:List (Nat × Bs)} {p:Nat × Bs} (h:p.1 < s.length / 64) (hp:p.2.length = 64):putX13 ⟨s,ws,-1,false⟩ (p.1:Int) p.2 = 0 ∧ putD13 ⟨s,ws,-1,false⟩ (p.1:Int) p.2 = ⟨s,ws ++ [p],-1,false⟩:=by
 have hh:¬ (hasD ⟨s,ws,-1,false⟩ (p.1:Int) = false):=by
  rw [hasD_not]
  exact fun e => e ⟨by omega,by show (p.1:Int) < ((s.length / 64:Nat):Int);omega⟩
 constructor
 · rw [putX13,if_neg Bool.false_ne_true,if_neg hh,if_neg (by rw [hp];decide)];rfl
 · rw [putD13,if_neg Bool.false_ne_true,if_neg hh,if_neg (by rw [hp];decide),Int.toNat_natCast];rfl
theorem run_ws {s:Bs} {r:List (Option (Nat × Bs))}:∀ (l ws:List (Nat × Bs)),(∀ p ∈ l,p.1 < s.length / 64 ∧ p.2.length = 64) → runJ ⟨s,ws,-1,false⟩ (l.map some ++ r) = runJ ⟨s,ws ++ l,-1,false⟩ r
 | [],ws,_ => by simp
 | p :: l,ws,h => by
  obtain ⟨h1,h2⟩:=put_good (ws:=ws) (h p (by simp)).1 (h p (by simp)).2
  rw [List.map_cons,List.cons_append,runJ,if_pos h1,h2,run_ws l (ws ++ [p]) (fun q hq => h q (by simp [hq])),List.append_assoc]
  rfl
theorem run_sync (s:Bs) (ws:List (Nat × Bs)) (r:List (Option (Nat × Bs))):runJ ⟨s,ws,-1,false⟩ (none :: r) = runJ (loadD (dumpW s ws)) r:=by
 have h:syncX13 ⟨s,ws,-1,false⟩ = 0:=rfl
 rw [runJ,if_pos h]
 rfl
theorem run_batch {s r:Bs} {a m:Nat} {t:List (Option (Nat × Bs))} (hr:r.length = 64 * m) (hs:64 * a + 64 * m ≤ s.length):runJ (loadD s) ((secsOf a m r).map some ++ (none :: t)) = runJ (loadD (ovl s (64 * a) r)) t:=by
 show runJ ⟨s,[],-1,false⟩ _ = _
 rw [run_ws _ _ (secs_mem m a r hr (by omega)),List.nil_append,run_sync,dump_secs m a r s hr hs]
def secL (l:List Bs):Nat:=(l.map fun x => secR x.length).sum
theorem sizeL_eq:∀ (l:List Bs),sizeL l = 64 * secL l
 | [] => rfl
 | x :: l => by
  show 64 * secR x.length + sizeL l = 64 * (secR x.length + secL l)
  rw [sizeL_eq l]
  omega
theorem secL_snoc (l:List Bs) (x:Bs):secL (l ++ [x]) = secL l + secR x.length:=by simp [secL]
def appS (hs k gen:Nat) (l:List Bs) (x:Bs):List (Option (Nat × Bs)):=(secsOf (k * hs + (1 + secL l)) (secR x.length) (recB gen l.length x)).map some ++ [none]
def anewS (hs k gen:Nat) (l:List Bs):List (Option (Nat × Bs)):=
 (secsOf (k * hs) hs (List.replicate (64 * hs) 0)).map some ++ (none :: ((secsOf (k * hs + 1) (secL l) (recsB gen 0 l)).map some ++ (none :: ((secsOf (k * hs) 1 (headB gen)).map some ++ [none]))))
theorem halfN_eq (b:Bs):halfN b = 64 * (b.length / 64 / 2):=by unfold halfN;omega
theorem app_run {b:Bs} {k gen:Nat} {l:List Bs} {x:Bs} (hk:k ≤ 1) (h:1 + secL l + secR x.length ≤ b.length / 64 / 2):runJ (loadD b) (appS (b.length / 64 / 2) k gen l x) = (loadD (ovl b (k * halfN b + (64 + sizeL l)) (recB gen l.length x)),0):=by
 have hb:b.length / 64 / 2 * 2 * 64 ≤ b.length:=by omega
 obtain ⟨hs,e⟩:∃ hs,hs = b.length / 64 / 2:=⟨_,rfl⟩
 rw [← e] at h hb ⊢
 have hN:halfN b = 64 * hs:=by rw [halfN_eq,e]
 have e2:64 * (k * hs + (1 + secL l)) = k * halfN b + (64 + sizeL l):=by rw [hN,sizeL_eq,Nat.mul_add,Nat.mul_left_comm];omega
 have hk2:k * hs ≤ hs:=by rcases Nat.le_one_iff_eq_zero_or_eq_one.1 hk with rfl | rfl <;> omega
 rw [appS,run_batch (len_recB gen l.length x) (by omega),e2]
 rfl
theorem anew_run {b:Bs} {k gen:Nat} {l:List Bs} (hk:k ≤ 1) (h:1 + secL l ≤ b.length / 64 / 2):runJ (loadD b) (anewS (b.length / 64 / 2) k gen l) = (loadD (anewB b k gen l),0):=by
 have hb:b.length / 64 / 2 * 2 * 64 ≤ b.length:=by omega
 obtain ⟨hs,e⟩:∃ hs,hs = b.length / 64 / 2:=⟨_,rfl⟩
 rw [← e] at h hb ⊢
 have hN:halfN b = 64 * hs:=by rw [halfN_eq,e]
 have hk2:k * hs ≤ hs:=by rcases Nat.le_one_iff_eq_zero_or_eq_one.1 hk with rfl | rfl <;> omega
 have e1:64 * (k * hs) = k * halfN b:=by rw [hN,Nat.mul_left_comm]
 have e2:64 * (k * hs + 1) = k * halfN b + 64:=by rw [← e1];omega
 have hz:(List.replicate (64 * hs) (0:BitVec 8)).length = 64 * hs:=List.length_replicate
 have hR:(recsB gen 0 l).length = 64 * secL l:=by rw [len_recsB,sizeL_eq]
 have l1:(ovl b (64 * (k * hs)) (List.replicate (64 * hs) 0)).length = b.length:=len_ovl (by rw [hz];omega)
 have l2:(ovl (ovl b (64 * (k * hs)) (List.replicate (64 * hs) 0)) (64 * (k * hs + 1)) (recsB gen 0 l)).length = b.length:=by rw [len_ovl (by rw [l1,hR];omega),l1]
 rw [anewS,run_batch hz (by omega),run_batch hR (by rw [l1];omega),run_batch (len_headB gen) (by rw [l2];omega),anewB,e2,e1,hN]
 rfl
structure JnT where
 k:Nat
 gen:Nat
 l:List Bs
def chkX (x:Bs):Int:=if x.length = 0 ∨ 1048576 < x.length then 1 else 0
def hsD (D:DkT):Nat:=sizeD D / 2
def appE (J:JnT) (D:DkT) (x:Bs):Int:=if chkX x = 1 then 1 else if hsD D < 1 + secL J.l + secR x.length then 13 else 0
def appX (J:JnT) (D:DkT) (x:Bs):Int:=if appE J D x = 0 then (runJ D (appS (hsD D) J.k J.gen J.l x)).2 else appE J D x
def appD (J:JnT) (D:DkT) (x:Bs):DkT:=if appE J D x = 0 then (runJ D (appS (hsD D) J.k J.gen J.l x)).1 else D
def appJ (J:JnT) (D:DkT) (x:Bs):JnT:=if appE J D x = 0 then ⟨J.k,J.gen,J.l ++ [x]⟩ else J
def rstE (D:DkT) (m:List Bs):Int:=if ∃ x ∈ m,chkX x = 1 then 1 else if hsD D < 1 + secL m then 13 else 0
def rstX (J:JnT) (D:DkT) (m:List Bs):Int:=if rstE D m = 0 then (runJ D (anewS (hsD D) (1 - J.k) (J.gen + 1) m)).2 else rstE D m
def rstD (J:JnT) (D:DkT) (m:List Bs):DkT:=if rstE D m = 0 then (runJ D (anewS (hsD D) (1 - J.k) (J.gen + 1) m)).1 else D
def rstJ (J:JnT) (D:DkT) (m:List Bs):JnT:=if rstE D m = 0 then ⟨1 - J.k,J.gen + 1,m⟩ else J
def openS (D:DkT):List (Option (Nat × Bs)) × JnT:=
 if (pickB (dumpD D)).2 = 0 then (anewS (hsD D) 0 1 [],⟨0,1,[]⟩)
 else if ∀ z ∈ (halfB (dumpD D) (pickB (dumpD D)).1).drop (recsOf (pickB (dumpD D)).2 (halfB (dumpD D) (pickB (dumpD D)).1)).2,z = 0 then ([],⟨(pickB (dumpD D)).1,(pickB (dumpD D)).2,(recsOf (pickB (dumpD D)).2 (halfB (dumpD D) (pickB (dumpD D)).1)).1⟩)
 else (anewS (hsD D) (1 - (pickB (dumpD D)).1) ((pickB (dumpD D)).2 + 1) (recsOf (pickB (dumpD D)).2 (halfB (dumpD D) (pickB (dumpD D)).1)).1,⟨1 - (pickB (dumpD D)).1,(pickB (dumpD D)).2 + 1,(recsOf (pickB (dumpD D)).2 (halfB (dumpD D) (pickB (dumpD D)).1)).1⟩)
def openX (D:DkT):Int:=if sizeD D < 8 then 1 else (runJ D (openS D).1).2
def openD (D:DkT):DkT:=if sizeD D < 8 then D else (runJ D (openS D).1).1
structure Log (D:DkT) (J:JnT):Prop where
 idle:D = loadD D.safe
 good:Good D.safe J.k J.gen J.l
theorem Log.app {D:DkT} {J:JnT} (h:Log D J) {x:Bs} (he:appE J D x = 0):appX J D x = 0 ∧ appD J D x = loadD (ovl D.safe (J.k * halfN D.safe + (64 + sizeL J.l)) (recB J.gen J.l.length x)) ∧ Log (appD J D x) (appJ J D x) ∧ sizeD (appD J D x) = sizeD D:=by
 have hE:=he
 unfold appE at he
 by_cases h1:chkX x = 1
 · rw [if_pos h1] at he;cases he
 rw [if_neg h1] at he
 by_cases h2:hsD D < 1 + secL J.l + secR x.length
 · rw [if_pos h2] at he;cases he
 have hx:x ≠ [] ∧ x.length < 18446744073709551616:=by
  unfold chkX at h1
  by_cases h3:x.length = 0 ∨ 1048576 < x.length
  · rw [if_pos h3] at h1;exact absurd rfl h1
  · exact ⟨fun e => h3 (Or.inl (by rw [e];rfl)),by omega⟩
 have hfit:1 + secL J.l + secR x.length ≤ D.safe.length / 64 / 2:=by
  show _ ≤ sizeD D / 2
  unfold hsD at h2
  omega
 have hrun:=app_run (b:=D.safe) (gen:=J.gen) h.good.hk hfit
 have hN:=halfN_eq D.safe
 have hgood:=h.good.app hx.1 hx.2 (by rw [hN,sizeL_eq];omega)
 have hlen:(ovl D.safe (J.k * halfN D.safe + (64 + sizeL J.l)) (recB J.gen J.l.length x)).length = D.safe.length:=by
  refine len_ovl ?_
  have h4:=half_le D.safe
  rw [len_recB,hN,sizeL_eq]
  rcases Nat.le_one_iff_eq_zero_or_eq_one.1 h.good.hk with e | e <;> rw [e] <;> omega
 have eD:appD J D x = loadD (ovl D.safe (J.k * halfN D.safe + (64 + sizeL J.l)) (recB J.gen J.l.length x)):=by
  rw [appD,if_pos hE]
  conv => lhs;rw [h.idle]
  show (runJ (loadD D.safe) (appS (D.safe.length / 64 / 2) J.k J.gen J.l x)).1 = _
  rw [hrun]
 have eX:appX J D x = 0:=by
  rw [appX,if_pos hE]
  conv => lhs;rw [h.idle]
  show (runJ (loadD D.safe) (appS (D.safe.length / 64 / 2) J.k J.gen J.l x)).2 = _
  rw [hrun]
 refine ⟨eX,eD,⟨by rw [eD];rfl,?_⟩,?_⟩
 · rw [eD,appJ,if_pos hE]
   exact hgood
 · rw [eD]
   show (ovl D.safe _ _).length / 64 = D.safe.length / 64;rw [hlen]
theorem Log.rst {D:DkT} {J:JnT} (h:Log D J) (hg:J.gen + 1 < 18446744073709551616) {m:List Bs} (he:rstE D m = 0):rstX J D m = 0 ∧ Log (rstD J D m) (rstJ J D m) ∧ sizeD (rstD J D m) = sizeD D ∧ rstD J D m = loadD (anewB D.safe (1 - J.k) (J.gen + 1) m):=by
 have hE:=he
 unfold rstE at he
 by_cases h1:∃ x ∈ m,chkX x = 1
 · rw [if_pos h1] at he;cases he
 rw [if_neg h1] at he
 by_cases h2:hsD D < 1 + secL m
 · rw [if_pos h2] at he;cases he
 have hx:∀ x ∈ m,x ≠ [] ∧ x.length < 18446744073709551616:=fun x hx => by
  have h4:¬ chkX x = 1:=fun e => h1 ⟨x,hx,e⟩
  unfold chkX at h4
  by_cases h3:x.length = 0 ∨ 1048576 < x.length
  · rw [if_pos h3] at h4;exact absurd rfl h4
  · exact ⟨fun e => h3 (Or.inl (by rw [e];rfl)),by omega⟩
 have hfit:1 + secL m ≤ D.safe.length / 64 / 2:=by
  show _ ≤ sizeD D / 2
  unfold hsD at h2
  omega
 have hk:1 - J.k ≤ 1:=by omega
 have hN:=halfN_eq D.safe
 have hrun:=anew_run (b:=D.safe) (gen:=J.gen + 1) hk hfit
 have hkk:1 - (1 - J.k) = J.k:=by have:=h.good.hk;omega
 obtain ⟨hgood,hlen⟩:=Good.anew (b:=D.safe) (k:=1 - J.k) (gen:=J.gen + 1) (l:=m) hk (by omega) hg hx (by rw [hN,sizeL_eq];omega) (by
  rw [hkk]
  obtain ⟨z,hz⟩:=h.good.half
  rw [hz,gen_head h.good.g1 h.good.g2]
  omega)
 have eD:rstD J D m = loadD (anewB D.safe (1 - J.k) (J.gen + 1) m):=by
  rw [rstD,if_pos hE]
  conv => lhs;rw [h.idle]
  show (runJ (loadD D.safe) (anewS (D.safe.length / 64 / 2) (1 - J.k) (J.gen + 1) m)).1 = _
  rw [hrun]
 have eX:rstX J D m = 0:=by
  rw [rstX,if_pos hE]
  conv => lhs;rw [h.idle]
  show (runJ (loadD D.safe) (anewS (D.safe.length / 64 / 2) (1 - J.k) (J.gen + 1) m)).2 = _
  rw [hrun]
 refine ⟨eX,⟨by rw [eD];rfl,?_⟩,?_,eD⟩
 · rw [eD,rstJ,if_pos hE]
   exact hgood
 · rw [eD]
   show (anewB D.safe _ _ _).length / 64 = D.safe.length / 64;rw [hlen]
theorem dump_idle (s:Bs):dumpD (loadD s) = s:=rfl
theorem all_zero:∀ (z:Bs),(∀ y ∈ z,y = 0) → z = List.replicate z.length 0
 | [],_ => rfl
 | y :: z,h => by
  rw [List.length_cons,List.replicate_succ,← all_zero z (fun u hu => h u (by simp [hu])),h y (by simp)]
theorem Log.open {s:Bs} (hs:8 ≤ s.length / 64) (hsz:s.length < 18446744073709551616) (hg:(pickB s).2 + 1 < 18446744073709551616):openX (loadD s) = 0 ∧ Log (openD (loadD s)) (openS (loadD s)).2 ∧ sizeD (openD (loadD s)) = s.length / 64 ∧ (openS (loadD s)).2.l = (readJ s).2 ∧ ((openS (loadD s)).2.gen = (readJ s).1 ∨ (openS (loadD s)).2.gen = (readJ s).1 + 1):=by
 have hz:¬ sizeD (loadD s) < 8:=by show ¬ s.length / 64 < 8;omega
 have hN:=halfN_eq s
 obtain ⟨k,gen,hp⟩:∃ k gen,pickB s = (k,gen):=⟨_,_,rfl⟩
 rw [hp] at hg
 replace hg:gen + 1 < 18446744073709551616:=hg
 have hsd:hsD (loadD s) = s.length / 64 / 2:=rfl
 have hpk:k ≤ 1 ∧ gen = genH (halfB s k) ∧ genH (halfB s (1 - k)) ≤ gen ∧ (k = 1 → genH (halfB s 0) < gen):=by
  unfold pickB at hp
  by_cases hc:genH (halfB s 0) < genH (halfB s 1)
  · rw [if_pos hc] at hp
    cases hp
    exact ⟨Nat.le_refl _,rfl,Nat.le_of_lt hc,fun _ => hc⟩
  · rw [if_neg hc] at hp
    cases hp
    exact ⟨by omega,rfl,by show genH (halfB s 1) ≤ _;omega,fun h => by cases h⟩
 obtain ⟨hk,hge,ho1,ho2⟩:=hpk
 unfold openX openD
 rw [if_neg hz,if_neg hz]
 unfold openS readJ
 rw [dump_idle,hp,hsd]
 by_cases h0:gen = 0
 · subst h0
   rw [if_pos rfl,if_pos rfl];have hrun:=anew_run (b:=s) (k:=0) (gen:=1) (l:=[]) (by omega) (by show 1 + 0 ≤ _;omega)
   have ho:genH (halfB s (1 - 0)) < 1:=by
    rcases Nat.le_one_iff_eq_zero_or_eq_one.1 hk with rfl | rfl
    · omega
    · have:=ho2 rfl;omega
   obtain ⟨hgood,hlen⟩:=Good.anew (b:=s) (k:=0) (gen:=1) (l:=[]) (by omega) (by omega) (by omega) (by simp) (by show 64 + 0 ≤ _;omega) ho
   show (runJ (loadD s) (anewS (s.length / 64 / 2) 0 1 [])).2 = 0 ∧ Log (runJ (loadD s) (anewS (s.length / 64 / 2) 0 1 [])).1 _ ∧ _;rw [hrun];exact ⟨rfl,⟨rfl,hgood⟩,by show (anewB s 0 1 []).length / 64 = _;rw [hlen],rfl,Or.inr rfl⟩
 · rw [if_neg h0,if_neg h0]
   have hgen:=gen_is (half:=halfB s k) (by omega)
   rw [← hge] at hgen;have hlh:=len_half (b:=s) hk;obtain ⟨l,e,hle⟩:∃ l e,recsOf gen (halfB s k) = (l,e):=⟨_,_,rfl⟩;have hinv:=recs_inv (gen:=gen) (half:=halfB s k) ((halfB s k).length / 64) 64 0 (by omega)
   rw [show recsL gen (halfB s k) ((halfB s k).length / 64) 64 0 = (l,e) from hle] at hinv;obtain ⟨i1,i2,i3,i4,i5⟩:=hinv;replace i2:e = 64 + sizeL l:=i2;replace i3:e ≤ (halfB s k).length:=i3;have hle9:=half_le s;rw [show (halfB s (k,gen).1) = halfB s k from rfl,show (k,gen).2 = gen from rfl,hle];show _ ∧ _
   by_cases hzz:∀ z ∈ (halfB s k).drop e,z = 0
   · rw [if_pos hzz]
     refine ⟨rfl,⟨rfl,hk,by show 1 ≤ gen;omega,by show gen < _;omega,⟨((halfB s k).drop e).length,?_⟩,?_,ho1,ho2⟩,rfl,rfl,Or.inl rfl⟩
     · show halfB s k = _
       rw [← hgen.1,← all_zero _ hzz];have e1:recsB gen 0 l = ((halfB s k).drop 64).take (sizeL l):=i1.symm;rw [e1,i2,← List.drop_drop,List.take_append_drop,List.take_append_drop]
     · intro x hx
       have:=i4 x hx;exact ⟨this.1,by omega⟩
   · rw [if_neg hzz]
     have hsl:1 + secL l ≤ s.length / 64 / 2:=by
      have:=sizeL_eq l;omega
     have hk2:1 - k ≤ 1:=by omega
     have hkk:1 - (1 - k) = k:=by omega
     have hrun:=anew_run (b:=s) (k:=1 - k) (gen:=gen + 1) (l:=l) hk2 hsl;obtain ⟨hgood,hlen⟩:=Good.anew (b:=s) (k:=1 - k) (gen:=gen + 1) (l:=l) hk2 (by omega) hg (fun x hx => ⟨(i4 x hx).1,by have:=(i4 x hx).2;omega⟩) (by rw [hN,sizeL_eq];omega) (by rw [hkk,← hge];omega)
     show (runJ (loadD s) (anewS (s.length / 64 / 2) (1 - k) (gen + 1) l)).2 = 0 ∧ Log (runJ (loadD s) (anewS (s.length / 64 / 2) (1 - k) (gen + 1) l)).1 _ ∧ _;rw [hrun];exact ⟨rfl,⟨rfl,hgood⟩,by show (anewB s (1 - k) (gen + 1) l).length / 64 = _;rw [hlen],rfl,Or.inr rfl⟩
theorem wp_appendV {o:Oper} {a:Act} {w:World} {K:Act → World → Prop} {Q:Exit → Act → World → Prop} (s x:Operand) (v:Value) (l:List (Nat × Bs)) (p:Nat × Bs) (gu:Nat)
 (hown:OwnV w v l) (hu:Blk w gu (wrC p) 109) (hp:p.2.length = 64) (hl:l.length < 1000000)
 (ho:o.op = .call { callee:=.builtin .append,args:=#[s,x],argTypes:=#[92,92] }) (hs:a.eval s = v) (hx:a.eval x = .slice (some ⟨gu,0,none⟩) 1 1)
 (h:∀ v' w',OwnV w' v' (l ++ [p]) → w.grownBy w' v.ownBlock → (v'.ownBlock = v.ownBlock ∨ v'.ownBlock = some w.heap.size) → K (a.put o.dst v') w'):o.wp Tryz.prog a w K Q:=by
 obtain ⟨i0,hi,hz0,hz1,hz2⟩:=info_parts Tryz.infoDw
 obtain ⟨v',w',hr,h2,h3,h4,h5⟩:=run_append_own_at (P:=Tryz.prog) w 0 92 o.type 109 i0 (.agg (Value.int .i64 0 :: cb zs64).toArray) 65 72 Tryz.underlying92 hi hz0 hz1 hz2 (by show (Value.int .i64 0 :: cb zs64).toArray.size = 65;rw [List.size_toArray,List.length_cons,cb_len,len_zs64]) (by decide) v l.length (flatV l) hown ⟨gu,0,none⟩ 1 1 (wrC p) (by rw [wrC_len hp]) (by intro j u hj;rw [Addr.add_mid,Nat.zero_add,hu.cell,hj]) (wrC_one p) (by unfold maxLen;omega) (by omega) (Nat.zero_le _)
 unfold Oper.wp execOp
 simp only [ho,resolve,invoke,builtin,Sem.run_bind,Sem.run_pure,Result.andThen_ok,List.map_toArray,List.map_cons,List.map_nil,hs,hx,hr]
 refine h v' w' ?_ h3 h5
 unfold OwnV
 rw [flatV_snoc,List.length_append]
 exact h2
theorem fill_one65 (cs:List Value) (h:cs.length = 65) (a0:Array Value) (ha:a0.size = 65):Instr.fill (fun i => some (i * 65,65)) a0 [(0,.agg cs.toArray)] = some cs.toArray:=by
 have e:a0 = ([] ++ (a0.toList ++ [])).toArray:=by simp
 rw [e,fill_seg (vs:=cs) (off:=0) (size:=65) (by simp) rfl (by simpa using ha) rfl h,Instr.fill]
 simp
theorem build_dw1 (f:Operand → Value) (o:Oper) (x:Operand) (ho:o.op = .buildSlice 92 1 #[(0,x)]) (p:Nat × Bs) (hp:p.2.length = 64) (hx:f x = .agg (wrC p).toArray) (w:World) :
 (execOp f o).run Tryz.prog w = .ok (.value (.slice (some ⟨w.heap.size,0,none⟩) 1 1)) (w.alloc (.cells (wrC p).toArray 109)):=by
 obtain ⟨i0,hi,hz,hs,_⟩:=info_parts Tryz.infoDw
 have hr:=run_buildSlice (P:=Tryz.prog) w 92 109 1 #[(0,.agg (wrC p).toArray)] (wrC p).toArray i0 _ Tryz.underlying92 hi hz (by rw [hs];decide) (by rw [hs];decide) (by rw [hs];exact fill_one65 (wrC p) (wrC_len hp) _ (by simp))
 unfold execOp
 rw [ho]
 simp only [List.map_toArray,List.map_cons,List.map_nil,hx,Sem.run_bind,hr,Result.andThen_ok,Sem.run_pure]
theorem built_dw (i:Int):∀ ps,ps = [(0,Value.int .i64 i)] → Tryz.prog.built 109 ps = some (Value.int .i64 i :: cb zs64).toArray:=fun ps h => by subst h;kernel_rfl
theorem wpAnyH_cellV {md:Region.Mode} {ops:Array Oper} {Q:Exit → Act → World → Prop} {S:World → Prop} {fuel:Nat} {listed:Array Bool} {a:Act} {w:World} (i:Nat) {oi:Oper} (x y:Operand) (g k:Nat) (cs:List Value) (ad:Option Addr) (n c:Nat) (tb:TypeId) (hk:k < cs.length) (hb:Blk w g cs tb)
 (hr:Region.ready md ops listed = [i]) (hi:ops[i]? = some oi) (hw:Region.wanted oi (yielded ops a.tmps) = true) (ho:oi.op = .store 92 x y) (hx:a.eval x = .pointer (some ⟨g,k,none⟩)) (hy:a.eval y = .slice ad n c)
 (h:∀ w',Blk w' g (cs.set k (.slice ad n c)) tb → Only g w w' → S w' ∧ wpAnyH Tryz.prog md ops Q S fuel (listed.setIfInBounds i true) (a.put oi.dst undef) w'):wpAnyH Tryz.prog md ops Q S (fuel + 1) listed a w:=by
 have hc:w.cell? ⟨g,k,none⟩ = some cs[k]:=by rw [hb.cell,List.getElem?_eq_getElem hk]
 have hf:w.frozen? ⟨g,k,none⟩ = false:=hb.frozen k
 have he:(execOp a.eval oi).run Tryz.prog w = .ok .skip (w.setCell ⟨g,k,none⟩ (.slice ad n c)):=by
  clear h hw
  generalize a.eval = f at hx hy ⊢
  unfold execOp
  rw [ho]
  simp [go_sem,hx,hy,hc,hf]
 refine wpAnyH_law i hr hi hw ?_
 unfold Oper.wp
 rw [he,Oper.upon_skip]
 exact h _ (hb.set k _) (Only.setCell (Only.refl g w) k _)
theorem blk_grown {w w':World} {g:Nat} {cs:List Value} {t:TypeId} {row:Option Nat} (h:Blk w g cs t) (hg:w.grownBy w' row) (hne:row ≠ some g):Blk w' g cs t:=blk_same h (hg.block g h.lt (fun e => hne e.symm))
theorem wpSeq_copyO {ops:Array Oper} {Q:Exit → Act → World → Prop} {rest:List Oper} {o:Oper} {a:Act} {w:World} (d s:Operand) (g k dLen dCap b off sLen sCap:Nat) (t:TypeId) (cs:List Value) (xs:Bs) (hg:Blk w g cs t) (hm:xs.length = min sLen dLen) (hk:k + xs.length ≤ cs.length)
 (hsrc:∀ j,j < xs.length → w.cell? ⟨b,off + j,none⟩ = some (.int .u8 ((xs.getD j 0).toNat:Int))) (ho:o.op = .call { callee:=.builtin .copy,args:=#[d,s],argTypes:=#[23,23] }) (hx:a.eval d = .slice (some ⟨g,k,none⟩) dLen dCap) (hy:a.eval s = .slice (some ⟨b,off,none⟩) sLen sCap) (hw:Region.wanted o (yielded ops a.tmps) = true)
 (h:∀ w',Blk w' g (cs.take k ++ cb xs ++ cs.drop (k + xs.length)) t → Only g w w' → wpList Tryz.prog ops Q rest (a.put o.dst (.int .i64 (xs.length:Int))) w'):wpList Tryz.prog ops Q (o :: rest) a w:=by
 obtain ⟨w',h1,h2,h3⟩:=copyO a.eval o d s ho w g k dLen dCap b off sLen sCap t cs xs hg hm hk hsrc hx hy
 exact wpSeq_val _ _ hw h1 (h w' h2 h3)
theorem Reads.cellsAt {w:World} {b off n c:Nat} {l:Bs} (h:Reads w (.slice (some ⟨b,off,none⟩) n c) l):∀ j,j < l.length → w.cell? ⟨b,off + j,none⟩ = some (.int .u8 ((l.getD j 0).toNat:Int)):=fun j hj => by
 obtain ⟨b',off',h1,h2⟩:=h.atB (Nat.lt_of_le_of_lt (Nat.zero_le _) hj)
 simp only [Option.some.injEq,Addr.mk.injEq,and_true] at h1
 obtain ⟨rfl,rfl⟩:=h1
 exact h2 j hj
theorem wr_copied (k:Nat) {b:Bs} (hb:b.length = 64):(wrC (k,zs64)).take 1 ++ cb b ++ (wrC (k,zs64)).drop (1 + b.length) = wrC (k,b):=by
 have e:(wrC (k,zs64)).drop (1 + b.length) = []:=List.drop_of_length_le (by rw [wrC_len len_zs64,hb];exact Nat.le_refl _)
 rw [e,List.append_nil]
 rfl
def wtD (D:DkT) (k:Nat) (b:Bs):DkT:=⟨D.safe,D.wait ++ [(k,b)],D.left,D.down⟩
theorem okD.wt {D:DkT} (h:okD D) {k:Nat} {b:Bs} (hk:k < sizeD D) (hb:b.length = 64):okD (wtD D k b):=by
 obtain ⟨h1,h2,h3⟩:=h.size
 refine ⟨⟨sizeD D,h2,h3,h1,fun p hp => ?_⟩,h.lo,h.hi⟩
 rcases List.mem_append.1 hp with hp | hp
 · exact h.wait p hp
 · rw [List.mem_singleton.1 hp];exact ⟨hk,hb⟩
theorem dkWrite_any {w:World} {g:Nat} {P:Nat → Prop} {D:DkT} (i:Int) (v:Value) (b:Bs) (h:DkIs w g P D) (hw2:D.wait.length ≤ 200) (hr:Sta P w (fun W => Reads W v b)):Calls Tryz.prog 89 #[.pointer (some ⟨g,0,none⟩),.int .i64 i,v] w fun r w' => ∃ P',r = .returned (.int .i64 (putX13 D i b)) ∧ DkIs w' g P' (putD13 D i b) ∧ Mut P w w' ∧ Grew w P P':=by
 have HK:Hid (DkIs w g P D):=h
 obtain ⟨gs,vw,fu,lf,hm,hP⟩:=h
 subst hP
 have HRF:Hid (Calls Tryz.prog 111 #[.pointer (some ⟨g,0,none⟩),.int .i64 i] w fun r w' => r = .returned (.int .i64 (readX13 D i)) ∧ w' = w):=dkRefused_any i hm
 by_cases hx:readX13 D i = 0
 case neg =>
  have q1:(readX13 D i == 0) = false:=by rw [beq_eq_false_iff_ne];exact hx
  have HE:Hid (putD13 D i b = D ∧ putX13 D i b = readX13 D i):=by
   unfold putD13 putX13 readX13;unfold readX13 at hx
   by_cases h3:D.down = true
   · rw [if_pos h3,if_pos h3,if_pos h3];exact ⟨rfl,rfl⟩
   · rw [if_neg h3] at hx
     rw [if_neg h3,if_neg h3,if_neg h3]
     by_cases h4:hasD D i = false
     · rw [if_pos h4,if_pos h4,if_pos h4];exact ⟨rfl,rfl⟩
     · rw [if_neg h4] at hx;exact absurd rfl hx
  rw [HE.out.1,HE.out.2]
  obtain ⟨xx,HXX⟩:=sqn (readX13 D i)
  rw [← HXX.out] at HRF q1
  rw [← HXX.out]
  clear hx hm hw2 hr
  go_enter Tryz.func89,Tryz.ntmps89
  have tk0:Hid True:=trivial
  go_wp2_with (first
   | (clear tk0;go_at_call 111;refine (HRF.out).mono ?_;rintro e0 y0 ⟨rfl,rfl⟩))
  go_ret
  exact ⟨_,rfl,HK.out,Mut.refl _ _,Grew.refl _ _⟩
 case pos =>
  have h1:D.down = false ∧ 0 ≤ i ∧ i < (sizeD D:Int):=by
   unfold readX13 at hx
   cases hd:D.down with
   | true => rw [hd] at hx;simp at hx
   | false =>
    rw [hd,if_neg (by decide)] at hx
    refine ⟨rfl,?_⟩
    by_cases hh:hasD D i = false
    · rw [if_pos hh] at hx;simp at hx
    · rw [hasD_not] at hh
      exact Decidable.not_not.1 hh
  obtain ⟨k,rfl⟩:=Int.eq_ofNat_of_zero_le h1.2.1
  have HKS:Hid (k < sizeD D):=by show _ < _;have:=h1.2.2;omega
  have hdn:=h1.1
  have hha:¬ (hasD D (k:Int) = false):=by rw [hasD_not];exact fun h => h ⟨h1.2.1,h1.2.2⟩
  rw [hx] at HRF
  obtain ⟨adb,cb9,hv,hcb,hnb,hxb⟩:=id hr.now
  by_cases hb:b.length = 64
  case neg =>
   have HE:Hid (putD13 D (k:Int) b = D ∧ putX13 D (k:Int) b = 1):=by
    constructor
    · rw [putD13,if_neg (by rw [hdn];decide),if_neg hha,if_pos hb]
    · rw [putX13,if_neg (by rw [hdn];decide),if_neg hha,if_pos hb]
   rw [HE.out.1,HE.out.2];obtain ⟨lb,HLB⟩:=sqn (b.length);rw [← HLB.out] at hv hb;subst hv;have q2:((lb:Int) == 64) = false:=by rw [beq_eq_false_iff_ne];omega
   clear hx hm hw2 hr h1 hdn hha hcb hnb hxb hb
   go_enter Tryz.func89,Tryz.ntmps89
   have tk0:Hid True:=trivial
   go_wp2_with (first
    | (clear tk0;go_at_call 111;refine (HRF.out).mono ?_;rintro e0 y0 ⟨rfl,rfl⟩))
   go_ret;exact ⟨_,rfl,HK.out,Mut.refl _ _,Grew.refl _ _⟩
  case pos =>
   have HE:Hid (putD13 D (k:Int) b = chD (wtD D k b) ∧ putX13 D (k:Int) b = if (wtD D k b).left = 0 then 14 else 0):=by
    constructor
    · rw [putD13,if_neg (by rw [hdn];decide),if_neg hha,if_neg (by rw [hb];decide),Int.toNat_natCast];rfl
    · rw [putX13,if_neg (by rw [hdn];decide),if_neg hha,if_neg (by rw [hb];decide)];rfl
   rw [HE.out.1,HE.out.2];obtain ⟨bb,offb,hadb,_⟩:=hxb (by omega)
   subst hadb;rw [hb] at hv;subst hv;have HB6:Hid (b.length = 64):=hb;have HRD:Hid (Sta (dkP g gs vw) w (fun W => Reads W (.slice (some ⟨bb,offb,none⟩) 64 cb9) b)):=hr
   have HDW:Hid ((wtD D k b).down = false):=hdn;have HW2:Hid (D.wait.length ≤ 200):=hw2;have HMN:Hid (b.length = min 64 64 ∧ 1 + b.length ≤ (wrC (k,zs64)).length):=⟨by rw [hb];rfl,by rw [hb,wrC_len len_zs64];exact Nat.le_refl _⟩
   clear hx hw2 hr hha hcb hnb hxb hb;obtain ⟨n,HN⟩:=sqn (sizeD D);obtain ⟨aw,cw,hvw⟩:=hm.wt.form;obtain ⟨nw,HNW⟩:=sqn (D.wait.length);rw [← HNW.out] at hvw;subst hvw;obtain ⟨dn,HDN⟩:=sqn (D.down);have HM:Hid (DkM w g gs (.slice aw nw cw) fu lf D):=hm;have HME:Hid (Blk w g [.slice (some ⟨gs,0,none⟩) n n,.slice aw nw cw,.bool dn,.bool fu,.int .i64 lf] 94):=by have h9:=hm.me;rw [dkC,← HN.out,← HDN.out] at h9;exact h9
   obtain rfl:dn = false:=by rw [HDN.out];exact hdn
   clear hm h1 hdn HK;obtain ⟨xx,HXX⟩:=sqn (if (wtD D k b).left = 0 then 14 else 0:Int);rw [← HXX.out]
   go_enter Tryz.func89,Tryz.ntmps89
   obtain ⟨tk0,tk1,tk2,tk3,tk4,tk5⟩:=sqk6
   go_wp2_with (first
    | (clear tk0;go_at_call 111;refine (HRF.out).mono ?_;rintro e0 y0 ⟨rfl,rfl⟩)
    | (clear tk1;with_reducible refine wpSeq_build 109 [(0,.tmp 18)] (wrC (k,zs64)) ?_ ?_ ?_ ?_
       rotate_left
       · rfl
       · rfl
       rotate_left
       · exact built_dw _ _ rfl)
    | (clear tk2;with_reducible refine wpSeq_allocDw ?_ ?_ ?_
       · rfl
       · rfl
       intro g8 y1 nn;have HG8:Hid (Blk y1 g8 (wrC (0,zs64)) 109):=nn.blk;have HBW:Hid (Below y0.heap.size y0 y1):=nn.below;have HGE:Hid (y0.heap.size ≤ g8):=nn.ge;clear nn)
    | (clear tk3;with_reducible refine wpSeq_storeRow 109 (.tmp 8) (.tmp 19) g8 (wrC (0,zs64)) (wrC (k,zs64)) HG8.out (by rw [wrC_len len_zs64,wrC_len len_zs64]) (sz_wr len_zs64) (wrC_one _) ?_ ?_ ?_ ?_ ?_
       · rfl
       · rfl
       · rfl
       · rfl
       intro y2 hs;replace HG8:Hid (Blk y2 g8 (wrC (k,zs64)) 109):=hs.blk;replace HBW:Hid (Below y0.heap.size y0 y2):=HBW.out.trans (hs.only.below HGE.out HBW.out.size);clear hs)
    | (clear tk4;with_reducible refine wpSeq_sliceSec (.tmp 20) g8 1 ?_ ?_ ?_ ?_
       · rfl
       · rfl
       · rfl)
    | (clear tk5;with_reducible refine wpSeq_copyO (.tmp 21) (.tmp 22) g8 1 64 64 bb offb 64 cb9 109 (wrC (k,zs64)) b HG8.out HMN.out.1 HMN.out.2 ?_ ?_ ?_ ?_ ?_ ?_
       · exact (HRD.out.at (mut_below HBW.out _)).cellsAt
       · rfl
       · rfl
       · rfl
       · rfl
       intro y3 hb3 ho3;replace HG8:Hid (Blk y3 g8 (wrC (k,b)) 109):=by rw [wr_copied k HB6.out] at hb3;exact hb3
       replace HBW:Hid (Below y0.heap.size y0 y3):=HBW.out.trans (ho3.below HGE.out HBW.out.size);clear hb3 ho3)
    | fail)
   refine wp_region_held_drew (S:=fun wx => Blk wx g8 (wrC (k,b)) 109) (by kernel_rfl) HG8.out.drew ?_
   intro hS;have HBD:Hid (Below y0.heap.size y0 y3.drew):=⟨HBW.out.os,HBW.out.tape,HBW.out.output,HBW.out.size,HBW.out.block⟩;clear HBW HG8
   change wpAnyH _ _ _ _ _ _ _ _ (World.drew y3)
   generalize World.drew y3 = y4 at *
   refine tkc 0 (.pointer (some ⟨g,0,none⟩)) rfl hS ?_;simp only [Act.put,sq];refine tkc 1 (.pointer (some ⟨g,0,none⟩)) rfl hS ?_;simp only [Act.put,sq];refine tkc 2 (.pointer (some ⟨g,0,none⟩)) rfl hS ?_;simp only [Act.put,sq];refine tkc 3 (.pointer (some ⟨g,1,none⟩)) rfl hS ?_;simp only [Act.put,sq];refine tka 5 (.agg (wrC (k,b)).toArray) rfl (fun wx hx => by exact loadWr g8 0 (k,b) HB6.out _ rfl rfl (Blk.range hx)) hS ?_
   simp only [Act.put,sq];have HM4:Hid (DkM y4 g gs (.slice aw nw cw) fu lf D):=HM.out.below HBD.out;have HME4:Hid (Blk y4 g [.slice (some ⟨gs,0,none⟩) n n,.slice aw nw cw,.bool false,.bool fu,.int .i64 lf] 94):=HME.out.below HBD.out HME.out.lt;have hce:y4.cell? ⟨g,1,none⟩ = some (.slice aw nw cw):=HME4.out.cell 1;obtain ⟨y5,HY5⟩:=sqn (y4.alloc (.cells (wrC (k,b)).toArray 109));have HB5:Hid (Below y4.heap.size y4 y5):=by rw [HY5.out];exact below_alloc _ _
   have hce2:y5.cell? ⟨g,1,none⟩ = some (.slice aw nw cw):=(HME4.out.below HB5.out HME4.out.lt).cell 1;have HU:Hid (Blk y5 y4.heap.size (wrC (k,b)) 109):=by rw [HY5.out];exact Blk.new _ _ _
   have hS5:Blk y5 g8 (wrC (k,b)) 109:=hS.below HB5.out hS.lt;refine wpAnyH_comm 4 6 (.slice aw nw cw) (.slice (some ⟨y4.heap.size,0,none⟩) 1 1) y5 (by kernel_rfl) rfl rfl (by rfl) (by rfl) (by rfl) (by rfl) (by simp [go_sem,hce]) (by rw [HY5.out];exact build_dw1 _ _ _ rfl (k,b) HB6.out rfl _) (by simp [go_sem,hce2]) (by rw [HY5.out];exact build_dw1 _ _ _ rfl (k,b) HB6.out rfl _) (by kernel_rfl) (by kernel_rfl) rfl rfl hS hS5 ?_
   simp only [Act.put,sq];have HM5:Hid (DkM y5 g gs (.slice aw nw cw) fu lf D):=HM4.out.below HB5.out;have HBD5:Hid (Below y0.heap.size y0 y5):=HBD.out.trans (HB5.out.mono HBD.out.size);have HY4:Hid (y0.heap.size ≤ y4.heap.size):=HBD.out.size;clear hce hce2 hS;refine wpAnyH_law 7 (by kernel_rfl) rfl (by rfl) (wp_appendV (.tmp 28) (.tmp 30) (.slice aw nw cw) D.wait (k,b) y4.heap.size HM5.out.wt HU.out HB6.out (Nat.lt_of_le_of_lt HW2.out (by decide)) rfl rfl rfl ?_)
   intro v6 y6 ho6 hg6 hn6;have HO8:Hid ((Value.slice aw nw cw).ownBlock ≠ some g8):=fun e => absurd (HM.out.wt.lt g8 e) (by have:=HGE.out;omega)
   have HS6:Blk y6 g8 (wrC (k,b)) 109:=blk_grown hS5 hg6 HO8.out;refine ⟨HS6,?_⟩;obtain ⟨a6,c6,hv6⟩:=ho6.form;obtain ⟨n6,HN6⟩:=sqn ((D.wait ++ [(k,b)]).length);rw [← HN6.out] at hv6;subst hv6;have HME6:Hid (Blk y6 g [.slice (some ⟨gs,0,none⟩) n n,.slice aw nw cw,.bool false,.bool fu,.int .i64 lf] 94):=blk_grown ((HME4.out.below HB5.out HME4.out.lt)) hg6 HM.out.ne.2.1;have HSF6:Hid (Blk y6 gs (cb D.safe) 107):=blk_grown HM5.out.sf hg6 HM.out.ne.2.2;simp only [Act.put,sq];refine tkc 8 (.pointer (some ⟨g,0,none⟩)) rfl HS6 ?_;simp only [Act.put,sq];refine tkc 9 (.pointer (some ⟨g,1,none⟩)) rfl HS6 ?_;simp only [Act.put,sq];refine wpAnyH_cellV 10 (.tmp 33) (.tmp 31) g 1 _ a6 n6 c6 94 (by simp) HME6.out (by kernel_rfl) rfl (by rfl) rfl rfl rfl ?_
   intro y7 hb7 ho7;have HB7:Hid (Blk y7 g [.slice (some ⟨gs,0,none⟩) n n,.slice a6 n6 c6,.bool false,.bool fu,.int .i64 lf] 94):=hb7;refine ⟨HS6.only ho7 (Ne.symm (HME6.out.neT HS6 (by decide))),?_⟩
   have HM7:Hid (DkM y7 g gs (.slice a6 n6 c6) fu lf (wtD D k b)):=by
    have hne:=ho6.ne HME6.out (by decide)
    refine ⟨?_,HSF6.out.only ho7 (Ne.symm (HME6.out.neT HSF6.out (by decide))),ho6.same (fun j hj => ho7.block j (fun e => hne (e ▸ hj)) (ho6.lt j hj)),HM.out.ok.wt HKS.out HB6.out,HM.out.fs,HM.out.ls⟩
    show Blk y7 g (dkC gs (sizeD D) _ D.down fu lf) _;rw [← HN.out,← HDN.out];exact HB7.out
   have HMU:Hid (Mut (dkP g gs (.slice aw nw cw)) y0 y7):=by
    have m1:Mut (dkP g gs (.slice aw nw cw)) y5 y6:=⟨hg6.os,hg6.tape,hg6.output,hg6.size,fun j hj hn => hg6.block j hj (fun e => hn (Or.inr (Or.inr e.symm)))⟩
    exact ((mut_below HBD5.out _).trans (fun _ _ h => h) m1).trans (fun _ _ h => h) (ho7.mut (Or.inl rfl))
   have HGW:Hid (Grew y0 (dkP g gs (.slice aw nw cw)) (dkP g gs (.slice a6 n6 c6))):=by
    intro j hj
    rcases hj with rfl | rfl | hj
    · exact Or.inl (Or.inl rfl)
    · exact Or.inl (Or.inr (Or.inl rfl))
    · rcases hn6 with e | e
      · exact Or.inl (Or.inr (Or.inr (by rw [← e];exact hj)))
      · rw [e] at hj
        cases hj
        exact Or.inr HBD5.out.size
   clear hb7 ho7 ho6 hg6 hn6 HS6 HME6 HSF6 HU hS5;simp only [Act.put,sq];refine wpAnyH_done (by kernel_rfl) ?_ _
   have HCH:Hid (Calls Tryz.prog 117 #[.pointer (some ⟨g,0,none⟩)] y7 fun r w' => ∃ lf',r = .returned (.int .i64 xx) ∧ DkM w' g gs (.slice a6 n6 c6) fu lf' (chD (wtD D k b)) ∧ Only g y7 w'):=by rw [HXX.out];exact dkChange_any HDW.out HM7.out
   have tk6:Hid True:=trivial
   go_wp2_with (first
    | (clear tk6;go_at_call 117;refine (HCH.out).mono ?_;rintro e0 y8 ⟨lf8,rfl,hm8,ho8⟩
       have HM8:Hid (DkM y8 g gs (.slice a6 n6 c6) fu lf8 (chD (wtD D k b))):=hm8;replace HMU:Hid (Mut (dkP g gs (.slice aw nw cw)) y0 y8):=HMU.out.trans (fun _ _ h => h) (ho8.mut (Or.inl rfl))
       clear hm8 ho8))
   go_ret;exact ⟨_,rfl,⟨gs,.slice a6 n6 c6,fu,lf8,HM8.out,rfl⟩,HMU.out,HGW.out⟩
theorem wpSeq_cellV {ops:Array Oper} {Q:Exit → Act → World → Prop} {rest:List Oper} {o:Oper} {a:Act} {w:World} (x y:Operand) (g k:Nat) (cs:List Value) (ad:Option Addr) (n c:Nat) (tb:TypeId) (hk:k < cs.length) (hb:Blk w g cs tb) (ho:o.op = .store 92 x y) (hx:a.eval x = .pointer (some ⟨g,k,none⟩)) (hy:a.eval y = .slice ad n c) (hw:Region.wanted o (yielded ops a.tmps) = true)
 (h:∀ w',Blk w' g (cs.set k (.slice ad n c)) tb → Only g w w' → wpList Tryz.prog ops Q rest (a.put o.dst undef) w'):wpList Tryz.prog ops Q (o :: rest) a w:=by
 have hc:w.cell? ⟨g,k,none⟩ = some cs[k]:=by rw [hb.cell,List.getElem?_eq_getElem hk]
 have hf:w.frozen? ⟨g,k,none⟩ = false:=hb.frozen k
 have he:(execOp a.eval o).run Tryz.prog w = .ok .skip (w.setCell ⟨g,k,none⟩ (.slice ad n c)):=by
  clear h hw
  generalize a.eval = f at hx hy ⊢
  unfold execOp
  rw [ho]
  simp [go_sem,hx,hy,hc,hf]
 unfold wpList
 simp only [hw,if_true]
 left
 unfold Oper.wp
 rw [he,Oper.upon_skip]
 exact h _ (hb.set k _) (Only.setCell (Only.refl g w) k _)
theorem getD_memV2 {l:List (Nat × Bs)} {k:Nat} (hk:k < l.length):l.getD k (0,[]) ∈ l ∧ l.take (k + 1) = l.take k ++ [l.getD k (0,[])]:=by
 have e:l.getD k (0,[]) = l[k]:=by rw [List.getD_eq_getElem?_getD,List.getElem?_eq_getElem hk];rfl
 rw [e]
 exact ⟨List.getElem_mem hk,take_snocW hk⟩
theorem lay_store {b x:Bs} {at_:Nat} (hx:x.length = 64):(cb b).take (64 * at_) ++ cb x ++ (cb b).drop (64 * at_ + (cb x).length) = cb (layD b at_ x 64):=by
 rw [cb_len,hx,layD,List.take_of_length_le (Nat.le_of_eq hx)]
 simp [cb]
theorem wpAnyH_storeSec {md:Region.Mode} {ops:Array Oper} {Q:Exit → Act → World → Prop} {S:World → Prop} {fuel:Nat} {listed:Array Bool} {a:Act} {w:World} (i:Nat) {oi:Oper} (x y:Operand) (gs k:Nat) (z v:Bs) (t:TypeId) (hb:Blk w gs (cb z) t) (hv:v.length = 64) (hk:64 * k + 64 ≤ z.length)
 (hr:Region.ready md ops listed = [i]) (hi:ops[i]? = some oi) (hw:Region.wanted oi (yielded ops a.tmps) = true) (ho:oi.op = .store 107 x y) (hx:a.eval x = .pointer (some ⟨gs,64 * k,none⟩)) (hy:a.eval y = .agg (cb v).toArray)
 (h:∀ w',Blk w' gs (cb (layD z k v 64)) t → Only gs w w' → S w' ∧ wpAnyH Tryz.prog md ops Q S fuel (listed.setIfInBounds i true) (a.put oi.dst undef) w'):wpAnyH Tryz.prog md ops Q S (fuel + 1) listed a w:=by
 refine wpAnyH_law i hr hi hw (wp_store_mid 107 x y ho gs (64 * k) (cb v).toArray hx hy (hb.there _ _ (by rw [List.size_toArray,cb_len,cb_len,hv];exact hk)) (by rw [List.size_toArray];exact sz_sec hv) (all_oneCell_toArray (cb_one v)) ?_)
 rw [List.toList_toArray]
 have h1:=setCells_eq gs (cb v) (64 * k) w (cb z) t hb (by rw [cb_len,cb_len,hv];exact hk)
 rw [lay_store hv] at h1
 exact h _ h1 (Only.setCells _ _ _ (Only.refl gs w))
theorem dkSync_any {w:World} {g:Nat} {P:Nat → Prop} {D:DkT} (h:DkIs w g P D) (hw2:D.wait.length ≤ 200):Calls Tryz.prog 90 #[.pointer (some ⟨g,0,none⟩)] w fun r w' => ∃ P',r = .returned (.int .i64 (syncX13 D)) ∧ DkIs w' g P' (syncD13 D) ∧ Mut P w w' ∧ Grew w P P':=by
 have HK:Hid (DkIs w g P D):=h
 obtain ⟨gs,vw,fu,lf,hm,hP⟩:=h
 subst hP
 obtain ⟨n,HN⟩:=sqn (sizeD D)
 obtain ⟨aw,cw,hvw⟩:=hm.wt.form
 obtain ⟨nw,HNW⟩:=sqn (D.wait.length)
 rw [← HNW.out] at hvw
 subst hvw
 obtain ⟨dn,HDN⟩:=sqn (D.down)
 have HM:Hid (DkM w g gs (.slice aw nw cw) fu lf D):=hm
 have HME:Hid (Blk w g [.slice (some ⟨gs,0,none⟩) n n,.slice aw nw cw,.bool dn,.bool fu,.int .i64 lf] 94):=by have h9:=hm.me;rw [dkC,← HN.out,← HDN.out] at h9;exact h9
 have c2:w.cell? ⟨g,2,none⟩ = some (.bool dn):=HME.out.cell 2
 have HW2:Hid (nw ≤ 200):=by show _ ≤ _;rw [HNW.out];exact hw2
 have HOK:Hid (okD D):=hm.ok
 cases dn with
 | true =>
  have HD1:Hid (syncD13 D = D):=by show _ = _;rw [syncD13,← HDN.out];rfl
  have HX1:Hid (syncX13 D = 14):=by show _ = _;rw [syncX13,← HDN.out];rfl
  rw [HD1.out,HX1.out]
  clear hm hw2
  go_enter Tryz.func90,Tryz.ntmps90
  go_wp2
  go_ret
  exact ⟨_,rfl,HK.out,Mut.refl _ _,Grew.refl _ _⟩
 | false =>
  have hch:=dkChange_any HDN.out.symm hm
  clear hm hw2
  by_cases h0:D.left = 0
  · have HD1:Hid (syncD13 D = chD D):=by show _ = _;rw [syncD13,← HDN.out,if_neg (by decide),if_pos h0,chD,h0];rfl
    have HX1:Hid (syncX13 D = 14):=by show _ = _;rw [syncX13,← HDN.out,if_neg (by decide),if_pos h0]
    rw [if_pos h0] at hch;have HCH:Hid (Calls Tryz.prog 117 #[.pointer (some ⟨g,0,none⟩)] w fun r w' => ∃ lf',r = .returned (.int .i64 14) ∧ DkM w' g gs (.slice aw nw cw) fu lf' (chD D) ∧ Only g w w'):=hch
    rw [HD1.out,HX1.out];clear hch h0
    go_enter Tryz.func90,Tryz.ntmps90
    have tk0:Hid True:=trivial
    go_wp2_with (first
     | (clear tk0;go_at_call 117;refine (HCH.out).mono ?_;rintro e0 y8 ⟨lf8,rfl,hm8,ho8⟩
        have HM8:Hid (DkM y8 g gs (.slice aw nw cw) fu lf8 (chD D)):=hm8;have HO8:Hid (Only g w y8):=ho8;clear hm8 ho8))
    go_ret;exact ⟨_,rfl,⟨gs,.slice aw nw cw,fu,lf8,HM8.out,rfl⟩,HO8.out.mut (Or.inl rfl),Grew.refl _ _⟩
  · have HX1:Hid (syncX13 D = 0):=by show _ = _;rw [syncX13,← HDN.out,if_neg (by decide),if_neg h0]
    have HD1:Hid (syncD13 D = ⟨dumpD D,[],lessL D.left,false⟩):=by show _ = _;rw [syncD13,← HDN.out,if_neg (by decide),if_neg h0]
    have HC1:Hid (chD D = ⟨dumpW D.safe (D.wait.take 0),D.wait,lessL D.left,false⟩):=by show _ = _;rw [chD,decide_eq_false h0];rfl
    rw [if_neg h0,HC1.out] at hch;have HCH:Hid (Calls Tryz.prog 117 #[.pointer (some ⟨g,0,none⟩)] w fun r w' => ∃ lf',r = .returned (.int .i64 0) ∧ DkM w' g gs (.slice aw nw cw) fu lf' ⟨dumpW D.safe (D.wait.take 0),D.wait,lessL D.left,false⟩ ∧ Only g w w'):=hch
    rw [HD1.out,HX1.out];clear hch h0
    have HSZ:Hid (∀ k,sizeD ⟨dumpW D.safe (D.wait.take k),D.wait,lessL D.left,false⟩ = n):=fun k => by
     show (dumpW D.safe (D.wait.take k)).length / 64 = n;rw [len_dumpW _ _ HOK.out.size.1 (fun q hq => HOK.out.wait q (List.mem_of_mem_take hq)),Nat.mul_div_cancel_left _ (by decide),HN.out]
    go_enter Tryz.func90,Tryz.ntmps90
    have tk0:Hid True:=trivial
    go_wp2_with (first
     | (clear tk0;go_at_call 117;refine (HCH.out).mono ?_;rintro e0 y8 ⟨lf8,rfl,hm8,ho8⟩
        have HM8:Hid (DkM y8 g gs (.slice aw nw cw) fu lf8 ⟨dumpW D.safe (D.wait.take 0),D.wait,lessL D.left,false⟩):=hm8;have HMU:Hid (Mut (dkP g gs (.slice aw nw cw)) w y8):=ho8.mut (Or.inl rfl);have HE8:Hid (Blk y8 g [.slice (some ⟨gs,0,none⟩) n n,.slice aw nw cw,.bool false,.bool fu,.int .i64 lf8] 94):=by have h9:=hm8.me;rw [dkC,HSZ.out] at h9;exact h9
        have c1:y8.cell? ⟨g,1,none⟩ = some (.slice aw nw cw):=HE8.out.cell 1;clear hm8 ho8 c2))
    clear c1
    go_loopw [20] (fun i wr => ∃ k:Nat,k ≤ nw ∧ i = .int .i64 (k:Int) ∧ Hid (DkM wr g gs (.slice aw nw cw) fu lf8 ⟨dumpW D.safe (D.wait.take k),D.wait,lessL D.left,false⟩) ∧ Hid (Mut (dkP g gs (.slice aw nw cw)) w wr)) (fun i _ => nw - (intOf i).toNat)
    case atStart => exact ⟨0,Nat.zero_le _,rfl,HM8,HMU⟩
    case round =>
     obtain ⟨k,hkn,rfl,HI,HMX⟩:=hrel;clear HM8 HMU HE8;have HMK:Hid (Blk wr g [.slice (some ⟨gs,0,none⟩) n n,.slice aw nw cw,.bool false,.bool fu,.int .i64 lf8] 94):=by have h9:=HI.out.me;rw [dkC,HSZ.out] at h9;exact h9
     by_cases hlt:k < nw
     case neg =>
      have hlk:¬ ((k:Int) < (nw:Int)):=by omega
      have HEQ:Hid (D.wait.take k = D.wait):=List.take_of_length_le (by rw [← HNW.out];omega)
      rw [HEQ.out] at HI;have tk1:Hid True:=trivial
      go_wp2_with (first
       | (clear tk1;with_reducible refine wpSeq_cellV (.tmp 36) (.const (.slice none 0 0)) g 1 [.slice (some ⟨gs,0,none⟩) n n,.slice aw nw cw,.bool false,.bool fu,.int .i64 lf8] none 0 0 94 (by simp) HMK.out ?_ ?_ ?_ ?_ ?_
          · rfl
          · rfl
          · rfl
          · rfl
          intro y9 hb9 ho9;have HB9:Hid (Blk y9 g [.slice (some ⟨gs,0,none⟩) n n,.slice none 0 0,.bool false,.bool fu,.int .i64 lf8] 94):=hb9;have HO9:Hid (Only g wr y9):=ho9;clear hb9 ho9))
      go_ret;refine ⟨rfl,_,⟨gs,.slice none 0 0,fu,lf8,HI.out.mine HO9.out ?_ rfl (OwnV.nil _) ?_ HI.out.fs HI.out.ls,rfl⟩,HMX.out.trans (fun _ _ h => h) (HO9.out.mut (Or.inl rfl)),?_⟩
      · have h9:=HSZ.out k
        rw [HEQ.out] at h9;show Blk y9 g (dkC gs (sizeD ⟨dumpW D.safe D.wait,D.wait,lessL D.left,false⟩) _ false fu lf8) _;rw [h9];exact HB9.out
      · obtain ⟨m,h1,h2,h3,_⟩:=HI.out.ok.ex
        exact ⟨⟨m,h1,h2,h3,fun p hp => by cases hp⟩,HI.out.ok.lo,HI.out.ok.hi⟩
      · intro j hj
        rcases hj with rfl | rfl | hj
        · exact Or.inl (Or.inl rfl)
        · exact Or.inl (Or.inr (Or.inl rfl))
        · cases hj
     case pos =>
      have hlk:(k:Int) < (nw:Int):=by omega
      have HKN:Hid (k < nw):=hlt;have HLT:Hid (k < D.wait.length):=by show _ < _;rw [← HNW.out];exact hlt
      have f5:IntKind.i64.wrap ((k:Int) + 1) = (k:Int) + 1:=by rw [IntKind.wrap_i64];have:=HW2.out;omega
      obtain ⟨hmem,htk⟩:=getD_memV2 HLT.out;obtain ⟨b,rfl,hat⟩:=HI.out.wt.at (fun p hp => (HOK.out.wait p hp).2) (Nat.lt_of_le_of_lt (Nat.zero_le _) HLT.out)
      have hrg:=hat k HLT.out;replace hrg:wr.rangeAt b (k * 65) (wrC (D.wait.getD k (0,[]))):=hrg;obtain ⟨p,HPP⟩:=sqn (D.wait.getD k (0,[]));rw [← HPP.out] at hmem htk hrg;have HRG:Hid (wr.rangeAt b (k * 65) (wrC p)):=hrg;have HTK:Hid (dumpW D.safe (D.wait.take (k + 1)) = layD (dumpW D.safe (D.wait.take k)) p.1 p.2 64):=by show _ = _;rw [htk,dumpW_snoc]
      have HPW:Hid (p.1 < n ∧ p.2.length = 64):=by rw [HN.out];exact HOK.out.wait p hmem
      have HP6:Hid (p.2.length = 64):=HPW.out.2;have HSL:Hid ((wrC p).length = (wrC (0,zs64)).length):=by show _ = _;rw [wrC_len HP6.out,wrC_len (p:=(0,zs64)) len_zs64]
      have HLN:Hid ((dumpW D.safe (D.wait.take k)).length = 64 * n):=by
       show _ = _;rw [len_dumpW _ _ HOK.out.size.1 (fun q hq => HOK.out.wait q (List.mem_of_mem_take hq)),HN.out]
      clear hat hrg hmem htk;obtain ⟨tk1,tk2,tk3,tk4⟩:=sqk4
      go_wp2_with (first
       | (clear tk1;with_reducible refine wpSeq_idxWr (.tmp 18) (.tmp 20) b nw cw k HKN.out ?_ ?_ ?_ ?_ ?_
          · rfl
          · rfl
          · rfl
          · rfl)
       | (clear tk2;with_reducible refine wpSeq_loadW 109 (.tmp 22) b (k * 65) (wrC p) _ HRG.out Tryz.underlying109 rfl (sz_wr HP6.out) ?_ ?_ ?_ ?_
          · rfl
          · rfl
          · rfl)
       | (clear tk3;with_reducible refine wpSeq_allocDw ?_ ?_ ?_
          · rfl
          · rfl
          intro g5 y1 nn;have HG5:Hid (Blk y1 g5 (wrC (0,zs64)) 109):=nn.blk;have HBW:Hid (Below wr.heap.size wr y1):=nn.below;have HGE:Hid (wr.heap.size ≤ g5):=nn.ge;clear nn)
       | (clear tk4;with_reducible refine wpSeq_storeRow 109 (.tmp 5) (.tmp 23) g5 (wrC (0,zs64)) (wrC p) HG5.out HSL.out (sz_wr HP6.out) (wrC_one _) ?_ ?_ ?_ ?_ ?_
          · rfl
          · rfl
          · rfl
          · rfl
          intro y2 hs;replace HG5:Hid (Blk y2 g5 (wrC p) 109):=hs.blk;replace HBW:Hid (Below wr.heap.size wr y2):=HBW.out.trans (hs.only.below HGE.out HBW.out.size);clear hs)
       | fail)
      have HMK2:Hid (Blk y2 g [.slice (some ⟨gs,0,none⟩) n n,.slice (some ⟨b,0,none⟩) nw cw,.bool false,.bool fu,.int .i64 lf8] 94):=HMK.out.below HBW.out HMK.out.lt;refine wp_region_held_drew (S:=fun wx => Blk wx g [.slice (some ⟨gs,0,none⟩) n n,.slice (some ⟨b,0,none⟩) nw cw,.bool false,.bool fu,.int .i64 lf8] 94 ∧ Blk wx g5 (wrC p) 109) (by kernel_rfl) ⟨HMK2.out.drew,HG5.out.drew⟩ ?_
      intro hS;have HI2:Hid (DkM y2.drew g gs (.slice (some ⟨b,0,none⟩) nw cw) fu lf8 ⟨dumpW D.safe (D.wait.take k),D.wait,lessL D.left,false⟩):=HI.out.below HBW.out.drew;have HMX2:Hid (Mut (dkP g gs (.slice (some ⟨b,0,none⟩) nw cw)) w y2.drew):=(HMX.out.trans (fun _ _ h => h) (mut_below HBW.out _)).drew
      clear HI HMX HBW HGE HG5 HMK2 HMK HRG
      change wpAnyH _ _ _ _ _ _ _ _ (World.drew y2)
      generalize World.drew y2 = y3 at *
      refine tkc 0 (.pointer (some ⟨g,0,none⟩)) rfl hS ?_;simp only [Act.put,sq];refine tkc 1 (.pointer (some ⟨g,0,none⟩)) rfl hS ?_;simp only [Act.put,sq];refine tkc 2 (.pointer (some ⟨g,0,none⟩)) rfl hS ?_;simp only [Act.put,sq];refine tka 3 (.slice (some ⟨gs,0,none⟩) n n) rfl (fun wx hx => by (have hc:=hx.1.cell 0;simp at hc;simp [go_sem,hc])) hS ?_
      simp only [Act.put,sq];refine tkc 4 (.pointer (some ⟨g5,0,none⟩)) rfl hS ?_;simp only [Act.put,sq];refine tka 5 (.int .i64 (p.1:Int)) rfl (fun wx hx => by (have hc:wx.cell? ⟨g5,0,none⟩ = some (.int .i64 (p.1:Int)):=hx.2.cell 0;simp [go_sem,hc])) hS ?_
      simp only [Act.put,sq];refine tkc 6 (.pointer (some ⟨g5,1,none⟩)) rfl hS ?_;simp only [Act.put,sq];refine tka 7 (.agg (cb p.2).toArray) rfl (fun wx hx => by exact loadSec g5 1 p.2 HP6.out _ rfl rfl (range_tail (off:=0) (Blk.range hx.2))) hS ?_
      simp only [Act.put,sq];refine tka 8 (.pointer (some ⟨gs,64 * p.1,none⟩)) rfl (fun wx hx => by exact idxSec gs n p.1 HPW.out.1 _ _ _ _ rfl rfl rfl _) hS ?_
      simp only [Act.put,sq];refine wpAnyH_storeSec 9 (.tmp 32) (.tmp 31) gs p.1 _ p.2 107 HI2.out.sf HP6.out (by show _ ≤ (dumpW D.safe (D.wait.take k)).length;rw [HLN.out];have:=HPW.out.1;omega) (by kernel_rfl) rfl (by rfl) rfl rfl rfl ?_
      intro y4 hb4 ho4;have hn:=HI2.out.ne;refine ⟨⟨hS.1.only ho4 hn.1,hS.2.only ho4 (hS.2.neT HI2.out.sf (by decide))⟩,?_⟩
      have HI4:Hid (DkM y4 g gs (.slice (some ⟨b,0,none⟩) nw cw) fu lf8 ⟨dumpW D.safe (D.wait.take (k + 1)),D.wait,lessL D.left,false⟩):=by
       rw [HTK.out];exact HI2.out.sect ho4 hb4 (by show (layD (dumpW D.safe (D.wait.take k)) p.1 p.2 64).length = (dumpW D.safe (D.wait.take k)).length;rw [len_layD (by rw [HLN.out];have:=HPW.out.1;omega) (by rw [HP6.out];exact Nat.le_refl _)])
      have HMX4:Hid (Mut (dkP g gs (.slice (some ⟨b,0,none⟩) nw cw)) w y4):=HMX2.out.trans (fun _ _ h => h) (ho4.mut (Or.inr (Or.inl rfl)))
      clear hb4 ho4 hn hS HI2 HMX2;simp only [Act.put,sq];refine wpAnyH_done (by kernel_rfl) ?_ _
      go_wp2;go_roundw
      case rel => exact ⟨k + 1,by omega,by simp,HI4,HMX4⟩
      case measure => simp [intOf];omega
theorem wpAnyH_copyO {md:Region.Mode} {ops:Array Oper} {Q:Exit → Act → World → Prop} {S:World → Prop} {fuel:Nat} {listed:Array Bool} {a:Act} {w:World} (i:Nat) {oi:Oper} (d s:Operand) (g k dLen dCap b off sLen sCap:Nat) (t:TypeId) (cs:List Value) (xs:Bs) (hg:Blk w g cs t) (hm:xs.length = min sLen dLen) (hk:k + xs.length ≤ cs.length)
 (hsrc:∀ j,j < xs.length → w.cell? ⟨b,off + j,none⟩ = some (.int .u8 ((xs.getD j 0).toNat:Int))) (hr:Region.ready md ops listed = [i]) (hi:ops[i]? = some oi) (hw:Region.wanted oi (yielded ops a.tmps) = true) (ho:oi.op = .call { callee:=.builtin .copy,args:=#[d,s],argTypes:=#[23,23] }) (hx:a.eval d = .slice (some ⟨g,k,none⟩) dLen dCap) (hy:a.eval s = .slice (some ⟨b,off,none⟩) sLen sCap)
 (h:∀ w',Blk w' g (cs.take k ++ cb xs ++ cs.drop (k + xs.length)) t → Only g w w' → S w' ∧ wpAnyH Tryz.prog md ops Q S fuel (listed.setIfInBounds i true) (a.put oi.dst (.int .i64 (xs.length:Int))) w'):wpAnyH Tryz.prog md ops Q S (fuel + 1) listed a w:=by
 obtain ⟨w',h1,h2,h3⟩:=copyO a.eval oi d s ho w g k dLen dCap b off sLen sCap t cs xs hg hm hk hsrc hx hy
 obtain ⟨hS,h4⟩:=h w' h2 h3
 exact wpAnyH_step i _ w' hr hi hw h1 hS h4
theorem range_cells {w:World} {b off:Nat} {x:Bs} (h:w.rangeAt b off (cb x)):∀ j,j < x.length → w.cell? ⟨b,off + j,none⟩ = some (.int .u8 ((x.getD j 0).toNat:Int)):=fun j hj => h j _ (cb_get x j hj)
def upTo (x z:Bs) (k:Nat):Bs:=x.take (64 * k) ++ z.drop (64 * k)
theorem upTo_zero (x z:Bs):upTo x z 0 = z:=by simp [upTo]
theorem upTo_all {x z:Bs} {n:Nat} (hx:x.length = 64 * n) (hz:z.length = 64 * n):upTo x z n = x:=by rw [upTo,List.take_of_length_le (by omega),List.drop_of_length_le (by omega),List.append_nil]
theorem upTo_len {x z:Bs} {n k:Nat} (hx:x.length = 64 * n) (hz:z.length = 64 * n) (hk:k ≤ n):(upTo x z k).length = 64 * n:=by rw [upTo,List.length_append,List.length_take,List.length_drop];omega
theorem upTo_step {x z:Bs} {n k:Nat} (hx:x.length = 64 * n) (hk:k < n):layD (upTo x z k) k (secD x k) 64 = upTo x z (k + 1):=by
 have e1:(x.take (64 * k)).length = 64 * k:=by rw [List.length_take];omega
 have e2:(secD x k).take 64 = secD x k:=List.take_of_length_le (by rw [sec_len (by omega)];exact Nat.le_refl _)
 have e3:x.take (64 * (k + 1)) = x.take (64 * k) ++ secD x k:=by rw [show 64 * (k + 1) = 64 * k + 64 by omega,List.take_add];rfl
 have e4:(x.take (64 * k) ++ z.drop (64 * k)).take (64 * k) = x.take (64 * k):=by rw [List.take_append_of_le_length (by omega),List.take_take,Nat.min_self]
 have e5:(x.take (64 * k) ++ z.drop (64 * k)).drop (64 * k + 64) = z.drop (64 * (k + 1)):=by
  rw [List.drop_append,e1,List.drop_of_length_le (by rw [e1];omega),List.nil_append,List.drop_drop]
  congr 1
  omega
 rw [layD,upTo,e2,e4,e5,upTo,e3,List.append_assoc]
theorem lay_sec {b x:Bs} {k:Nat} (hx:x.length = 64):(cb b).take (64 * k) ++ cb x ++ (cb b).drop (64 * k + x.length) = cb (layD b k x 64):=by
 have:=lay_store (b:=b) (at_:=k) hx
 rwa [cb_len] at this
theorem qJ {N q d:Nat} (h:q = N / d) (hN:N < 4611686018427387904):wrap64 ((N:Int) / (d:Int)) = (q:Int):=by
 have e:(N:Int) / (d:Int) = (q:Int):=by rw [h];exact (Int.natCast_ediv N d).symm
 have hq:q ≤ N:=by rw [h];exact Nat.div_le_self _ _
 rw [e]
 unfold wrap64
 omega
theorem mJ {a b c:Nat} (h:c = a * b) (hc:c < 4611686018427387904):IntKind.i64.wrap ((a:Int) * (b:Int)) = (c:Int):=by
 have e:(a:Int) * (b:Int) = (c:Int):=by rw [h];exact (Int.natCast_mul a b).symm
 rw [IntKind.wrap_i64,e]
 omega
theorem aJ {a b c:Nat} (h:c = a + b) (hc:c < 4611686018427387904):IntKind.i64.wrap ((a:Int) + (b:Int)) = (c:Int):=by
 rw [IntKind.wrap_i64]
 omega
theorem Reads.cutJ {w:World} {b off n c:Nat} {l:Bs} (h:Reads w (.slice (some ⟨b,off,none⟩) n c) l) (k m c2:Nat) (hm:k + m ≤ l.length) (hc:m ≤ c2):Reads w (.slice (some ⟨b,off + k,none⟩) m c2) ((l.drop k).take m):=by
 have hl:((l.drop k).take m).length = m:=by rw [List.length_take,List.length_drop];omega
 refine ⟨_,c2,by rw [hl],by rw [hl];exact hc,(fun e => by cases e),fun _ => ⟨b,off + k,rfl,fun j hj => ?_⟩⟩
 rw [hl] at hj
 have h1:=h.cellsAt (k + j) (by omega)
 rw [Nat.add_assoc,h1,List.getD_eq_getElem?_getD,List.getD_eq_getElem?_getD,List.getElem?_take_of_lt hj,List.getElem?_drop]
theorem cb_appJ (a b:Bs):cb (a ++ b) = cb a ++ cb b:=by simp [cb]
theorem cb_dropJ (a:Bs) (k:Nat):(cb a).drop k = cb (a.drop k):=by simp [cb]
theorem rdNum_snoc (l:Bs) (b:BitVec 8):rdNum (l ++ [b]) = rdNum l * 256 + b.toNat:=by rw [rdNum,List.foldl_append];rfl
theorem rdNum_take {l:Bs} {k:Nat} (hk:k < l.length):rdNum (l.take (k + 1)) = rdNum (l.take k) * 256 + (l.getD k 0).toNat:=by
 rw [List.take_add_one,List.getElem?_eq_getElem hk,List.getD_eq_getElem?_getD,List.getElem?_eq_getElem hk]
 exact rdNum_snoc _ _
theorem rdNum_step {l:Bs} {k:Nat} (hl:l.length = 8) (hk:k < 8):rdNum (l.take k) * 256 < 18446744073709551616 ∧ rdNum (l.take k) * 256 + (l.getD k 0).toNat < 18446744073709551616:=by
 have h1:=rdNum_lt (l.take k) 0
 have h2:(l.take k).length = k:=by rw [List.length_take];omega
 rw [h2,Nat.zero_add,Nat.one_mul] at h1
 have h3:(256:Nat) ^ k ≤ 256 ^ 7:=Nat.pow_le_pow_right (by decide) (by omega)
 have h4:rdNum (l.take k) < 256 ^ k:=h1
 have hb:(l.getD k 0).toNat < 256:=(l.getD k 0).isLt
 constructor <;> omega
theorem nNumber_any (bb off c:Nat) (l:Bs) (hl:l.length = 8) (w:World) (hr:Reads w (.slice (some ⟨bb,off,none⟩) 8 c) l):Calls Tryz.prog 83 #[.slice (some ⟨bb,off,none⟩) 8 c] w fun e w' => e = .returned (.int .u64 (rdNum l:Int)) ∧ w' = w:=by
 have HL:Hid (l.length = 8):=hl
 have HR:Hid (Reads w (.slice (some ⟨bb,off,none⟩) 8 c) l):=hr
 clear hl hr
 go_enter Tryz.func83,Tryz.ntmps83
 go_wp2
 go_loopw [3,4] (fun a i wr => ∃ k:Nat,k ≤ 8 ∧ i = .int .i64 (k:Int) ∧ a = .int .u64 (rdNum (l.take k):Int) ∧ wr = w) (fun _ i _ => 8 - (intOf i).toNat)
 case atStart => exact ⟨0,by omega,rfl,rfl,rfl⟩
 case round =>
  obtain ⟨k,hk,rfl,rfl,rfl⟩:=hrel
  by_cases hlt:k < 8
  case neg =>
   have hlk:¬ ((k:Int) < 8):=by omega
   obtain rfl:k = 8:=by omega
   have HE:Hid (l.take 8 = l):=List.take_of_length_le (by rw [HL.out];exact Nat.le_refl _)
   rw [HE.out];go_wp2;go_ret;exact ⟨rfl,rfl⟩
  case pos =>
   have hlk:(k:Int) < 8:=by omega
   have k0:(0:Int) ≤ (k:Int):=by omega
   have f5:IntKind.i64.wrap ((k:Int) + 1) = (k:Int) + 1:=by rw [IntKind.wrap_i64];omega
   have hst:=rdNum_step HL.out hlt;have hnx:=rdNum_take (l:=l) (k:=k) (by rw [HL.out];exact hlt)
   have ck:wr.cell? ⟨bb,off + k,none⟩ = some (.int .u8 ((l.getD k 0).toNat:Int)):=HR.out.cellsAt k (by rw [HL.out];exact hlt)
   obtain ⟨a,HA⟩:=sqn (rdNum (l.take k):Nat);obtain ⟨y,HY⟩:=sqn ((l.getD k 0).toNat:Nat);obtain ⟨a2,HA2⟩:=sqn (rdNum (l.take k) * 256:Nat);rw [← HA.out] at hst hnx HA2 ⊢;rw [← HY.out] at hst hnx ck;have hy:y < 256:=by rw [HY.out];exact (l.getD k 0).isLt
   have f6:IntKind.u64.wrap ((a:Int) * 256) = (a2:Int):=by rw [IntKind.wrap_u64];have:=HA2.out;omega
   have f7:IntKind.u64.wrap ((a2:Int) + (y:Int)) = ((rdNum (l.take (k + 1)):Nat):Int):=by rw [IntKind.wrap_u64,hnx];have:=HA2.out;omega
   clear hst hnx;go_wp2;go_roundw
   case rel => exact ⟨k + 1,by omega,by simp,by trivial,trivial⟩
   case measure => simp [intOf];omega
theorem nHalf_any (bb off c:Nat) (b:Bs) (k:Nat) (hk:k ≤ 1) (hl:64 ≤ halfN b) (hl2:b.length < 4611686018427387904) (w:World) (hr:Reads w (.slice (some ⟨bb,off,none⟩) b.length c) b):Calls Tryz.prog 58 #[.slice (some ⟨bb,off,none⟩) b.length c,.int .i64 (k:Int)] w fun e w' => (∃ o c2,e = .returned (.slice (some ⟨bb,o,none⟩) (halfN b) c2) ∧ Reads w (.slice (some ⟨bb,o,none⟩) (halfN b) c2) (halfB b k)) ∧ w' = w:=by
 obtain ⟨N,HN⟩:=sqn (b.length)
 obtain ⟨H,HH⟩:=sqn (halfN b)
 obtain ⟨q,HQ⟩:=sqn (N / 64)
 obtain ⟨q2,HQ2⟩:=sqn (q / 2)
 obtain ⟨o,HO⟩:=sqn (k * H)
 obtain ⟨o2,HO2⟩:=sqn (o + H)
 have hhl:=half_le b
 rw [← HH.out] at hl hhl ⊢
 rw [← HN.out] at hr hl2 hhl ⊢
 have HE:Hid (H = q2 * 64):=by show _ = _;rw [HH.out,halfN,← HN.out,← HQ.out,← HQ2.out]
 have hq:=HQ.out
 have hq2:=HQ2.out
 have he:=HE.out
 have ho:=HO.out
 have ho2:=HO2.out
 have hob:o ≤ H:=by rw [ho];rcases Nat.le_one_iff_eq_zero_or_eq_one.1 hk with rfl | rfl <;> omega
 have hqn:q ≤ N:=by rw [hq];exact Nat.div_le_self _ _
 have f1:wrap64 ((N:Int) / 64) = (q:Int):=qJ hq hl2
 have f2:wrap64 ((q:Int) / 2) = (q2:Int):=qJ hq2 (Nat.lt_of_le_of_lt hqn hl2)
 have f3:IntKind.i64.wrap ((q2:Int) * 64) = (H:Int):=mJ he (by clear f1 f2 hq hq2 he ho ho2 hqn;omega)
 have f4:IntKind.i64.wrap ((k:Int) * (H:Int)) = (o:Int):=mJ ho (by clear f1 f2 f3 hq hq2 he ho ho2 hqn;omega)
 have hoH:o2 ≤ N:=by clear f1 f2 f3 f4 hq hq2 he ho hqn;omega
 have f5:IntKind.i64.wrap ((o:Int) + (H:Int)) = (o2:Int):=aJ ho2 (Nat.lt_of_le_of_lt hoH hl2)
 have HNC:Hid (N ≤ c):=by obtain ⟨_,cp,hv,hc,_⟩:=hr;simp only [Value.slice.injEq] at hv;show _ ≤ _;rw [hv.2.2,HN.out];exact hc
 have HCT:Hid (0 < H ∧ o + H ≤ N ∧ (o2:Int) = ((o + H:Nat):Int)):=⟨Nat.lt_of_lt_of_le (by decide) hl,by rw [← ho2];exact hoH,by rw [ho2]⟩
 have HRR:Hid (Reads w (.slice (some ⟨bb,off + o,none⟩) H (c - o)) (halfB b k)):=by
  have h1:=hr.cutJ o H (c - o) (by rw [← HN.out];exact HCT.out.2.1) (by have h5:=HNC.out;have h6:=HCT.out.2.1;clear f1 f2 f3 f4 f5 hq hq2 he ho ho2;omega)
  rw [halfB,← HH.out,← ho]
  exact h1
 clear hq hq2 he ho ho2 hob hr hhl hl hl2 hk hqn hoH
 go_enter Tryz.func58,Tryz.ntmps58
 have tk0:Hid True:=trivial
 go_wp2_with (first
  | (clear tk0;with_reducible refine wpSeq_cut (.tmp 11) (.tmp 14) (.tmp 19) bb off N c o H (o:Int) (o2:Int) rfl HCT.out.2.2 HCT.out.1 HCT.out.2.1 HNC.out ?_ ?_ ?_ ?_ ?_ ?_
     · rfl
     · rfl
     · rfl
     · rfl
     · rfl))
 go_ret
 exact ⟨⟨_,_,rfl,HRR.out⟩,rfl⟩
theorem nCheck_any (v:Value) (x:Bs) (w:World) (hr:Reads w v x):Calls Tryz.prog 76 #[v] w fun e w' => e = .returned (.int .i64 (chkX x)) ∧ w' = w:=by
 obtain ⟨ad,cp,hv,_⟩:=hr
 obtain ⟨n,HN⟩:=sqn (x.length)
 obtain ⟨r,HRR⟩:=sqn (chkX x)
 rw [← HRR.out]
 have hx:r = if n = 0 ∨ 1048576 < n then 1 else 0:=by rw [HRR.out,chkX,← HN.out]
 rw [← HN.out] at hv
 subst hv
 by_cases h0:n = 0
 · subst h0
   rw [if_pos (Or.inl rfl)] at hx;subst hx
   go_enter Tryz.func76,Tryz.ntmps76
   go_wp2;go_ret;exact ⟨rfl,rfl⟩
 · have q0:((n:Int) == 0) = false:=by rw [beq_eq_false_iff_ne];omega
   by_cases h1:1048576 < n
   · rw [if_pos (Or.inr h1)] at hx
     subst hx;have q1:(1048576:Int) < (n:Int):=by omega
     go_enter Tryz.func76,Tryz.ntmps76
     go_wp2;go_ret;exact ⟨rfl,rfl⟩
   · rw [if_neg (by omega)] at hx
     subst hx;have q1:¬ ((1048576:Int) < (n:Int)):=by omega
     go_enter Tryz.func76,Tryz.ntmps76
     go_wp2;go_ret;exact ⟨rfl,rfl⟩
theorem nPad_any (bb off n c:Nat) (b:Bs) (w:World) (hp:0 < b.length) (hl:b.length < 100000000) (hr:Reads w (.slice (some ⟨bb,off,none⟩) n c) b):Calls Tryz.prog 109 #[.slice (some ⟨bb,off,none⟩) n c] w fun e w' => ∃ v,e = .returned v ∧ Reads w' v (padB b) ∧ Below w.heap.size w w':=by
 have hn:n = b.length:=by obtain ⟨_,cp,hv,_⟩:=hr;simp only [Value.slice.injEq] at hv;exact hv.2.1
 have HN:Hid (n = b.length):=hn
 have HR:Hid (Reads w (.slice (some ⟨bb,off,none⟩) n c) b):=hr
 obtain ⟨n63,H63⟩:=sqn (n + 63)
 obtain ⟨q,HQ⟩:=sqn (n63 / 64)
 obtain ⟨N,HNN⟩:=sqn (q * 64)
 rw [← hn] at hl hp
 have h63:=H63.out
 have hq:=HQ.out
 have hN:=HNN.out
 have f1:IntKind.i64.wrap ((n:Int) + 63) = (n63:Int):=by rw [IntKind.wrap_i64];omega
 have f2:wrap64 ((n63:Int) / 64) = (q:Int):=by unfold wrap64;omega
 have f3:IntKind.i64.wrap ((q:Int) * 64) = (N:Int):=by rw [IntKind.wrap_i64];omega
 have HMK:Hid (N ≤ N ∧ N < 281474976710600 ∧ b.length = min n N):=⟨Nat.le_refl _,by omega,by omega⟩
 have HPL:Hid ((padB b).length = N):=by show _ = _;rw [len_padB];omega
 have HNL:Hid (n ≤ N):=by show _ ≤ _;omega
 clear h63 hq hN hl hp hr hn
 go_enter Tryz.func109,Tryz.ntmps109
 obtain ⟨tk0,tk1⟩:=sqk2
 go_wp2_with (first
  | (clear tk0;with_reducible refine wpSeq_make (.tmp 10) (.tmp 10) N N HMK.out.1 HMK.out.2.1 ?_ ?_ ?_ ?_ ?_
     · rfl
     · rfl
     · rfl
     · rfl
     intro gb y1 z hz hge hzb hzl;have HGE:Hid (w.heap.size ≤ gb):=hge;have HBZ:Hid (Blk y1 gb (cb z) 5):=hzb;have HBW:Hid (Below w.heap.size w y1):=hzl;have HZ:Hid (z = List.replicate N 0):=hz;have HKL:Hid (0 + b.length ≤ (cb z).length):=by show _ ≤ _;rw [cb_len,hz,List.length_replicate,← HN.out];have:=HNL.out;omega
     clear hz hge hzb hzl)
  | (clear tk1;with_reducible refine wpSeq_copyO (.tmp 12) (.tmp 13) gb 0 N N bb off n c 5 (cb z) b HBZ.out HMK.out.2.2 HKL.out ?_ ?_ ?_ ?_ ?_ ?_
     · exact (HR.out.below HBW.out).cellsAt
     · rfl
     · rfl
     · rfl
     · rfl
     intro y2 hb2 ho2
     have HB2:Hid (Blk y2 gb (cb (padB b)) 5):=by
      rw [List.take_zero,List.nil_append,Nat.zero_add,HZ.out,cb_dropJ,List.drop_replicate,← cb_appJ] at hb2;rw [padB,← len_padB,HPL.out];exact hb2
     replace HBW:Hid (Below w.heap.size w y2):=HBW.out.trans (ho2.below HGE.out HBW.out.size);clear hb2 ho2))
 go_ret
 exact ⟨_,rfl,HB2.out.reads HPL.out.symm (by rw [HPL.out];exact Nat.le_refl _),HBW.out⟩
theorem wpSeq_buildY {ops:Array Oper} {Q:Exit → Act → World → Prop} {rest:List Oper} {o:Oper} {a:Act} {w:World} (b:BitVec 8) (x:Operand) (hx:a.eval x = .int .u8 (b.toNat:Int)) (ho:o.op = .buildSlice 23 1 #[(0,x)]) (hw:Region.wanted o (yielded ops a.tmps) = true)
 (h:∀ g w',Blk w' g (cb [b]) 5 → Below w.heap.size w w' → wpList Tryz.prog ops Q rest (a.put o.dst (.slice (some ⟨g,0,none⟩) 1 1)) w'):wpList Tryz.prog ops Q (o :: rest) a w:=by
 refine wpSeq_val _ (w.alloc (.cells (cb [b]).toArray 5)) hw ?_ (h w.heap.size _ (Blk.new w _ 5) (below_alloc _ _))
 unfold execOp
 rw [ho]
 generalize a.eval = f at hx ⊢
 simp only [List.map_toArray,List.map_cons,List.map_nil,hx]
 kernel_rfl
theorem blk_reads_y {w:World} {g:Nat} {l:List (BitVec 8)} (h:Blk w g (cb l) 5):Reads w (.slice (some ⟨g,0,none⟩) l.length l.length) l:=
 ⟨_,_,rfl,Nat.le_refl _,(fun e => by cases e),fun _ => ⟨g,0,rfl,fun j hj => by rw [Nat.zero_add,h.cell,cb_get l j hj]⟩⟩
theorem build_tx2 (f:Operand → Value) (o:Oper) (x0 x1:Operand) (a0:Option Addr) (n0 c0:Nat) (a1:Option Addr) (n1 c1:Nat) (h0:f x0 = .slice a0 n0 c0) (h1:f x1 = .slice a1 n1 c1) (ho:o.op = .buildSlice 41 2 #[(0,x0),(1,x1)]) (w:World):(execOp f o).run Tryz.prog w = .ok (.value (.slice (some ⟨w.heap.size,0,none⟩) 2 2)) (w.alloc (.cells [Value.slice a0 n0 c0,.slice a1 n1 c1].toArray 23)):=by
 unfold execOp
 rw [ho]
 simp only [List.map_toArray,List.map_cons,List.map_nil,h0,h1]
 kernel_rfl
theorem wpSeq_buildT2 {ops:Array Oper} {Q:Exit → Act → World → Prop} {rest:List Oper} {o:Oper} {a:Act} {w:World} (x0 x1:Operand) (a0:Option Addr) (n0 c0:Nat) (a1:Option Addr) (n1 c1:Nat) (h0:a.eval x0 = .slice a0 n0 c0) (h1:a.eval x1 = .slice a1 n1 c1) (ho:o.op = .buildSlice 41 2 #[(0,x0),(1,x1)]) (hw:Region.wanted o (yielded ops a.tmps) = true)
 (h:∀ g w',NewR [.slice a0 n0 c0,.slice a1 n1 c1] 23 w g w' → wpList Tryz.prog ops Q rest (a.put o.dst (.slice (some ⟨g,0,none⟩) 2 2)) w'):wpList Tryz.prog ops Q (o :: rest) a w:=
 wpSeq_val _ _ hw (build_tx2 a.eval o x0 x1 a0 n0 c0 a1 n1 c1 h0 h1 ho w) (h _ _ (NewR.of _ _ w))
theorem build_tx4 (f:Operand → Value) (o:Oper) (x0 x1 x2 x3:Operand) (a0:Option Addr) (n0 c0:Nat) (a1:Option Addr) (n1 c1:Nat) (a2:Option Addr) (n2 c2:Nat) (a3:Option Addr) (n3 c3:Nat) (h0:f x0 = .slice a0 n0 c0) (h1:f x1 = .slice a1 n1 c1) (h2:f x2 = .slice a2 n2 c2) (h3:f x3 = .slice a3 n3 c3) (ho:o.op = .buildSlice 41 4 #[(0,x0),(1,x1),(2,x2),(3,x3)]) (w:World):(execOp f o).run Tryz.prog w = .ok (.value (.slice (some ⟨w.heap.size,0,none⟩) 4 4)) (w.alloc (.cells [Value.slice a0 n0 c0,.slice a1 n1 c1,.slice a2 n2 c2,.slice a3 n3 c3].toArray 23)):=by
 unfold execOp
 rw [ho]
 simp only [List.map_toArray,List.map_cons,List.map_nil,h0,h1,h2,h3]
 kernel_rfl
theorem wpSeq_buildT4 {ops:Array Oper} {Q:Exit → Act → World → Prop} {rest:List Oper} {o:Oper} {a:Act} {w:World} (x0 x1 x2 x3:Operand) (a0:Option Addr) (n0 c0:Nat) (a1:Option Addr) (n1 c1:Nat) (a2:Option Addr) (n2 c2:Nat) (a3:Option Addr) (n3 c3:Nat) (h0:a.eval x0 = .slice a0 n0 c0) (h1:a.eval x1 = .slice a1 n1 c1) (h2:a.eval x2 = .slice a2 n2 c2) (h3:a.eval x3 = .slice a3 n3 c3) (ho:o.op = .buildSlice 41 4 #[(0,x0),(1,x1),(2,x2),(3,x3)]) (hw:Region.wanted o (yielded ops a.tmps) = true)
 (h:∀ g w',NewR [.slice a0 n0 c0,.slice a1 n1 c1,.slice a2 n2 c2,.slice a3 n3 c3] 23 w g w' → wpList Tryz.prog ops Q rest (a.put o.dst (.slice (some ⟨g,0,none⟩) 4 4)) w'):wpList Tryz.prog ops Q (o :: rest) a w:=
 wpSeq_val _ _ hw (build_tx4 a.eval o x0 x1 x2 x3 a0 n0 c0 a1 n1 c1 a2 n2 c2 a3 n3 c3 h0 h1 h2 h3 ho w) (h _ _ (NewR.of _ _ w))
theorem build_tx6 (f:Operand → Value) (o:Oper) (x0 x1 x2 x3 x4 x5:Operand) (a0:Option Addr) (n0 c0:Nat) (a1:Option Addr) (n1 c1:Nat) (a2:Option Addr) (n2 c2:Nat) (a3:Option Addr) (n3 c3:Nat) (a4:Option Addr) (n4 c4:Nat) (a5:Option Addr) (n5 c5:Nat) (h0:f x0 = .slice a0 n0 c0) (h1:f x1 = .slice a1 n1 c1) (h2:f x2 = .slice a2 n2 c2) (h3:f x3 = .slice a3 n3 c3) (h4:f x4 = .slice a4 n4 c4) (h5:f x5 = .slice a5 n5 c5) (ho:o.op = .buildSlice 41 6 #[(0,x0),(1,x1),(2,x2),(3,x3),(4,x4),(5,x5)]) (w:World):(execOp f o).run Tryz.prog w = .ok (.value (.slice (some ⟨w.heap.size,0,none⟩) 6 6)) (w.alloc (.cells [Value.slice a0 n0 c0,.slice a1 n1 c1,.slice a2 n2 c2,.slice a3 n3 c3,.slice a4 n4 c4,.slice a5 n5 c5].toArray 23)):=by
 unfold execOp
 rw [ho]
 simp only [List.map_toArray,List.map_cons,List.map_nil,h0,h1,h2,h3,h4,h5]
 kernel_rfl
theorem readsL_blk {w:World} {g k:Nat} {vs:List Value} {ls:List Bs} (hb:Blk w g vs 23) (hk:k = ls.length) (hl:vs.length = ls.length) (h:∀ j,j < ls.length → Reads w (vs.getD j undef) (ls.getD j [])):ReadsL w (.slice (some ⟨g,0,none⟩) k k) ls:=by
 subst hk
 refine ⟨_,_,rfl,Nat.le_refl _,(fun e => by cases e),fun _ => ⟨g,0,rfl,fun j hj => ⟨vs.getD j undef,?_,h j hj⟩⟩⟩
 rw [hb.cell,Nat.zero_add,List.getD_eq_getElem?_getD,List.getElem?_eq_getElem (by omega)]
 rfl
theorem all2 {w:World} {v0 v1:Value} {l0 l1:Bs} (h0:Reads w v0 l0) (h1:Reads w v1 l1):∀ j,j < [l0,l1].length → Reads w ([v0,v1].getD j undef) ([l0,l1].getD j [])
 | 0,_ => h0
 | 1,_ => h1
 | j + 2,h => absurd h (by simp only [List.length_cons,List.length_nil];omega)
theorem all4 {w:World} {v0 v1 v2 v3:Value} {l0 l1 l2 l3:Bs} (h0:Reads w v0 l0) (h1:Reads w v1 l1) (h2:Reads w v2 l2) (h3:Reads w v3 l3):∀ j,j < [l0,l1,l2,l3].length → Reads w ([v0,v1,v2,v3].getD j undef) ([l0,l1,l2,l3].getD j [])
 | 0,_ => h0
 | 1,_ => h1
 | 2,_ => h2
 | 3,_ => h3
 | j + 4,h => absurd h (by simp only [List.length_cons,List.length_nil];omega)
theorem all6 {w:World} {v0 v1 v2 v3 v4 v5:Value} {l0 l1 l2 l3 l4 l5:Bs} (h0:Reads w v0 l0) (h1:Reads w v1 l1) (h2:Reads w v2 l2) (h3:Reads w v3 l3) (h4:Reads w v4 l4) (h5:Reads w v5 l5):∀ j,j < [l0,l1,l2,l3,l4,l5].length → Reads w ([v0,v1,v2,v3,v4,v5].getD j undef) ([l0,l1,l2,l3,l4,l5].getD j [])
 | 0,_ => h0
 | 1,_ => h1
 | 2,_ => h2
 | 3,_ => h3
 | 4,_ => h4
 | 5,_ => h5
 | j + 6,h => absurd h (by simp only [List.length_cons,List.length_nil];omega)
theorem alloc_dgJ (f:Operand → Value) (o:Oper) (ho:o.op = .alloc 155) (w:World):(execOp f o).run Tryz.prog w = .ok (.value (.pointer (some ⟨w.heap.size,0,none⟩))) (w.alloc (.cells (cb zb32).toArray 155)):=by
 unfold execOp
 rw [ho]
 kernel_rfl
theorem wpSeq_allocDg {ops:Array Oper} {Q:Exit → Act → World → Prop} {rest:List Oper} {o:Oper} {a:Act} {w:World} (ho:o.op = .alloc 155) (hw:Region.wanted o (yielded ops a.tmps) = true)
 (h:∀ g w',NewR (cb zb32) 155 w g w' → wpList Tryz.prog ops Q rest (a.put o.dst (.pointer (some ⟨g,0,none⟩))) w'):wpList Tryz.prog ops Q (o :: rest) a w:=
 wpSeq_val _ _ hw (alloc_dgJ _ _ ho _) (h _ _ (NewR.of _ _ w))
theorem sliceDg (b off:Nat) (f:Operand → Value) (o:Oper) (x:Operand) (ho:o.op = .slice 155 x none none none) (hx:f x = .pointer (some ⟨b,off,none⟩)) (w:World) :
 (execOp f o).run Tryz.prog w = .ok (.value (.slice (some ⟨b,off,none⟩) 32 32)) w:=by
 unfold execOp
 rw [ho]
 simp only [hx,Option.map_none]
 kernel_rfl
theorem wpSeq_sliceDg {ops:Array Oper} {Q:Exit → Act → World → Prop} {rest:List Oper} {o:Oper} {a:Act} {w:World} (x:Operand) (b off:Nat) (ho:o.op = .slice 155 x none none none) (hx:a.eval x = .pointer (some ⟨b,off,none⟩)) (hw:Region.wanted o (yielded ops a.tmps) = true)
 (h:wpList Tryz.prog ops Q rest (a.put o.dst (.slice (some ⟨b,off,none⟩) 32 32)) w):wpList Tryz.prog ops Q (o :: rest) a w:=
 wpSeq_val _ _ hw (sliceDg b off _ o x ho hx w) h
theorem Reads.some {w:World} {v:Value} {l:Bs} (h:Reads w v l) (hp:0 < l.length):∃ b off n c,v = .slice (some ⟨b,off,none⟩) n c:=by
 obtain ⟨ad,cp,hv,_,_,hx⟩:=h
 obtain ⟨b,off,rfl,_⟩:=hx hp
 exact ⟨b,off,_,_,hv⟩
theorem nText_any (gen seq:Nat) (hg:gen < 18446744073709551616) (hq:seq < 18446744073709551616) (v:Value) (b:Bs) (hb:b.length < 100000000) (w:World) (hr:Reads w v b):Calls Tryz.prog 108 #[.int .u64 (gen:Int),.int .u64 (seq:Int),v] w fun e w' => ∃ v',e = .returned v' ∧ Reads w' v' (textB gen seq b) ∧ Below w.heap.size w w':=by
 obtain ⟨ab,nb,cbb,rfl⟩:=hr.form
 have HB:Hid (Reads w (.slice ab nb cbb) b):=hr
 have HG:Hid (gen < 18446744073709551616):=hg
 have HQ:Hid (seq < 18446744073709551616):=hq
 have HL:Hid (b.length < 100000000):=hb
 have HBW:Hid (Below w.heap.size w w):=Below.refl _ _
 clear hr hg hq hb
 go_enter Tryz.func108,Tryz.ntmps108
 obtain ⟨tk0,tk1,tk2,tk3,tk4⟩:=sqk5
 go_wp2_with (first
  | (clear tk0;with_reducible refine wpSeq_buildY 74 (.const (.int .u8 74)) ?_ ?_ ?_ ?_
     · rfl
     · rfl
     · rfl
     intro gy y1 hb hz;have HYgy:Hid (Reads y1 (.slice (some ⟨gy,0,none⟩) 1 1) [74]):=blk_reads_y hb;replace HB:Hid (Reads y1 (.slice ab nb cbb) b):=HB.out.below hz;replace HBW:=sqt HBW hz;clear hb hz)
  | (clear tk1;go_at_call 110;refine (rnumber_any gen HG.out _).mono ?_;rintro e0 y2 ⟨v1,rfl,hr,hz⟩
     replace HB:Hid (Reads y2 (.slice ab nb cbb) b):=HB.out.below hz;replace HYgy:Hid (Reads y2 (.slice (some ⟨gy,0,none⟩) 1 1) [74]):=HYgy.out.below hz;replace HBW:=sqt HBW hz;obtain ⟨a1,n1,c1,hv⟩:=hr.form;subst hv;have H1:Hid (Reads y2 (.slice a1 n1 c1) (num8 gen)):=hr;clear hz hr)
  | (clear tk2;go_at_call 110;refine (rnumber_any seq HQ.out _).mono ?_;rintro e0 y3 ⟨v2,rfl,hr,hz⟩
     replace HB:Hid (Reads y3 (.slice ab nb cbb) b):=HB.out.below hz;replace HYgy:Hid (Reads y3 (.slice (some ⟨gy,0,none⟩) 1 1) [74]):=HYgy.out.below hz;replace H1:Hid (Reads y3 (.slice a1 n1 c1) (num8 gen)):=H1.out.below hz;replace HBW:=sqt HBW hz;obtain ⟨a2,n2,c2,hv⟩:=hr.form;subst hv;have H2:Hid (Reads y3 (.slice a2 n2 c2) (num8 seq)):=hr;clear hz hr)
  | (clear tk3;with_reducible refine wpSeq_buildT4 (.tmp 7) (.tmp 9) (.tmp 11) (.tmp 12) (some ⟨gy,0,none⟩) 1 1 a1 n1 c1 a2 n2 c2 ab nb cbb ?_ ?_ ?_ ?_ ?_ ?_ ?_
     · rfl
     · rfl
     · rfl
     · rfl
     · rfl
     · rfl
     intro g4 y4 nn;have HRL:Hid (ReadsL y4 (.slice (some ⟨g4,0,none⟩) 4 4) [[74],num8 gen,num8 seq,b]):=readsL_blk nn.blk rfl rfl (all4 (HYgy.out.below nn.below) (H1.out.below nn.below) (H2.out.below nn.below) (HB.out.below nn.below));replace HBW:Hid (Below w.heap.size w y4):=HBW.out.trans (nn.below.mono HBW.out.size);clear nn)
  | (clear tk4;go_at_call 74;refine (rjoin_any _ _ _ HRL.out (by simp only [fl4,len_num8,List.length_singleton];have:=HL.out;omega) (by simp)).mono ?_;rintro e0 y5 ⟨v5,rfl,hr,hz⟩
     have HRR:Hid (Reads y5 v5 (textB gen seq b)):=by
      have e:[[74],num8 gen,num8 seq,b].flatten = textB gen seq b:=by simp [textB]
      rw [← e];exact hr
     replace HBW:=sqt HBW hz;clear hr hz))
 go_ret
 exact ⟨_,rfl,HRR.out,HBW.out⟩
theorem nHead_any (gen:Nat) (hg:gen < 18446744073709551616) (w:World):Calls Tryz.prog 106 #[.int .u64 (gen:Int)] w fun e w' => ∃ v',e = .returned v' ∧ Reads w' v' (headB gen) ∧ Below w.heap.size w w':=by
 have HG:Hid (gen < 18446744073709551616):=hg
 have HBW:Hid (Below w.heap.size w w):=Below.refl _ _
 obtain ⟨hd,HHD⟩:=sqn (hd9 gen)
 obtain ⟨dg,HDG⟩:=sqn (dig hd)
 have HD9:Hid (hd.length = 9):=by rw [HHD.out];exact len_hd9 gen
 have HDL:Hid (dg.length = 32):=by rw [HDG.out];exact len_dig' _
 have HZL:Hid ((cb dg).length = (cb zb32).length):=by show _ = _;rw [cb_len,cb_len,HDL.out,len_zb32]
 have HIN:Hid ((Tryz.prog.info? 155).map (·.size) = some (cb dg).length):=info_dig _ HDL.out
 have HOF:Hid (∀ (W:World) (v:Value),Reads W v hd → Calls Tryz.prog 107 #[v] W fun e w' => e = .returned (.agg (cb dg).toArray) ∧ Below W.heap.size W w'):=fun W v hr => by rw [HDG.out];exact rOf_any v hd W hr (by rw [HD9.out];omega)
 have HFE:Hid ([[72],num8 gen].flatten = hd):=by show _ = _;rw [HHD.out];simp [hd9]
 have HFF:Hid ([hd,dg].flatten.length = 41 ∧ padB [hd,dg].flatten = headB gen):=by
  refine ⟨by rw [fl2,HD9.out,HDL.out],?_⟩
  have e:[hd,dg].flatten = hd ++ dg:=by simp
  rw [e,HDG.out,HHD.out]
  rfl
 clear hg
 go_enter Tryz.func106,Tryz.ntmps106
 obtain ⟨tk0,tk1,tk2,tk3,tk4,tk5,tk6,tk7,tk8,tk9,tk10⟩:=sqk11
 go_wp2_with (first
  | (clear tk0;with_reducible refine wpSeq_buildY 72 (.const (.int .u8 72)) ?_ ?_ ?_ ?_
     · rfl
     · rfl
     · rfl
     intro gy y1 hb hz;have HYgy:Hid (Reads y1 (.slice (some ⟨gy,0,none⟩) 1 1) [72]):=blk_reads_y hb;replace HBW:=sqt HBW hz;clear hb hz)
  | (clear tk1;go_at_call 110;refine (rnumber_any gen HG.out _).mono ?_;rintro e0 y2 ⟨v1,rfl,hr,hz⟩
     replace HYgy:Hid (Reads y2 (.slice (some ⟨gy,0,none⟩) 1 1) [72]):=HYgy.out.below hz;replace HBW:=sqt HBW hz;obtain ⟨a1,n1,c1,hv⟩:=hr.form;subst hv;have H1:Hid (Reads y2 (.slice a1 n1 c1) (num8 gen)):=hr;clear hz hr)
  | (clear tk2;with_reducible refine wpSeq_buildT2 (.tmp 5) (.tmp 7) (some ⟨gy,0,none⟩) 1 1 a1 n1 c1 ?_ ?_ ?_ ?_ ?_
     · rfl
     · rfl
     · rfl
     · rfl
     intro g4 y4 nn;have HRL:Hid (ReadsL y4 (.slice (some ⟨g4,0,none⟩) 2 2) [[72],num8 gen]):=readsL_blk nn.blk rfl rfl (all2 (HYgy.out.below nn.below) (H1.out.below nn.below));replace HBW:Hid (Below w.heap.size w y4):=HBW.out.trans (nn.below.mono HBW.out.size);clear nn)
  | (clear tk3;go_at_call 74;refine (rjoin_any _ _ _ HRL.out (by simp only [fl2,len_num8,List.length_singleton];omega) (by simp)).mono ?_;rintro e0 y5 ⟨v5,rfl,hr,hz⟩
     obtain ⟨a5,n5,c5,hv⟩:=hr.form;subst hv
     have H5:Hid (Reads y5 (.slice a5 n5 c5) hd):=by
      rw [← HFE.out];exact hr
     replace HBW:=sqt HBW hz;clear hr hz HRL)
  | (clear tk4;go_at_call 107;refine (HOF.out _ _ H5.out).mono ?_;rintro e0 y6 ⟨rfl,hz⟩
     replace H5:Hid (Reads y6 (.slice a5 n5 c5) hd):=H5.out.below hz;replace HBW:=sqt HBW hz;clear hz)
  | (clear tk5;with_reducible refine wpSeq_allocDg ?_ ?_ ?_
     · rfl
     · rfl
     intro g7 y7 nn;have HG7:Hid (Blk y7 g7 (cb zb32) 155):=nn.blk;have HGE:Hid (w.heap.size ≤ g7 ∧ y6.heap.size ≤ g7):=⟨Nat.le_trans HBW.out.size nn.ge,nn.ge⟩;have HB67:Hid (Below y6.heap.size y6 y7):=nn.below;clear nn)
  | (clear tk6;with_reducible refine wpSeq_storeRow 155 (.tmp 4) (.tmp 11) g7 (cb zb32) (cb dg) HG7.out HZL.out HIN.out (cb_one _) ?_ ?_ ?_ ?_ ?_
     · rfl
     · rfl
     · rfl
     · rfl
     intro y8 hs;have hz:Below y6.heap.size y6 y8:=HB67.out.trans (hs.only.below HGE.out.2 HB67.out.size);have H7:Hid (Reads y8 (.slice (some ⟨g7,0,none⟩) 32 32) dg):=hs.blk.reads HDL.out.symm (by rw [HDL.out];exact Nat.le_refl _)
     replace H5:Hid (Reads y8 (.slice a5 n5 c5) hd):=H5.out.below hz;replace HBW:=sqt HBW hz;clear hs hz)
  | (clear tk7;with_reducible refine wpSeq_sliceDg (.tmp 4) g7 0 ?_ ?_ ?_ ?_
     · rfl
     · rfl
     · rfl)
  | (clear tk8;with_reducible refine wpSeq_buildT2 (.tmp 12) (.tmp 13) a5 n5 c5 (some ⟨g7,0,none⟩) 32 32 ?_ ?_ ?_ ?_ ?_
     · rfl
     · rfl
     · rfl
     · rfl
     intro g9 y9 nn;have HRL:Hid (ReadsL y9 (.slice (some ⟨g9,0,none⟩) 2 2) [hd,dg]):=readsL_blk nn.blk rfl rfl (all2 (H5.out.below nn.below) (H7.out.below nn.below));replace HBW:Hid (Below w.heap.size w y9):=HBW.out.trans (nn.below.mono HBW.out.size);clear nn)
  | (clear tk9;go_at_call 74;refine (rjoin_any _ _ _ HRL.out (by rw [HFF.out.1];omega) (by simp)).mono ?_;rintro e0 y10 ⟨v10,rfl,hr,hz⟩
     obtain ⟨b10,o10,n10,c10,hv⟩:=hr.some (by rw [HFF.out.1];decide)
     subst hv;have H10:Hid (Reads y10 (.slice (some ⟨b10,o10,none⟩) n10 c10) [hd,dg].flatten):=hr;replace HBW:=sqt HBW hz;clear hr hz)
  | (clear tk10;go_at_call 109;refine (nPad_any _ _ _ _ _ _ (by rw [HFF.out.1];decide) (by rw [HFF.out.1];decide) H10.out).mono ?_;rintro e0 y11 ⟨v11,rfl,hr,hz⟩
     have HRR:Hid (Reads y11 v11 (headB gen)):=by
      rw [← HFF.out.2];exact hr
     replace HBW:=sqt HBW hz;clear hr hz))
 go_ret
 exact ⟨_,rfl,HRR.out,HBW.out⟩
theorem build_yJ (b:BitVec 8) (f:Operand → Value) (o:Oper) (x:Operand) (hx:f x = .int .u8 (b.toNat:Int)) (ho:o.op = .buildSlice 23 1 #[(0,x)]) (w:World):(execOp f o).run Tryz.prog w = .ok (.value (.slice (some ⟨w.heap.size,0,none⟩) 1 1)) (w.alloc (.cells (cb [b]).toArray 5)):=by
 unfold execOp
 rw [ho]
 simp only [List.map_toArray,List.map_cons,List.map_nil,hx]
 kernel_rfl
theorem nRecord_any (gen seq:Nat) (hg:gen < 18446744073709551616) (hq:seq < 18446744073709551616) (v:Value) (b:Bs) (hb:b.length < 90000000) (w:World) (hr:Reads w v b):Calls Tryz.prog 84 #[.int .u64 (gen:Int),.int .u64 (seq:Int),v] w fun e w' => ∃ v',e = .returned v' ∧ Reads w' v' (recB gen seq b) ∧ Below w.heap.size w w':=by
 obtain ⟨ab,cbb,hv⟩:∃ ad c,v = .slice ad b.length c:=by obtain ⟨a,c,hv,_⟩:=hr;exact ⟨a,c,hv⟩
 obtain ⟨nb,HNE⟩:=sqn (b.length)
 rw [← HNE.out] at hv
 subst hv
 obtain ⟨tx,HTX⟩:=sqn (textB gen seq b)
 obtain ⟨dg,HDG⟩:=sqn (dig tx)
 have HB:Hid (Reads w (.slice ab nb cbb) b):=hr
 have HG:Hid (gen < 18446744073709551616):=hg
 have HQ:Hid (seq < 18446744073709551616):=hq
 have HL:Hid (b.length < 90000000):=hb
 have HNB:Hid (nb < 18446744073709551616):=by show _ < _;rw [HNE.out];omega
 have HTL:Hid (tx.length < 100000000):=by show _ < _;rw [HTX.out,textB];simp only [List.length_cons,List.length_append,len_num8];omega
 have HDL:Hid (dg.length = 32):=by rw [HDG.out];exact len_dig' _
 have HZL:Hid ((cb dg).length = (cb zb32).length):=by show _ = _;rw [cb_len,cb_len,HDL.out,len_zb32]
 have HIN:Hid ((Tryz.prog.info? 155).map (·.size) = some (cb dg).length):=info_dig _ HDL.out
 have HTT:Hid (Calls Tryz.prog 108 #[.int .u64 (gen:Int),.int .u64 (seq:Int),.slice ab nb cbb] w fun e w' => ∃ v',e = .returned v' ∧ Reads w' v' tx ∧ Below w.heap.size w w'):=by rw [HTX.out];exact nText_any gen seq hg hq _ b (by omega) w hr
 have HOF:Hid (∀ (W:World) (v:Value),Reads W v tx → Calls Tryz.prog 107 #[v] W fun e w' => e = .returned (.agg (cb dg).toArray) ∧ Below W.heap.size W w'):=fun W v hr => by rw [HDG.out];exact rOf_any v tx W hr (by have:=HTL.out;omega)
 have HRW:Hid ([[74],num8 gen,num8 seq,dg,num8 nb,b].flatten = rawB gen seq b):=by show _ = _;rw [HDG.out,HTX.out,HNE.out];simp [rawB]
 have HFL:Hid ([[74],num8 gen,num8 seq,dg,num8 nb,b].flatten.length ≤ 140737488355328):=by show _ ≤ _;rw [HRW.out,len_rawB];omega
 have HFP:Hid (0 < [[74],num8 gen,num8 seq,dg,num8 nb,b].flatten.length):=by show _ < _;rw [HRW.out,len_rawB];omega
 have HFQ:Hid ([[74],num8 gen,num8 seq,dg,num8 nb,b].flatten.length < 100000000):=by show _ < _;rw [HRW.out,len_rawB];omega
 have HPE:Hid (padB [[74],num8 gen,num8 seq,dg,num8 nb,b].flatten = recB gen seq b):=by show _ = _;rw [HRW.out];rfl
 have f8:IntKind.u64.wrap (nb:Int) = (nb:Int):=by rw [IntKind.wrap_u64];have:=HNB.out;omega
 have HBW:Hid (Below w.heap.size w w):=Below.refl _ _
 clear hr hg hq hb
 go_enter Tryz.func84,Tryz.ntmps84
 obtain ⟨tk0,tk1,tk2,tk3⟩:=sqk4
 go_wp2_with (first
  | (clear tk0;go_at_call 108;refine (HTT.out).mono ?_;rintro e0 y2 ⟨v1,rfl,hr,hz⟩
     replace HB:Hid (Reads y2 (.slice ab nb cbb) b):=HB.out.below hz;replace HBW:=sqt HBW hz;obtain ⟨a1,n1,c1,hv⟩:=hr.form;subst hv;have H1:Hid (Reads y2 (.slice a1 n1 c1) (tx)):=hr;clear hz hr)
  | (clear tk1;go_at_call 107;refine (HOF.out _ _ H1.out).mono ?_;rintro e0 y3 ⟨rfl,hz⟩
     replace HB:Hid (Reads y3 (.slice ab nb cbb) b):=HB.out.below hz;replace HBW:=sqt HBW hz;clear hz H1)
  | (clear tk2;with_reducible refine wpSeq_allocDg ?_ ?_ ?_
     · rfl
     · rfl
     intro g7 y7 nn;have HG7:Hid (Blk y7 g7 (cb zb32) 155):=nn.blk;have HGE:Hid (y3.heap.size ≤ g7):=nn.ge;have HB67:Hid (Below y3.heap.size y3 y7):=nn.below;clear nn)
  | (clear tk3;with_reducible refine wpSeq_storeRow 155 (.tmp 7) (.tmp 12) g7 (cb zb32) (cb dg) HG7.out HZL.out HIN.out (cb_one _) ?_ ?_ ?_ ?_ ?_
     · rfl
     · rfl
     · rfl
     · rfl
     intro y8 hs;have hz:Below y3.heap.size y3 y8:=HB67.out.trans (hs.only.below HGE.out HB67.out.size);have H7:Hid (Reads y8 (.slice (some ⟨g7,0,none⟩) 32 32) dg):=hs.blk.reads HDL.out.symm (by rw [HDL.out];exact Nat.le_refl _)
     replace HB:Hid (Reads y8 (.slice ab nb cbb) b):=HB.out.below hz;replace HBW:=sqt HBW hz;clear hs hz)
  | fail)
 refine wp_region_held_drew (S:=Over (World.drew y8)) (by kernel_rfl) (Over.refl _) ?_
 intro hS
 have rd:Reads (World.drew y8) (.slice (some ⟨g7,0,none⟩) 32 32) dg:=H7.out
 have rb:Reads (World.drew y8) (.slice ab nb cbb) b:=HB.out
 replace HBW:Hid (Below w.heap.size w (World.drew y8)):=HBW.out.drew
 clear H7 HB HG7 HGE HB67
 change wpAnyH _ _ _ _ _ _ _ _ (World.drew y8)
 generalize World.drew y8 = y0 at *
 refine tkc 1 (.int .u64 (gen:Int)) rfl hS ?_
 simp only [Act.put,sq]
 refine tkc 3 (.int .u64 (seq:Int)) rfl hS ?_
 simp only [Act.put,sq]
 refine tka 5 (.slice (some ⟨g7,0,none⟩) 32 32) rfl (fun wx hx => by exact sliceDg g7 0 _ _ _ rfl rfl _) hS ?_
 simp only [Act.put,sq]
 refine tkc 6 (.slice ab nb cbb) rfl hS ?_
 simp only [Act.put,sq]
 refine tkc 7 (.int .i64 (nb:Int)) rfl hS ?_
 simp only [Act.put,sq]
 refine tka 8 (.int .u64 (nb:Int)) rfl (fun wx hx => by simp [go_sem,f8]) hS ?_
 simp only [Act.put,sq]
 refine tkc 10 (.slice ab nb cbb) rfl hS ?_
 simp only [Act.put,sq]
 refine wpAnyH_pair 0 2 (by kernel_rfl) ?_ ?_
 · have hb:=below_alloc y0 (.cells (cb [74]).toArray 5)
   have ry:Reads (y0.alloc (.cells (cb [74]).toArray 5)) (.slice (some ⟨y0.heap.size,0,none⟩) 1 1) [74]:=blk_reads_y (Blk.new _ _ _);replace rd:=rd.below hb;replace rb:=rb.below hb;replace hS:=Over.more hS hb;refine wpOp_vl 0 (.slice (some ⟨y0.heap.size,0,none⟩) 1 1) (y0.alloc (.cells (cb [74]).toArray 5)) (by rfl) (by rfl) (build_yJ 74 _ _ _ rfl rfl _) ⟨hS,?_⟩
   simp only [Act.put,sq]
   generalize y0.alloc (.cells (cb [74]).toArray 5) = z10 at *
   obtain ⟨gy,HGY⟩:=sqn (y0.heap.size);rw [← HGY.out] at ry ⊢;clear hb HGY;refine wpAnyH_enter 2 (by kernel_rfl) rfl (by rfl) (f:=110) (args:=#[.int .u64 (gen:Int)]) (by simp [go_sem]) (rnumber_any gen HG.out _) ?_
   rintro e z11 ⟨v1,rfl,r1,hb⟩;obtain ⟨a0,n0,c0,rfl⟩:=r1.form;replace rd:=rd.below hb;replace rb:=rb.below hb;replace ry:=ry.below hb;replace hS:=Over.more hS hb;refine ⟨_,rfl,hS,?_⟩;clear hb;simp only [Act.put,sq];refine wpAnyH_enter 4 (by kernel_rfl) rfl (by rfl) (f:=110) (args:=#[.int .u64 (seq:Int)]) (by simp [go_sem]) (rnumber_any seq HQ.out _) ?_
   rintro e z12 ⟨v2,rfl,r2,hb⟩;obtain ⟨a1,n1,c1,rfl⟩:=r2.form;replace rd:=rd.below hb;replace rb:=rb.below hb;replace ry:=ry.below hb;replace r1:=r1.below hb;replace hS:=Over.more hS hb;refine ⟨_,rfl,hS,?_⟩;clear hb;simp only [Act.put,sq];refine wpAnyH_enter 9 (by kernel_rfl) rfl (by rfl) (f:=110) (args:=#[.int .u64 (nb:Int)]) (by simp [go_sem]) (rnumber_any nb HNB.out _) ?_
   rintro e z13 ⟨v3,rfl,r3,hb⟩;obtain ⟨a2,n2,c2,rfl⟩:=r3.form;replace rd:=rd.below hb;replace rb:=rb.below hb;replace ry:=ry.below hb;replace r1:=r1.below hb;replace r2:=r2.below hb;replace hS:=Over.more hS hb;refine ⟨_,rfl,hS,?_⟩;clear hb;simp only [Act.put,sq];have rl:=readsL_blk (k:=6) (Blk.new z13 [.slice (some ⟨gy,0,none⟩) 1 1,.slice a0 n0 c0,.slice a1 n1 c1,.slice (some ⟨g7,0,none⟩) 32 32,.slice a2 n2 c2,.slice ab nb cbb] 23) (ls:=[[74],num8 gen,num8 seq,dg,num8 nb,b]) rfl rfl (all6 (ry.below (below_alloc _ _)) (r1.below (below_alloc _ _)) (r2.below (below_alloc _ _)) (rd.below (below_alloc _ _)) (r3.below (below_alloc _ _)) (rb.below (below_alloc _ _)));have hb:=below_alloc z13 (.cells [Value.slice (some ⟨gy,0,none⟩) 1 1,.slice a0 n0 c0,.slice a1 n1 c1,.slice (some ⟨g7,0,none⟩) 32 32,.slice a2 n2 c2,.slice ab nb cbb].toArray 23);replace hS:=Over.more hS hb;refine wpAnyH_step 11 _ _ (by kernel_rfl) rfl (by rfl) (build_tx6 _ _ (.tmp 13) (.tmp 15) (.tmp 17) (.tmp 18) (.tmp 22) (.tmp 23) _ _ _ _ _ _ _ _ _ _ _ _ _ _ _ _ _ _ rfl rfl rfl rfl rfl rfl rfl _) hS ?_
   simp only [Act.put,sq]
   generalize z13.alloc (.cells [Value.slice (some ⟨gy,0,none⟩) 1 1,.slice a0 n0 c0,.slice a1 n1 c1,.slice (some ⟨g7,0,none⟩) 32 32,.slice a2 n2 c2,.slice ab nb cbb].toArray 23) = x1 at *
   obtain ⟨gl,HGL⟩:=sqn (z13.heap.size);rw [← HGL.out] at rl ⊢;refine wpAnyH_enter 12 (by kernel_rfl) rfl (by rfl) (f:=74) (args:=#[.slice (some ⟨gl,0,none⟩) 6 6]) (by simp [go_sem]) (rjoin_any _ _ _ rl HFL.out (by simp)) ?_
   rintro e x2 ⟨v4,rfl,r4,hb2⟩;obtain ⟨b4,o4,n4,c4,rfl⟩:=r4.some HFP.out;replace hS:=Over.more hS hb2;refine ⟨_,rfl,hS,?_⟩;clear hb hb2;simp only [Act.put,sq];refine wpAnyH_enter 13 (by kernel_rfl) rfl (by rfl) (f:=109) (args:=#[.slice (some ⟨b4,o4,none⟩) n4 c4]) (by simp [go_sem]) (nPad_any _ _ _ _ _ _ HFP.out HFQ.out r4) ?_
   rintro e x3 ⟨v5,rfl,r5,hb2⟩;obtain ⟨a5,n5,c5,rfl⟩:=r5.form;replace hS:=Over.more hS hb2;refine ⟨_,rfl,hS,?_⟩;clear hb2;simp only [Act.put,sq];refine tkc 14 (.slice a5 n5 c5) rfl hS ?_;simp only [Act.put,sq];refine wpAnyH_done (by kernel_rfl) ?_ _
   go_wp2;go_ret;exact ⟨_,rfl,by rw [← HPE.out];exact r5,HBW.out.trans (Below.mono (Over.out hS) HBW.out.size)⟩
 · refine wpOp_en 2 (by rfl) (by rfl) (f:=110) (args:=#[.int .u64 (gen:Int)]) (by simp [go_sem]) (rnumber_any gen HG.out _) ?_
   rintro e z1 ⟨v1,rfl,r1,hb⟩;obtain ⟨a0,n0,c0,rfl⟩:=r1.form;replace rd:=rd.below hb;replace rb:=rb.below hb;replace hS:=Over.more hS hb;refine ⟨_,rfl,hS,?_⟩;clear hb;simp only [Act.put,sq];refine wpAnyH_pair 0 4 (by kernel_rfl) ?_ ?_
   · have hb:=below_alloc z1 (.cells (cb [74]).toArray 5)
     have ry:Reads (z1.alloc (.cells (cb [74]).toArray 5)) (.slice (some ⟨z1.heap.size,0,none⟩) 1 1) [74]:=blk_reads_y (Blk.new _ _ _);replace rd:=rd.below hb;replace rb:=rb.below hb;replace r1:=r1.below hb;replace hS:=Over.more hS hb;refine wpOp_vl 0 (.slice (some ⟨z1.heap.size,0,none⟩) 1 1) (z1.alloc (.cells (cb [74]).toArray 5)) (by rfl) (by rfl) (build_yJ 74 _ _ _ rfl rfl _) ⟨hS,?_⟩
     simp only [Act.put,sq]
     generalize z1.alloc (.cells (cb [74]).toArray 5) = z7 at *
     obtain ⟨gy,HGY⟩:=sqn (z1.heap.size);rw [← HGY.out] at ry ⊢;clear hb HGY;refine wpAnyH_enter 4 (by kernel_rfl) rfl (by rfl) (f:=110) (args:=#[.int .u64 (seq:Int)]) (by simp [go_sem]) (rnumber_any seq HQ.out _) ?_
     rintro e z8 ⟨v2,rfl,r2,hb⟩;obtain ⟨a1,n1,c1,rfl⟩:=r2.form;replace rd:=rd.below hb;replace rb:=rb.below hb;replace r1:=r1.below hb;replace ry:=ry.below hb;replace hS:=Over.more hS hb;refine ⟨_,rfl,hS,?_⟩;clear hb;simp only [Act.put,sq];refine wpAnyH_enter 9 (by kernel_rfl) rfl (by rfl) (f:=110) (args:=#[.int .u64 (nb:Int)]) (by simp [go_sem]) (rnumber_any nb HNB.out _) ?_
     rintro e z9 ⟨v3,rfl,r3,hb⟩;obtain ⟨a2,n2,c2,rfl⟩:=r3.form;replace rd:=rd.below hb;replace rb:=rb.below hb;replace r1:=r1.below hb;replace ry:=ry.below hb;replace r2:=r2.below hb;replace hS:=Over.more hS hb;refine ⟨_,rfl,hS,?_⟩;clear hb;simp only [Act.put,sq];have rl:=readsL_blk (k:=6) (Blk.new z9 [.slice (some ⟨gy,0,none⟩) 1 1,.slice a0 n0 c0,.slice a1 n1 c1,.slice (some ⟨g7,0,none⟩) 32 32,.slice a2 n2 c2,.slice ab nb cbb] 23) (ls:=[[74],num8 gen,num8 seq,dg,num8 nb,b]) rfl rfl (all6 (ry.below (below_alloc _ _)) (r1.below (below_alloc _ _)) (r2.below (below_alloc _ _)) (rd.below (below_alloc _ _)) (r3.below (below_alloc _ _)) (rb.below (below_alloc _ _)));have hb:=below_alloc z9 (.cells [Value.slice (some ⟨gy,0,none⟩) 1 1,.slice a0 n0 c0,.slice a1 n1 c1,.slice (some ⟨g7,0,none⟩) 32 32,.slice a2 n2 c2,.slice ab nb cbb].toArray 23);replace hS:=Over.more hS hb;refine wpAnyH_step 11 _ _ (by kernel_rfl) rfl (by rfl) (build_tx6 _ _ (.tmp 13) (.tmp 15) (.tmp 17) (.tmp 18) (.tmp 22) (.tmp 23) _ _ _ _ _ _ _ _ _ _ _ _ _ _ _ _ _ _ rfl rfl rfl rfl rfl rfl rfl _) hS ?_
     simp only [Act.put,sq]
     generalize z9.alloc (.cells [Value.slice (some ⟨gy,0,none⟩) 1 1,.slice a0 n0 c0,.slice a1 n1 c1,.slice (some ⟨g7,0,none⟩) 32 32,.slice a2 n2 c2,.slice ab nb cbb].toArray 23) = x1 at *
     obtain ⟨gl,HGL⟩:=sqn (z9.heap.size);rw [← HGL.out] at rl ⊢;refine wpAnyH_enter 12 (by kernel_rfl) rfl (by rfl) (f:=74) (args:=#[.slice (some ⟨gl,0,none⟩) 6 6]) (by simp [go_sem]) (rjoin_any _ _ _ rl HFL.out (by simp)) ?_
     rintro e x2 ⟨v4,rfl,r4,hb2⟩;obtain ⟨b4,o4,n4,c4,rfl⟩:=r4.some HFP.out;replace hS:=Over.more hS hb2;refine ⟨_,rfl,hS,?_⟩;clear hb hb2;simp only [Act.put,sq];refine wpAnyH_enter 13 (by kernel_rfl) rfl (by rfl) (f:=109) (args:=#[.slice (some ⟨b4,o4,none⟩) n4 c4]) (by simp [go_sem]) (nPad_any _ _ _ _ _ _ HFP.out HFQ.out r4) ?_
     rintro e x3 ⟨v5,rfl,r5,hb2⟩;obtain ⟨a5,n5,c5,rfl⟩:=r5.form;replace hS:=Over.more hS hb2;refine ⟨_,rfl,hS,?_⟩;clear hb2;simp only [Act.put,sq];refine tkc 14 (.slice a5 n5 c5) rfl hS ?_;simp only [Act.put,sq];refine wpAnyH_done (by kernel_rfl) ?_ _
     go_wp2;go_ret;exact ⟨_,rfl,by rw [← HPE.out];exact r5,HBW.out.trans (Below.mono (Over.out hS) HBW.out.size)⟩
   · refine wpOp_en 4 (by rfl) (by rfl) (f:=110) (args:=#[.int .u64 (seq:Int)]) (by simp [go_sem]) (rnumber_any seq HQ.out _) ?_
     rintro e z2 ⟨v2,rfl,r2,hb⟩;obtain ⟨a1,n1,c1,rfl⟩:=r2.form;replace rd:=rd.below hb;replace rb:=rb.below hb;replace r1:=r1.below hb;replace hS:=Over.more hS hb;refine ⟨_,rfl,hS,?_⟩;clear hb;simp only [Act.put,sq];refine wpAnyH_pair 0 9 (by kernel_rfl) ?_ ?_
     · have hb:=below_alloc z2 (.cells (cb [74]).toArray 5)
       have ry:Reads (z2.alloc (.cells (cb [74]).toArray 5)) (.slice (some ⟨z2.heap.size,0,none⟩) 1 1) [74]:=blk_reads_y (Blk.new _ _ _);replace rd:=rd.below hb;replace rb:=rb.below hb;replace r1:=r1.below hb;replace r2:=r2.below hb;replace hS:=Over.more hS hb;refine wpOp_vl 0 (.slice (some ⟨z2.heap.size,0,none⟩) 1 1) (z2.alloc (.cells (cb [74]).toArray 5)) (by rfl) (by rfl) (build_yJ 74 _ _ _ rfl rfl _) ⟨hS,?_⟩
       simp only [Act.put,sq]
       generalize z2.alloc (.cells (cb [74]).toArray 5) = z5 at *
       obtain ⟨gy,HGY⟩:=sqn (z2.heap.size);rw [← HGY.out] at ry ⊢;clear hb HGY;refine wpAnyH_enter 9 (by kernel_rfl) rfl (by rfl) (f:=110) (args:=#[.int .u64 (nb:Int)]) (by simp [go_sem]) (rnumber_any nb HNB.out _) ?_
       rintro e z6 ⟨v3,rfl,r3,hb⟩;obtain ⟨a2,n2,c2,rfl⟩:=r3.form;replace rd:=rd.below hb;replace rb:=rb.below hb;replace r1:=r1.below hb;replace r2:=r2.below hb;replace ry:=ry.below hb;replace hS:=Over.more hS hb;refine ⟨_,rfl,hS,?_⟩;clear hb;simp only [Act.put,sq];have rl:=readsL_blk (k:=6) (Blk.new z6 [.slice (some ⟨gy,0,none⟩) 1 1,.slice a0 n0 c0,.slice a1 n1 c1,.slice (some ⟨g7,0,none⟩) 32 32,.slice a2 n2 c2,.slice ab nb cbb] 23) (ls:=[[74],num8 gen,num8 seq,dg,num8 nb,b]) rfl rfl (all6 (ry.below (below_alloc _ _)) (r1.below (below_alloc _ _)) (r2.below (below_alloc _ _)) (rd.below (below_alloc _ _)) (r3.below (below_alloc _ _)) (rb.below (below_alloc _ _)));have hb:=below_alloc z6 (.cells [Value.slice (some ⟨gy,0,none⟩) 1 1,.slice a0 n0 c0,.slice a1 n1 c1,.slice (some ⟨g7,0,none⟩) 32 32,.slice a2 n2 c2,.slice ab nb cbb].toArray 23);replace hS:=Over.more hS hb;refine wpAnyH_step 11 _ _ (by kernel_rfl) rfl (by rfl) (build_tx6 _ _ (.tmp 13) (.tmp 15) (.tmp 17) (.tmp 18) (.tmp 22) (.tmp 23) _ _ _ _ _ _ _ _ _ _ _ _ _ _ _ _ _ _ rfl rfl rfl rfl rfl rfl rfl _) hS ?_
       simp only [Act.put,sq]
       generalize z6.alloc (.cells [Value.slice (some ⟨gy,0,none⟩) 1 1,.slice a0 n0 c0,.slice a1 n1 c1,.slice (some ⟨g7,0,none⟩) 32 32,.slice a2 n2 c2,.slice ab nb cbb].toArray 23) = x1 at *
       obtain ⟨gl,HGL⟩:=sqn (z6.heap.size);rw [← HGL.out] at rl ⊢;refine wpAnyH_enter 12 (by kernel_rfl) rfl (by rfl) (f:=74) (args:=#[.slice (some ⟨gl,0,none⟩) 6 6]) (by simp [go_sem]) (rjoin_any _ _ _ rl HFL.out (by simp)) ?_
       rintro e x2 ⟨v4,rfl,r4,hb2⟩;obtain ⟨b4,o4,n4,c4,rfl⟩:=r4.some HFP.out;replace hS:=Over.more hS hb2;refine ⟨_,rfl,hS,?_⟩;clear hb hb2;simp only [Act.put,sq];refine wpAnyH_enter 13 (by kernel_rfl) rfl (by rfl) (f:=109) (args:=#[.slice (some ⟨b4,o4,none⟩) n4 c4]) (by simp [go_sem]) (nPad_any _ _ _ _ _ _ HFP.out HFQ.out r4) ?_
       rintro e x3 ⟨v5,rfl,r5,hb2⟩;obtain ⟨a5,n5,c5,rfl⟩:=r5.form;replace hS:=Over.more hS hb2;refine ⟨_,rfl,hS,?_⟩;clear hb2;simp only [Act.put,sq];refine tkc 14 (.slice a5 n5 c5) rfl hS ?_;simp only [Act.put,sq];refine wpAnyH_done (by kernel_rfl) ?_ _
       go_wp2;go_ret;exact ⟨_,rfl,by rw [← HPE.out];exact r5,HBW.out.trans (Below.mono (Over.out hS) HBW.out.size)⟩
     · refine wpOp_en 9 (by rfl) (by rfl) (f:=110) (args:=#[.int .u64 (nb:Int)]) (by simp [go_sem]) (rnumber_any nb HNB.out _) ?_
       rintro e z3 ⟨v3,rfl,r3,hb⟩;obtain ⟨a2,n2,c2,rfl⟩:=r3.form;replace rd:=rd.below hb;replace rb:=rb.below hb;replace r1:=r1.below hb;replace r2:=r2.below hb;replace hS:=Over.more hS hb;refine ⟨_,rfl,hS,?_⟩;clear hb;simp only [Act.put,sq];have hb:=below_alloc z3 (.cells (cb [74]).toArray 5);have ry:Reads (z3.alloc (.cells (cb [74]).toArray 5)) (.slice (some ⟨z3.heap.size,0,none⟩) 1 1) [74]:=blk_reads_y (Blk.new _ _ _);replace rd:=rd.below hb;replace rb:=rb.below hb;replace r1:=r1.below hb;replace r2:=r2.below hb;replace r3:=r3.below hb;replace hS:=Over.more hS hb;refine wpAnyH_step 0 (.slice (some ⟨z3.heap.size,0,none⟩) 1 1) (z3.alloc (.cells (cb [74]).toArray 5)) (by kernel_rfl) rfl (by rfl) (build_yJ 74 _ _ _ rfl rfl _) hS ?_
       simp only [Act.put,sq]
       generalize z3.alloc (.cells (cb [74]).toArray 5) = z4 at *
       obtain ⟨gy,HGY⟩:=sqn (z3.heap.size);rw [← HGY.out] at ry ⊢;clear hb HGY;have rl:=readsL_blk (k:=6) (Blk.new z4 [.slice (some ⟨gy,0,none⟩) 1 1,.slice a0 n0 c0,.slice a1 n1 c1,.slice (some ⟨g7,0,none⟩) 32 32,.slice a2 n2 c2,.slice ab nb cbb] 23) (ls:=[[74],num8 gen,num8 seq,dg,num8 nb,b]) rfl rfl (all6 (ry.below (below_alloc _ _)) (r1.below (below_alloc _ _)) (r2.below (below_alloc _ _)) (rd.below (below_alloc _ _)) (r3.below (below_alloc _ _)) (rb.below (below_alloc _ _)));have hb:=below_alloc z4 (.cells [Value.slice (some ⟨gy,0,none⟩) 1 1,.slice a0 n0 c0,.slice a1 n1 c1,.slice (some ⟨g7,0,none⟩) 32 32,.slice a2 n2 c2,.slice ab nb cbb].toArray 23);replace hS:=Over.more hS hb;refine wpAnyH_step 11 _ _ (by kernel_rfl) rfl (by rfl) (build_tx6 _ _ (.tmp 13) (.tmp 15) (.tmp 17) (.tmp 18) (.tmp 22) (.tmp 23) _ _ _ _ _ _ _ _ _ _ _ _ _ _ _ _ _ _ rfl rfl rfl rfl rfl rfl rfl _) hS ?_
       simp only [Act.put,sq]
       generalize z4.alloc (.cells [Value.slice (some ⟨gy,0,none⟩) 1 1,.slice a0 n0 c0,.slice a1 n1 c1,.slice (some ⟨g7,0,none⟩) 32 32,.slice a2 n2 c2,.slice ab nb cbb].toArray 23) = x1 at *
       obtain ⟨gl,HGL⟩:=sqn (z4.heap.size);rw [← HGL.out] at rl ⊢;refine wpAnyH_enter 12 (by kernel_rfl) rfl (by rfl) (f:=74) (args:=#[.slice (some ⟨gl,0,none⟩) 6 6]) (by simp [go_sem]) (rjoin_any _ _ _ rl HFL.out (by simp)) ?_
       rintro e x2 ⟨v4,rfl,r4,hb2⟩;obtain ⟨b4,o4,n4,c4,rfl⟩:=r4.some HFP.out;replace hS:=Over.more hS hb2;refine ⟨_,rfl,hS,?_⟩;clear hb hb2;simp only [Act.put,sq];refine wpAnyH_enter 13 (by kernel_rfl) rfl (by rfl) (f:=109) (args:=#[.slice (some ⟨b4,o4,none⟩) n4 c4]) (by simp [go_sem]) (nPad_any _ _ _ _ _ _ HFP.out HFQ.out r4) ?_
       rintro e x3 ⟨v5,rfl,r5,hb2⟩;obtain ⟨a5,n5,c5,rfl⟩:=r5.form;replace hS:=Over.more hS hb2;refine ⟨_,rfl,hS,?_⟩;clear hb2;simp only [Act.put,sq];refine tkc 14 (.slice a5 n5 c5) rfl hS ?_;simp only [Act.put,sq];refine wpAnyH_done (by kernel_rfl) ?_ _
       go_wp2;go_ret;exact ⟨_,rfl,by rw [← HPE.out];exact r5,HBW.out.trans (Below.mono (Over.out hS) HBW.out.size)⟩
theorem cutTo (b off n c m:Nat) (hm:m ≤ n) (hc:n ≤ c) (f:Operand → Value) (o:Oper) (x y:Operand) (ho:o.op = .slice 23 x none (some y) none) (hx:f x = .slice (some ⟨b,off,none⟩) n c) (hy:f y = .int .i64 (m:Int)) (w:World) :
 (execOp f o).run Tryz.prog w = .ok (.value (.slice (some ⟨b,off,none⟩) m c)) w:=by
 have hs:(sizeOf 5).run Tryz.prog w = .ok 1 w:=by kernel_rfl
 unfold execOp
 rw [ho]
 simp only [hx,hy,Option.map_some,Option.map_none,Sem.run_bind]
 rw [run_sliceAt_slice w 23 _ _ _ _ (by kernel_rfl),run_slice_h w 23 _ _ _ (by kernel_rfl) .i64 (m:Int) (by omega) (by omega)]
 rw [show Tryz.prog.elem 23 = 5 from by kernel_rfl,hs]
 simp [sliced,Addr.add_mid]
theorem nGen_any (bb off n c:Nat) (half:Bs) (hl:64 ≤ half.length) (w:World) (hr:Reads w (.slice (some ⟨bb,off,none⟩) n c) half):Calls Tryz.prog 82 #[.slice (some ⟨bb,off,none⟩) n c] w fun e w' => e = .returned (.int .u64 (genH half:Int)) ∧ Below w.heap.size w w':=by
 obtain ⟨gg,HGG⟩:=sqn (rdNum ((half.drop 1).take 8))
 obtain ⟨gr,HGR⟩:=sqn (genH half)
 have HGE:Hid (gr = if gg = 0 ∨ half.take 64 ≠ headB gg then 0 else gg):=by show _ = _;rw [HGR.out,genH,← HGG.out]
 have HL8:Hid (((half.drop 1).take 8).length = 8):=by show _ = _;rw [List.length_take,List.length_drop];omega
 have HG9:Hid (gg < 18446744073709551616):=by show _ < _;rw [HGG.out];exact rdNum_8 HL8.out
 have hnh:n = half.length:=by obtain ⟨_,cp,hv,_⟩:=hr;simp only [Value.slice.injEq] at hv;exact hv.2.1
 have HNC:Hid (n ≤ c):=by obtain ⟨_,cp,hv,hc,_⟩:=hr;simp only [Value.slice.injEq] at hv;show _ ≤ _;rw [hnh,hv.2.2];exact hc
 have HR8:Hid (Reads w (.slice (some ⟨bb,off + 1,none⟩) 8 (c - 1)) ((half.drop 1).take 8)):=hr.cutJ 1 8 (c - 1) (by omega) (by have:=HNC.out;omega)
 have HN1:Hid (1 + 8 ≤ n ∧ 64 ≤ n):=⟨by omega,by omega⟩
 have HR64:Hid (Reads w (.slice (some ⟨bb,off,none⟩) 64 c) (half.take 64)):=by
  have h9:=hr.cutJ 0 64 c (by omega) (by have:=HNC.out;omega)
  rw [List.drop_zero] at h9
  exact h9
 have HNM:Hid (Calls Tryz.prog 83 #[.slice (some ⟨bb,off + 1,none⟩) 8 (c - 1)] w fun e w' => e = .returned (.int .u64 (gg:Int)) ∧ w' = w):=by rw [HGG.out];exact nNumber_any bb (off + 1) (c - 1) _ HL8.out w HR8.out
 rw [← HGR.out]
 clear hr hl hnh
 go_enter Tryz.func82,Tryz.ntmps82
 obtain ⟨tk0,tk1⟩:=sqk2
 go_wp2_with (first
  | (clear tk0;with_reducible refine wpSeq_cut (.tmp 4) (.const (.int .i64 1)) (.const (.int .i64 9)) bb off n c 1 8 1 9 rfl rfl (by decide) HN1.out.1 HNC.out ?_ ?_ ?_ ?_ ?_ ?_
     · rfl
     · rfl
     · rfl
     · rfl
     · rfl)
  | (clear tk1;go_at_call 83;refine (HNM.out).mono ?_;rintro e0 y0 ⟨rfl,rfl⟩)
  | fail)
 refine wp_region_held_drew (S:=Over (World.drew y0)) (by kernel_rfl) (Over.refl _) ?_
 intro hS
 have r64:Reads (World.drew y0) (.slice (some ⟨bb,off,none⟩) 64 c) (half.take 64):=HR64.out
 have HBW:Hid (Below y0.heap.size y0 (World.drew y0)):=(Below.refl _ _).drew
 have HSZ:Hid ((World.drew y0).heap.size = y0.heap.size):=rfl
 clear HR64 HR8 HNM
 obtain ⟨hfx,HFX⟩:=sqn (half.take 64)
 rw [← HFX.out] at r64 HGE
 change wpAnyH _ _ _ _ _ _ _ _ (World.drew y0)
 generalize World.drew y0 = y1 at *
 refine tkc 0 (.int .u64 (gg:Int)) rfl hS ?_
 simp only [Act.put,sq]
 by_cases h0:gg = 0
 · have hg0:gr = 0:=by rw [HGE.out,if_pos (Or.inl h0)]
   have q0:((gg:Int) == 0) = true:=by rw [h0];rfl
   subst hg0;refine tka 1 (.bool true) rfl (fun wx hx => by simp [go_sem,q0]) hS ?_
   simp only [Act.put,sq];refine tkc 2 (.bool true) rfl hS ?_;simp only [Act.put,sq];refine tkb 3 rfl hS ?_;simp only [Act.put,sq];refine tkb 4 rfl hS ?_;simp only [Act.put,sq];refine tkb 5 rfl hS ?_;simp only [Act.put,sq];refine tkb 6 rfl hS ?_;simp only [Act.put,sq];refine tkb 7 rfl hS ?_;simp only [Act.put,sq];refine tkb 8 rfl hS ?_;simp only [Act.put,sq];refine tkb 9 rfl hS ?_;simp only [Act.put,sq];refine tkc 10 (.bool true) rfl hS ?_;simp only [Act.put,sq];refine wpAnyH_done (by kernel_rfl) ?_ _
   go_wp2;go_ret;exact ⟨rfl,HBW.out⟩
 · have q0:((gg:Int) == 0) = false:=by rw [beq_eq_false_iff_ne];omega
   refine tka 1 (.bool false) rfl (fun wx hx => by simp [go_sem,q0]) hS ?_
   simp only [Act.put,sq];refine tkc 2 (.bool false) rfl hS ?_;simp only [Act.put,sq];refine tkc 3 (.slice (some ⟨bb,off,none⟩) n c) rfl hS ?_;simp only [Act.put,sq];refine tka 4 (.slice (some ⟨bb,off,none⟩) 64 c) rfl (fun wx hx => by exact cutTo bb off n c 64 HN1.out.2 HNC.out _ _ _ _ rfl rfl rfl _) hS ?_
   simp only [Act.put,sq];refine tka 5 (.string (strB hfx)) rfl (fun wx hx => by (have hc:=conv_reads (r64.below (Over.out hx));simp [go_sem,hc])) hS ?_
   simp only [Act.put,sq];refine tkc 6 (.int .u64 (gg:Int)) rfl hS ?_;simp only [Act.put,sq];refine wpAnyH_enter 7 (by kernel_rfl) rfl (by rfl) (f:=106) (args:=#[.int .u64 (gg:Int)]) (by simp [go_sem]) (nHead_any gg HG9.out _) ?_
   rintro e y2 ⟨v2,rfl,r2,hb⟩;obtain ⟨a2,n2,c2,rfl⟩:=r2.form;replace hS:=Over.more hS hb;refine ⟨_,rfl,hS,?_⟩;clear hb;simp only [Act.put,sq];obtain ⟨hh,HHH⟩:=sqn (headB gg);rw [← HHH.out] at r2 HGE;have hc:=conv_reads r2;have hs:=strB_inj hfx hh;refine wpAnyH_step 8 (.string (strB hh)) y2 (by kernel_rfl) rfl (by rfl) (by simp [go_sem,hc]) hS ?_
   simp only [Act.put,sq];have HBE:Hid (Below y0.heap.size y0 y2):=HBW.out.trans (Below.mono (Over.out hS) HBW.out.size)
   by_cases he:hfx = hh
   · have hg0:gr = gg:=by rw [HGE.out,if_neg (fun h => h.elim h0 (fun h => h he))]
     rw [decide_eq_true he] at hs;refine tka 9 (.bool false) rfl (fun wx hx => by simp [go_sem,hs]) hS ?_
     simp only [Act.put,sq];refine tkc 10 (.bool false) rfl hS ?_;simp only [Act.put,sq];refine wpAnyH_done (by kernel_rfl) ?_ _
     subst hg0;go_wp2;go_ret;exact ⟨rfl,HBE.out⟩
   · have hg0:gr = 0:=by rw [HGE.out,if_pos (Or.inr he)]
     rw [decide_eq_false he] at hs;refine tka 9 (.bool true) rfl (fun wx hx => by simp [go_sem,hs]) hS ?_
     simp only [Act.put,sq];refine tkc 10 (.bool true) rfl hS ?_;simp only [Act.put,sq];refine wpAnyH_done (by kernel_rfl) ?_ _
     subst hg0;go_wp2;go_ret;exact ⟨rfl,HBE.out⟩
theorem nPick_any (bb off c:Nat) (b:Bs) (hl:64 ≤ halfN b) (hl2:b.length < 4611686018427387904) (w:World) (hr:Reads w (.slice (some ⟨bb,off,none⟩) b.length c) b):Calls Tryz.prog 56 #[.slice (some ⟨bb,off,none⟩) b.length c] w fun e w' => e = .returned (.tuple #[.int .i64 ((pickB b).1:Int),.int .u64 ((pickB b).2:Int)]) ∧ Below w.heap.size w w':=by
 obtain ⟨L,HLL⟩:=sqn (b.length)
 have HH0:Hid (∀ W,Reads W (.slice (some ⟨bb,off,none⟩) L c) b → Calls Tryz.prog 58 #[.slice (some ⟨bb,off,none⟩) L c,.int .i64 0] W fun e w' => (∃ o c2,e = .returned (.slice (some ⟨bb,o,none⟩) (halfN b) c2) ∧ Reads W (.slice (some ⟨bb,o,none⟩) (halfN b) c2) (halfB b 0)) ∧ w' = W):=fun W h => by rw [HLL.out] at h ⊢;exact nHalf_any bb off c b 0 (by omega) hl hl2 W h
 have HH1:Hid (∀ W,Reads W (.slice (some ⟨bb,off,none⟩) L c) b → Calls Tryz.prog 58 #[.slice (some ⟨bb,off,none⟩) L c,.int .i64 1] W fun e w' => (∃ o c2,e = .returned (.slice (some ⟨bb,o,none⟩) (halfN b) c2) ∧ Reads W (.slice (some ⟨bb,o,none⟩) (halfN b) c2) (halfB b 1)) ∧ w' = W):=fun W h => by rw [HLL.out] at h ⊢;exact nHalf_any bb off c b 1 (by omega) hl hl2 W h
 rw [← HLL.out] at hr ⊢
 have HB:Hid (Reads w (.slice (some ⟨bb,off,none⟩) L c) b):=hr
 have H640:Hid (64 ≤ (halfB b 0).length):=by show _ ≤ _;rw [len_half (by omega)];exact hl
 have H641:Hid (64 ≤ (halfB b 1).length):=by show _ ≤ _;rw [len_half (by omega)];exact hl
 obtain ⟨x,HX⟩:=sqn (genH (halfB b 0))
 obtain ⟨y,HY⟩:=sqn (genH (halfB b 1))
 obtain ⟨H,HHN⟩:=sqn (halfN b)
 have HG0:Hid (∀ (W:World) (o c2:Nat),Reads W (.slice (some ⟨bb,o,none⟩) H c2) (halfB b 0) → Calls Tryz.prog 82 #[.slice (some ⟨bb,o,none⟩) H c2] W fun e w' => e = .returned (.int .u64 (x:Int)) ∧ Below W.heap.size W w'):=fun W o c2 h => by rw [HX.out];exact nGen_any bb o H c2 _ H640.out W h
 have HG1:Hid (∀ (W:World) (o c2:Nat),Reads W (.slice (some ⟨bb,o,none⟩) H c2) (halfB b 1) → Calls Tryz.prog 82 #[.slice (some ⟨bb,o,none⟩) H c2] W fun e w' => e = .returned (.int .u64 (y:Int)) ∧ Below W.heap.size W w'):=fun W o c2 h => by rw [HY.out];exact nGen_any bb o H c2 _ H641.out W h
 rw [← HHN.out] at HH0 HH1
 have HPK:Hid (pickB b = if x < y then (1,y) else (0,x)):=by show _ = _;rw [pickB,← HX.out,← HY.out]
 rw [HPK.out]
 have HBW:Hid (Below w.heap.size w w):=Below.refl _ _
 clear hr hl hl2
 by_cases hxy:x < y
 · have q1:(x:Int) < (y:Int):=by omega
   rw [if_pos hxy]
   go_enter Tryz.func56,Tryz.ntmps56
   obtain ⟨tk0,tk1,tk2,tk3⟩:=sqk4
   go_wp2_with (first
    | (clear tk0;go_at_call 58;refine (HH0.out _ HB.out).mono ?_;rintro e0 y0 ⟨⟨o0,c0,rfl,hr⟩,rfl⟩
       have HR0:Hid (Reads y0 (.slice (some ⟨bb,o0,none⟩) H c0) (halfB b 0)):=hr;clear hr)
    | (clear tk1;go_at_call 82;refine (HG0.out _ _ _ HR0.out).mono ?_;rintro e0 y1 ⟨rfl,hz⟩
       replace HB:Hid (Reads y1 (.slice (some ⟨bb,off,none⟩) L c) b):=HB.out.below hz;replace HBW:Hid (Below y0.heap.size y0 y1):=HBW.out.trans (hz.mono HBW.out.size);clear hz HR0)
    | (clear tk2;go_at_call 58;refine (HH1.out _ HB.out).mono ?_;rintro e0 y2 ⟨⟨o2,c2,rfl,hr⟩,rfl⟩
       have HR1:Hid (Reads y2 (.slice (some ⟨bb,o2,none⟩) H c2) (halfB b 1)):=hr;clear hr)
    | (clear tk3;go_at_call 82;refine (HG1.out _ _ _ HR1.out).mono ?_;rintro e0 y3 ⟨rfl,hz⟩
       replace HBW:Hid (Below y0.heap.size y0 y3):=HBW.out.trans (hz.mono HBW.out.size);clear hz HR1))
   refine bodyPost_ret (results_tmp2 rfl _ _ _) rfl ?_;exact ⟨rfl,HBW.out⟩
 · have q1:¬ ((x:Int) < (y:Int)):=by omega
   rw [if_neg hxy]
   go_enter Tryz.func56,Tryz.ntmps56
   obtain ⟨tk0,tk1,tk2,tk3⟩:=sqk4
   go_wp2_with (first
    | (clear tk0;go_at_call 58;refine (HH0.out _ HB.out).mono ?_;rintro e0 y0 ⟨⟨o0,c0,rfl,hr⟩,rfl⟩
       have HR0:Hid (Reads y0 (.slice (some ⟨bb,o0,none⟩) H c0) (halfB b 0)):=hr;clear hr)
    | (clear tk1;go_at_call 82;refine (HG0.out _ _ _ HR0.out).mono ?_;rintro e0 y1 ⟨rfl,hz⟩
       replace HB:Hid (Reads y1 (.slice (some ⟨bb,off,none⟩) L c) b):=HB.out.below hz;replace HBW:Hid (Below y0.heap.size y0 y1):=HBW.out.trans (hz.mono HBW.out.size);clear hz HR0)
    | (clear tk2;go_at_call 58;refine (HH1.out _ HB.out).mono ?_;rintro e0 y2 ⟨⟨o2,c2,rfl,hr⟩,rfl⟩
       have HR1:Hid (Reads y2 (.slice (some ⟨bb,o2,none⟩) H c2) (halfB b 1)):=hr;clear hr)
    | (clear tk3;go_at_call 82;refine (HG1.out _ _ _ HR1.out).mono ?_;rintro e0 y3 ⟨rfl,hz⟩
       replace HBW:Hid (Below y0.heap.size y0 y3):=HBW.out.trans (hz.mono HBW.out.size);clear hz HR1))
   refine bodyPost_ret (results_tmp2 rfl _ _ _) rfl ?_;exact ⟨rfl,HBW.out⟩
theorem wp_appendY {o:Oper} {a:Act} {w:World} {K:Act → World → Prop} {Q:Exit → Act → World → Prop} (s x:Operand) (base:Nat) (v vx:Value) (l news:List (BitVec 8))
 (hown:OwnB w base v l) (hr:Reads w vx news) (hpos:0 < news.length) (hlen:l.length + news.length ≤ 140737488355328) (hbase:base ≤ w.heap.size)
 (ho:o.op = .call { callee:=.builtin .append,args:=#[s,x],argTypes:=#[23,23] }) (hs:a.eval s = v) (hx:a.eval x = vx)
 (h:∀ v' w',OwnB w' base v' (l ++ news) → w.grownBy w' v.ownBlock → Below base w w' → K (a.put o.dst v') w'):o.wp Tryz.prog a w K Q:=by
 obtain ⟨i0,hi,hz0,hz1,hz2⟩:=info_parts Tryz.infob
 obtain ⟨ad,cap,rfl,hcap,hnn,hps⟩:=hr
 cases ad with
 | none => obtain ⟨b,off,h1,_⟩:=hps hpos;cases h1
 | some ad =>
  obtain ⟨v',w',hr,h2,h3,h4,h5⟩:=run_append_own_at (P:=Tryz.prog) w base 23 o.type 5 i0 (.int .u8 0) 1 1 Tryz.underlying23 hi hz0 hz1 hz2 rfl (by decide) v l.length (cb l) hown ad news.length cap (cb news) (by rw [cb_len];omega) (by
   intro j u hj;have hjl:j < news.length:=by have:=(List.getElem?_eq_some_iff.1 hj).1;rwa [cb_len] at this
   obtain ⟨b,off,h1,h2⟩:=hps (by omega)
   cases h1
   rw [Addr.add_mid,h2 j hjl,← hj,cb_get news j hjl]) (cb_one _) (by unfold maxLen;omega) (by omega) hbase
  unfold Oper.wp execOp
  simp only [ho,resolve,invoke,builtin,Sem.run_bind,Sem.run_pure,Result.andThen_ok,List.map_toArray,List.map_cons,List.map_nil,hs,hx,hr]
  refine h v' w' ?_ h3 ((Below.refl _ _).grown h3 hbase (fun k hk => hown.own k hk))
  have e:cb l ++ cb news = cb (l ++ news):=by simp [cb]
  rw [e] at h2
  unfold OwnB;rw [List.length_append];exact h2
theorem wpSeq_appY {ops:Array Oper} {Q:Exit → Act → World → Prop} {rest:List Oper} {o:Oper} {a:Act} {w:World} (s x:Operand) (base:Nat) (v vx:Value) (l news:List (BitVec 8))
 (hown:OwnB w base v l) (hr:Reads w vx news) (hpos:0 < news.length) (hlen:l.length + news.length ≤ 140737488355328) (hbase:base ≤ w.heap.size)
 (ho:o.op = .call { callee:=.builtin .append,args:=#[s,x],argTypes:=#[23,23] }) (hs:a.eval s = v) (hx:a.eval x = vx) (hgd:o.guard = none)
 (h:∀ v' w',OwnB w' base v' (l ++ news) → w.grownBy w' v.ownBlock → Below base w w' → wpList Tryz.prog ops Q rest (a.put o.dst v') w'):wpList Tryz.prog ops Q (o :: rest) a w:=
 wpList_plain hgd fun _ hK => wp_appendY s x base v vx l news hown hr hpos hlen hbase ho hs hx (fun v' w' h1 h2 h3 => hK _ _ (h v' w' h1 h2 h3))
theorem Tryz.infobsJ:(Tryz.prog.info? 23).map (fun i => (i.zero,i.size,i.bytes)) = some (some (.slice none 0 0),1,24):=by kernel_rfl
def OwnX (w:World) (base:Nat) (v:Value) (us:List Value):Prop:=w.ownsRow base 23 1 v us.length us
theorem OwnX.nil (w:World) (base:Nat):OwnX w base (.slice none 0 0) []:=World.ownsRow_nil _ _ _ _
theorem OwnX.lt {w:World} {base:Nat} {v:Value} {us:List Value} (h:OwnX w base v us):∀ k,v.ownBlock = some k → base ≤ k ∧ k < w.heap.size:=World.ownsRow.lt h
theorem OwnX.same {w w':World} {base:Nat} {v:Value} {us:List Value} (h:OwnX w base v us) (hs:∀ k,v.ownBlock = some k → w'.heap[k]? = w.heap[k]?):OwnX w' base v us:=by
 rcases h with ⟨h1,⟨rfl,h2⟩ | ⟨g,cap,cur,rfl,hg,hh,h3⟩⟩
 · exact ⟨h1,Or.inl ⟨rfl,h2⟩⟩
 · exact ⟨h1,Or.inr ⟨g,cap,cur,rfl,hg,by rw [hs g rfl];exact hh,h3⟩⟩
theorem OwnX.form {w:World} {base:Nat} {v:Value} {us:List Value} (h:OwnX w base v us):∃ a c,v = .slice a us.length c:=by
 rcases h with ⟨_,⟨rfl,h2⟩ | ⟨g',cap,cur,rfl,_⟩⟩
 · exact ⟨none,0,by rw [h2]⟩
 · exact ⟨_,_,rfl⟩
theorem OwnB.sameJ {w w':World} {base:Nat} {v:Value} {l:Bs} (h:OwnB w base v l) (hs:∀ k,v.ownBlock = some k → w'.heap[k]? = w.heap[k]?):OwnB w' base v l:=by
 rcases h with ⟨h1,⟨rfl,h2⟩ | ⟨g,cap,cur,rfl,hg,hh,h3⟩⟩
 · exact ⟨h1,Or.inl ⟨rfl,h2⟩⟩
 · exact ⟨h1,Or.inr ⟨g,cap,cur,rfl,hg,by rw [hs g rfl];exact hh,h3⟩⟩
theorem OwnB.ltJ {w:World} {base:Nat} {v:Value} {l:Bs} (h:OwnB w base v l):∀ k,v.ownBlock = some k → base ≤ k ∧ k < w.heap.size:=World.ownsRow.lt h
theorem OwnB.apartJ {w:World} {base:Nat} {v v2:Value} {l:Bs} {us:List Value} (h:OwnB w base v l) (h2:OwnX w base v2 us):∀ k,v.ownBlock = some k → some k ≠ v2.ownBlock:=fun k hk e => by
 rcases h with ⟨_,⟨rfl,_⟩ | ⟨g,cap,cur,rfl,_,hh,_⟩⟩
 · cases hk
 rcases h2 with ⟨_,⟨rfl,_⟩ | ⟨g2,cap2,cur2,rfl,_,hh2,_⟩⟩
 · cases e
 have e1:g = k:=by simpa [Value.ownBlock] using hk
 have e2:k = g2:=by simpa [Value.ownBlock] using e
 rw [e1,e2,hh2] at hh
 simp only [Option.some.injEq,Obj.cells.injEq] at hh
 exact absurd hh.2.1 (by decide)
structure TxJ (base:Nat) (v:Value) (us:List Value) (xs:List Bs) (W:World):Prop where
 own:OwnX W base v us
 len:us.length = xs.length
 good:∀ j u,us[j]? = some u → OwnB W base u (xs.getD j [])
 ge:base ≤ W.heap.size
theorem TxJ.nil {base:Nat} {W:World} (h:base ≤ W.heap.size):TxJ base (.slice none 0 0) [] [] W:=⟨OwnX.nil _ _,rfl,fun j u hj => by simp at hj,h⟩
theorem TxJ.next {base:Nat} {v:Value} {us:List Value} {xs:List Bs} {W W':World} (h:TxJ base v us xs W) (hb:Below W.heap.size W W'):TxJ base v us xs W':=
 ⟨h.own.same fun k hk => hb.block k (h.own.lt k hk).2,h.len,fun j u hj => (h.good j u hj).sameJ fun k hk => hb.block k ((h.good j u hj).ltJ k hk).2,Nat.le_trans h.ge hb.size⟩
theorem TxJ.readsL {base:Nat} {v:Value} {us:List Value} {xs:List Bs} {W:World} (h:TxJ base v us xs W):ReadsL W v xs:=by
 obtain ⟨h1,h2⟩:=id h.own
 rcases h2 with ⟨rfl,h0⟩ | ⟨g,cap,cur,rfl,hg,hh,hc,hm,hs,ht⟩
 · have:xs = []:=List.eq_nil_of_length_eq_zero (by rw [← h.len];exact h0)
   subst this;exact ⟨none,0,rfl,Nat.le_refl _,fun _ => rfl,fun hp => by simp at hp⟩
 · refine ⟨_,cap,by rw [h.len],by rw [← h.len];exact hc,(fun e => by cases e),fun _ => ⟨g,0,rfl,fun j hj => ?_⟩⟩
   have hj2:j < us.length:=by rw [h.len];exact hj
   refine ⟨us[j],?_,(h.good j _ (List.getElem?_eq_getElem hj2)).reads⟩;rw [cell_of_row W g (0 + j) cur _ (0,0) hh,Nat.zero_add];rw [Nat.mul_one] at ht;have:=List.getElem?_eq_getElem hj2
   conv at this => lhs;rw [← ht]
   rw [List.getElem?_take_of_lt hj2] at this
   simpa using this
theorem TxJ.grow {base:Nat} {v v2 u:Value} {us:List Value} {xs:List Bs} {t:Bs} {W W6:World} (h:TxJ base v us xs W) (hu:OwnB W base u t) (hown6:OwnX W6 base v2 (us ++ [u])) (hgrow:(W.alloc (.cells #[u] 23)).grownBy W6 v.ownBlock) :
 TxJ base v2 (us ++ [u]) (xs ++ [t]) W6 ∧ Below base W W6:=by
 have b45:Below base W (W.alloc (.cells #[u] 23)):=(below_alloc W _).mono h.ge
 have b56:Below base (W.alloc (.cells #[u] 23)) W6:=(Below.refl _ _).grown hgrow (Nat.le_trans h.ge b45.size) (fun k hk => (h.own.lt k hk).1)
 have b46:=b45.trans b56
 have up:∀ x t,OwnB W base x t → OwnB W6 base x t:=fun x t hx => by
  have hne:=hx.apartJ h.own
  refine hx.sameJ (fun k hk => ?_)
  have h2:=(hx.ltJ k hk).2
  rw [hgrow.block k (by simp;omega) (hne k hk),Go.RowKit.Below.heap_alloc W _ k h2]
 refine ⟨⟨hown6,by rw [List.length_append,List.length_append,h.len];rfl,fun j x hj => ?_,Nat.le_trans h.ge b46.size⟩,b46⟩
 by_cases hjl:j < us.length
 · rw [List.getElem?_append_left hjl] at hj
   have h1:=h.good j x hj
   have h2:(xs ++ [t]).getD j [] = xs.getD j []:=by
    rw [List.getD_eq_getElem?_getD,List.getD_eq_getElem?_getD,List.getElem?_append_left (by rw [← h.len];exact hjl)]
   rw [h2];exact up _ _ h1
 · rw [List.getElem?_append_right (by omega)] at hj
   have hj0:j = us.length:=by
    have:=(List.getElem?_eq_some_iff.1 hj).1;simp at this;omega
   subst hj0;simp at hj;subst hj
   have h2:(xs ++ [t]).getD us.length [] = t:=by
    rw [List.getD_eq_getElem?_getD,h.len,List.getElem?_append_right (Nat.le_refl _),Nat.sub_self]
    rfl
   rw [h2];exact up _ _ hu
theorem wpSeq_appX {ops:Array Oper} {Q:Exit → Act → World → Prop} {rest:List Oper} {o:Oper} {a:Act} {w:World} (s x:Operand) (base:Nat) (v u:Value) (us:List Value) (g:Nat)
 (hown:OwnX w base v us) (hu:w.cell? ⟨g,0,none⟩ = some u) (h1:u.oneCell' = true) (hl:us.length < 1000000) (hbase:base ≤ w.heap.size)
 (ho:o.op = .call { callee:=.builtin .append,args:=#[s,x],argTypes:=#[41,41] }) (hs:a.eval s = v) (hx:a.eval x = .slice (some ⟨g,0,none⟩) 1 1) (hgd:o.guard = none)
 (h:∀ v' w',OwnX w' base v' (us ++ [u]) → w.grownBy w' v.ownBlock → wpList Tryz.prog ops Q rest (a.put o.dst v') w'):wpList Tryz.prog ops Q (o :: rest) a w:=by
 obtain ⟨i0,hi,hz0,hz1,hz2⟩:=info_parts Tryz.infobsJ
 refine wpList_append_own_at w hgd s x 41 ho base 23 i0 (.slice none 0 0) 1 24 Tryz.underlying41 hi hz0 hz1 hz2 rfl (by decide) v us.length us hs hown ⟨g,0,none⟩ 1 1 [u] hx rfl ?_ ?_ (by unfold maxLen;omega) (by omega) hbase ?_
 · intro j u' hj
   match j,hj with
   | 0,hj => simp at hj;subst hj;simpa [Addr.add] using hu
 · intro u' hu';simp at hu';subst hu';exact h1
 · intro v' w' h2 h3 _ h5
   exact h v' w' (by unfold OwnX;rw [List.length_append];exact h2) h3
theorem build_x1 (f:Operand → Value) (o:Oper) (x:Operand) (a0:Option Addr) (n0 c0:Nat) (hx:f x = .slice a0 n0 c0) (ho:o.op = .buildSlice 41 1 #[(0,x)]) (w:World):(execOp f o).run Tryz.prog w = .ok (.value (.slice (some ⟨w.heap.size,0,none⟩) 1 1)) (w.alloc (.cells #[Value.slice a0 n0 c0] 23)):=by
 unfold execOp
 rw [ho]
 simp only [List.map_toArray,List.map_cons,List.map_nil,hx]
 kernel_rfl
theorem wpSeq_buildX {ops:Array Oper} {Q:Exit → Act → World → Prop} {rest:List Oper} {o:Oper} {a:Act} {w:World} (x:Operand) (a0:Option Addr) (n0 c0:Nat) (hx:a.eval x = .slice a0 n0 c0) (ho:o.op = .buildSlice 41 1 #[(0,x)]) (hw:Region.wanted o (yielded ops a.tmps) = true)
 (h:∀ g w',g = w.heap.size → w' = w.alloc (.cells #[Value.slice a0 n0 c0] 23) → wpList Tryz.prog ops Q rest (a.put o.dst (.slice (some ⟨g,0,none⟩) 1 1)) w'):wpList Tryz.prog ops Q (o :: rest) a w:=
 wpSeq_val _ _ hw (build_x1 _ _ x a0 n0 c0 hx ho w) (h _ _ rfl rfl)
theorem cutMid (b off n c l m:Nat) (hm:0 < m) (hn:l + m ≤ n) (hc:n ≤ c) (L H:Int) (hL:L = (l:Int)) (hH:H = ((l + m:Nat):Int)) (f:Operand → Value) (o:Oper) (x lo hi:Operand) (ho:o.op = .slice 23 x (some lo) (some hi) none) (hx:f x = .slice (some ⟨b,off,none⟩) n c) (hlo:f lo = .int .i64 L) (hhi:f hi = .int .i64 H) (w:World) :
 (execOp f o).run Tryz.prog w = .ok (.value (.slice (some ⟨b,off + l,none⟩) m (c - l))) w:=by
 subst hL hH
 unfold execOp
 rw [ho]
 simp only [hx,hlo,hhi,Option.map_some,Option.map_none,Sem.run_bind,cut_run b off n c l m hm hn hc w]
 rfl
theorem uJ {a:Nat} (h:a < 4611686018427387904):IntKind.u64.wrap (a:Int) = (a:Int):=by rw [IntKind.wrap_u64];omega
theorem iJ {a:Nat} (h:a < 4611686018427387904):IntKind.i64.wrap (a:Int) = (a:Int):=by rw [IntKind.wrap_i64];omega
theorem sJ {a b c:Nat} (h:a = b + c) (ha:a < 4611686018427387904):IntKind.i64.wrap ((a:Int) - (b:Int)) = (c:Int):=by rw [IntKind.wrap_i64];omega
theorem recs_zero {gen:Nat} {half:Bs} {f p k:Nat} (h:¬ p + 64 ≤ half.length):recsL gen half f p k = ([],p):=by
 cases f with
 | zero => rfl
 | succ f => rw [recsL,if_neg h]
theorem nRecords_any (gen:Nat) (hg:gen < 18446744073709551616) (bb off H c:Nat) (half:Bs) (hl:64 ≤ half.length) (hl2:half.length < 60000000) (w:World) (hr:Reads w (.slice (some ⟨bb,off,none⟩) H c) half):Calls Tryz.prog 57 #[.int .u64 (gen:Int),.slice (some ⟨bb,off,none⟩) H c] w fun e w' => ∃ v,e = .returned (.tuple #[v,.int .i64 ((recsOf gen half).2:Int)]) ∧ ReadsL w' v (recsOf gen half).1 ∧ Below w.heap.size w w':=by
 have hnh:H = half.length:=by obtain ⟨_,cp,hv,_⟩:=hr;simp only [Value.slice.injEq] at hv;exact hv.2.1
 have HNC:Hid (H ≤ c):=by obtain ⟨_,cp,hv,hc,_⟩:=hr;simp only [Value.slice.injEq] at hv;show _ ≤ _;rw [hnh,hv.2.2];exact hc
 have HHL:Hid (H = half.length):=hnh
 have HB8:Hid (64 ≤ H ∧ H < 60000000):=⟨by omega,by omega⟩
 have HG:Hid (gen < 18446744073709551616):=hg
 have HR:Hid (Reads w (.slice (some ⟨bb,off,none⟩) H c) half):=hr
 have HRE0:Hid (recsOf gen half = ([] ++ (recsL gen half (H / 64) 64 ([]:List Bs).length).1,(recsL gen half (H / 64) 64 ([]:List Bs).length).2)):=by show _ = _;rw [recsOf,← hnh];rfl
 have HTX0:Hid (TxJ w.heap.size (.slice none 0 0) [] [] w):=TxJ.nil (Nat.le_refl _)
 clear hr hl hl2 hnh hg
 go_enter Tryz.func57,Tryz.ntmps57
 go_wp2
 go_loopw [6,7] (fun lv i wr => ∃ (xa:Option Addr) (kn xc:Nat) (us:List Value) (xs:List Bs) (p f:Nat),kn = xs.length ∧ lv = .slice xa kn xc ∧ i = .int .i64 (p:Int) ∧ p = 64 + sizeL xs ∧ p ≤ H ∧ f + kn = H / 64 ∧ Hid (TxJ w.heap.size (.slice xa kn xc) us xs wr) ∧ Hid (recsOf gen half = (xs ++ (recsL gen half f p kn).1,(recsL gen half f p kn).2)) ∧ Hid (Below w.heap.size w wr)) (fun _ i _ => H - (intOf i).toNat)
 case atStart => exact ⟨none,0,0,[],[],64,H / 64,rfl,rfl,rfl,rfl,HB8.out.1,rfl,HTX0,HRE0,Below.refl _ _⟩
 case round =>
  obtain ⟨xa,kn,xc,us,xs,p,f,hkn,rfl,rfl,hp,hpH,hfk,HTX,HRE,HBB⟩:=hrel
  have HKN:Hid (kn = xs.length):=hkn
  have HPP:Hid (p = 64 + sizeL xs ∧ p ≤ H ∧ f + kn = H / 64):=⟨hp,hpH,hfk⟩
  clear hkn hp hpH hfk HRE0 HTX0
  obtain ⟨p64,HP64⟩:=sqn (p + 64)
  have hb8:=HB8.out
  have hpp:=HPP.out.2.1
  have f1:IntKind.i64.wrap ((p:Int) + 64) = (p64:Int):=aJ HP64.out (by have:=HP64.out;omega)
  by_cases h1:p64 ≤ H
  case neg =>
   have q1:¬ ((p64:Int) ≤ (H:Int)):=by omega
   have HZ:Hid (recsL gen half f p kn = ([],p)):=recs_zero (by rw [← HHL.out,← HP64.out];exact h1)
   clear hb8 hpp;go_wp2;have HRF:recsOf gen half = (xs,p):=by rw [HRE.out,HZ.out,List.append_nil]
   rw [HRF];refine bodyPost_ret (results_tmp2 rfl _ _ _) rfl ?_;exact ⟨_,rfl,HTX.out.readsL,HBB.out⟩
  case pos =>
   have q1:(p64:Int) ≤ (H:Int):=by omega
   obtain ⟨f',rfl⟩:∃ f',f = f' + 1:=by
    cases f with
    | zero =>
     exfalso
     have h5:=HPP.out;have h6:=sizeL_ge xs;have h7:=HKN.out;have h8:=HP64.out;omega
    | succ f => exact ⟨f,rfl⟩
   obtain ⟨p49,HP49⟩:=sqn (p + 49);obtain ⟨p57,HP57⟩:=sqn (p + 57);have f2:IntKind.i64.wrap ((p:Int) + 49) = (p49:Int):=aJ HP49.out (by have:=HP49.out;omega)
   have f3:IntKind.i64.wrap ((p:Int) + 57) = (p57:Int):=aJ HP57.out (by have:=HP57.out;omega)
   have hp64:=HP64.out;have HL8:Hid (((half.drop (p + 49)).take 8).length = 8):=by show _ = _;rw [List.length_take,List.length_drop,← HHL.out];omega
   obtain ⟨n,HNN⟩:=sqn (rdNum ((half.drop (p + 49)).take 8))
   have HNM:Hid (Calls Tryz.prog 83 #[.slice (some ⟨bb,off + p49,none⟩) 8 (c - p49)] wr fun e w' => e = .returned (.int .u64 (n:Int)) ∧ w' = wr):=by
    rw [HNN.out];refine nNumber_any bb (off + p49) (c - p49) _ HL8.out wr ?_;have h9:=(HR.out.below HBB.out).cutJ (p + 49) 8 (c - p49) (by rw [← HHL.out];omega) (by have:=HNC.out;have:=HP49.out;omega)
    rw [HP49.out] at h9 ⊢;exact h9
   have HC1:Hid (0 < 8 ∧ p49 + 8 ≤ H ∧ (p57:Int) = ((p49 + 8:Nat):Int)):=by have h1:=HP49.out;have h2:=HP57.out;exact ⟨by decide,by omega,by omega⟩
   obtain ⟨hq,HHQ⟩:=sqn (H - p);obtain ⟨hq2,HHQ2⟩:=sqn (hq - 57);have hhq:=HHQ.out;have hhq2:=HHQ2.out;have f4:IntKind.i64.wrap ((H:Int) - (p:Int)) = (hq:Int):=sJ (by omega) (by omega)
   have f5:IntKind.i64.wrap ((hq:Int) - 57) = (hq2:Int):=sJ (b:=57) (by omega) (by omega)
   have f6:IntKind.u64.wrap (hq2:Int) = (hq2:Int):=uJ (by omega)
   by_cases h2:n = 0 ∨ hq2 < n
   · have HZ:Hid (recsL gen half (f' + 1) p kn = ([],p)):=by
      show _ = _;rw [recsL,if_pos (by rw [← HHL.out];omega),← HNN.out,if_pos (by rw [← HHL.out];omega)]
     clear hb8 hpp hp64 hhq hhq2
     by_cases hn0:n = 0
     · subst hn0
       obtain ⟨tk0,tk1⟩:=sqk2
       go_wp2_with (first
        | (clear tk0;with_reducible refine wpSeq_cut (.tmp 17) (.tmp 19) (.tmp 21) bb off H c p49 8 (p49:Int) (p57:Int) rfl HC1.out.2.2 HC1.out.1 HC1.out.2.1 HNC.out ?_ ?_ ?_ ?_ ?_ ?_
           · rfl
           · rfl
           · rfl
           · rfl
           · rfl)
        | (clear tk1;go_at_call 83;refine (HNM.out).mono ?_;rintro e0 y0 ⟨rfl,hy0⟩;subst hy0))
       have HRF:recsOf gen half = (xs,p):=by rw [HRE.out,HZ.out,List.append_nil]
       rw [HRF];refine bodyPost_ret (results_tmp2 rfl _ _ _) rfl ?_;exact ⟨_,rfl,HTX.out.readsL,HBB.out⟩
     · have q2:((n:Int) == 0) = false:=by rw [beq_eq_false_iff_ne];omega
       have q3:(hq2:Int) < (n:Int):=by omega
       obtain ⟨tk0,tk1⟩:=sqk2
       go_wp2_with (first
        | (clear tk0;with_reducible refine wpSeq_cut (.tmp 17) (.tmp 19) (.tmp 21) bb off H c p49 8 (p49:Int) (p57:Int) rfl HC1.out.2.2 HC1.out.1 HC1.out.2.1 HNC.out ?_ ?_ ?_ ?_ ?_ ?_
           · rfl
           · rfl
           · rfl
           · rfl
           · rfl)
        | (clear tk1;go_at_call 83;refine (HNM.out).mono ?_;rintro e0 y0 ⟨rfl,hy0⟩;subst hy0))
       have HRF:recsOf gen half = (xs,p):=by rw [HRE.out,HZ.out,List.append_nil]
       rw [HRF];refine bodyPost_ret (results_tmp2 rfl _ _ _) rfl ?_;exact ⟨_,rfl,HTX.out.readsL,HBB.out⟩
   · have q2:((n:Int) == 0) = false:=by rw [beq_eq_false_iff_ne];omega
     have q3:¬ ((hq2:Int) < (n:Int)):=by omega
     have hnp:0 < n:=by omega
     have f7:IntKind.i64.wrap (n:Int) = (n:Int):=iJ (by omega)
     obtain ⟨pn,HPN⟩:=sqn (p57 + n);have hp57:=HP57.out;have f8:IntKind.i64.wrap ((p57:Int) + (n:Int)) = (pn:Int):=aJ HPN.out (by have:=HPN.out;omega)
     have f9:IntKind.u64.wrap (kn:Int) = (kn:Int):=uJ (by have:=HPP.out.2.2;omega)
     have HC2:Hid (0 < n ∧ p57 + n ≤ H ∧ (pn:Int) = ((p57 + n:Nat):Int)):=by have:=HPN.out;exact ⟨hnp,by omega,by omega⟩
     obtain ⟨x,HXX⟩:=sqn ((half.drop (p + 57)).take n);have HXL:Hid (x.length = n):=by show _ = _;rw [HXX.out,List.length_take,List.length_drop,← HHL.out];omega
     have HXR:Hid (Reads wr (.slice (some ⟨bb,off + p57,none⟩) n (c - p57)) x):=by
      have h9:=(HR.out.below HBB.out).cutJ (p + 57) n (c - p57) (by rw [← HHL.out];omega) (by have:=HNC.out;have:=HP57.out;omega)
      rw [HXX.out];rw [HP57.out] at h9 ⊢;exact h9
     have HRC:Hid (Calls Tryz.prog 84 #[.int .u64 (gen:Int),.int .u64 (kn:Int),.slice (some ⟨bb,off + p57,none⟩) n (c - p57)] wr fun e w' => ∃ v',e = .returned v' ∧ Reads w' v' (recB gen kn x) ∧ Below wr.heap.size wr w'):=nRecord_any gen kn HG.out (by have:=HPP.out.2.2;omega) _ x (by rw [HXL.out];omega) wr HXR.out
     obtain ⟨rc,HRR⟩:=sqn (recB gen kn x);obtain ⟨rl,HRL⟩:=sqn (rc.length);have HRLE:Hid (rl = 64 * secR n):=by show _ = _;rw [HRL.out,HRR.out,len_recB,HXL.out]
     have HRLB:Hid (0 < rl ∧ rl < 160000000):=by have h1:=HRLE.out;unfold secR at h1;exact ⟨by omega,by omega⟩
     rw [← HRR.out] at HRC;obtain ⟨pr,HPR⟩:=sqn (p + rl);have f10:IntKind.i64.wrap ((p:Int) + (rl:Int)) = (pr:Int):=aJ HPR.out (by have h1:=HPR.out;have h2:=HRLB.out;omega)
     have hz9:recsL gen half (f' + 1) p kn = if half.length < p + rl ∨ (half.drop p).take rl ≠ rc then ([],p) else (x :: (recsL gen half f' (p + rl) (kn + 1)).1,(recsL gen half f' (p + rl) (kn + 1)).2):=by
      rw [recsL,if_pos (by rw [← HHL.out];omega),← HNN.out,if_neg (by rw [← HHL.out];omega),← HXX.out,← HRR.out,← HRL.out]
     have HZ9:Hid (recsL gen half (f' + 1) p kn = if H < pr ∨ (half.drop p).take rl ≠ rc then ([],p) else (x :: (recsL gen half f' pr (kn + 1)).1,(recsL gen half f' pr (kn + 1)).2)):=by rw [HHL.out,HPR.out];exact hz9
     clear hz9 hb8 hp64 hhq hhq2 hp57 hnp h2;obtain ⟨tk0,tk1,tk2,tk3⟩:=sqk4
     go_wp2_with (first
      | (clear tk0;with_reducible refine wpSeq_cut (.tmp 17) (.tmp 19) (.tmp 21) bb off H c p49 8 (p49:Int) (p57:Int) rfl HC1.out.2.2 HC1.out.1 HC1.out.2.1 HNC.out ?_ ?_ ?_ ?_ ?_ ?_
         · rfl
         · rfl
         · rfl
         · rfl
         · rfl)
      | (clear tk1;go_at_call 83;refine (HNM.out).mono ?_;rintro e0 y0 ⟨rfl,hy0⟩;subst hy0)
      | (clear tk2;with_reducible refine wpSeq_cut (.tmp 36) (.tmp 38) (.tmp 43) bb off H c p57 n (p57:Int) (pn:Int) rfl HC2.out.2.2 HC2.out.1 HC2.out.2.1 HNC.out ?_ ?_ ?_ ?_ ?_ ?_
         · rfl
         · rfl
         · rfl
         · rfl
         · rfl)
      | (clear tk3;go_at_call 84;refine (HRC.out).mono ?_;rintro e0 y2 ⟨v2,rfl,hr2,hz⟩
         obtain ⟨a2,c2,hv⟩:∃ ad c,v2 = .slice ad rl c:=by obtain ⟨a,c,hv,_⟩:=hr2;rw [← HRL.out] at hv;exact ⟨a,c,hv⟩
         subst hv;have HR2:Hid (Reads y2 (.slice a2 rl c2) rc):=hr2;replace HTX:Hid (TxJ w.heap.size (.slice xa kn xc) us xs y2):=HTX.out.next hz;replace HXR:Hid (Reads y2 (.slice (some ⟨bb,off + p57,none⟩) n (c - p57)) x):=HXR.out.below hz;replace HBB:=sqt HBB hz;clear hr2 hz HNM HRC)
      | fail)
     refine wp_region_held_drew (S:=Over (World.drew y2)) (by kernel_rfl) (Over.refl _) ?_
     intro hS;replace HR2:Hid (Reads (World.drew y2) (.slice a2 rl c2) rc):=HR2.out;replace HTX:Hid (TxJ w.heap.size (.slice xa kn xc) us xs (World.drew y2)):=⟨HTX.out.own,HTX.out.len,HTX.out.good,HTX.out.ge⟩;replace HXR:Hid (Reads (World.drew y2) (.slice (some ⟨bb,off + p57,none⟩) n (c - p57)) x):=HXR.out;replace HBB:Hid (Below w.heap.size w (World.drew y2)):=HBB.out.drew
     change wpAnyH _ _ _ _ _ _ _ _ (World.drew y2)
     generalize World.drew y2 = y3 at *
     refine tkc 0 (.int .i64 (p:Int)) rfl hS ?_;simp only [Act.put,sq];refine tkc 1 (.slice a2 rl c2) rfl hS ?_;simp only [Act.put,sq];refine tkc 2 (.int .i64 (rl:Int)) rfl hS ?_;simp only [Act.put,sq];refine tka 3 (.int .i64 (pr:Int)) rfl (fun wx hx => by simp [go_sem,f10]) hS ?_
     simp only [Act.put,sq];refine tkc 4 (.slice (some ⟨bb,off,none⟩) H c) rfl hS ?_;simp only [Act.put,sq];refine tkc 5 (.int .i64 (H:Int)) rfl hS ?_;simp only [Act.put,sq]
     by_cases h3:H < pr
     · have q4:(H:Int) < (pr:Int):=by omega
       have HZ:Hid (recsL gen half (f' + 1) p kn = ([],p)):=by show _ = _;rw [HZ9.out,if_pos (Or.inl h3)]
       refine tka 6 (.bool true) rfl (fun wx hx => by simp [go_sem,q4]) hS ?_
       simp only [Act.put,sq];refine tkc 7 (.bool true) rfl hS ?_;simp only [Act.put,sq];refine tkb 8 rfl hS ?_;simp only [Act.put,sq];refine tkb 9 rfl hS ?_;simp only [Act.put,sq];refine tkb 10 rfl hS ?_;simp only [Act.put,sq];refine tkb 11 rfl hS ?_;simp only [Act.put,sq];refine tkb 12 rfl hS ?_;simp only [Act.put,sq];refine tkb 13 rfl hS ?_;simp only [Act.put,sq];refine tkb 14 rfl hS ?_;simp only [Act.put,sq];refine tkb 15 rfl hS ?_;simp only [Act.put,sq];refine tkb 16 rfl hS ?_;simp only [Act.put,sq];refine tkb 17 rfl hS ?_;simp only [Act.put,sq];refine tkb 18 rfl hS ?_;simp only [Act.put,sq];refine tkc 19 (.bool true) rfl hS ?_;simp only [Act.put,sq];refine wpAnyH_done (by kernel_rfl) ?_ _
       clear hS;go_wp2;have HRF:recsOf gen half = (xs,p):=by rw [HRE.out,HZ.out,List.append_nil]
       rw [HRF];refine bodyPost_ret (results_tmp2 rfl _ _ _) rfl ?_;exact ⟨_,rfl,HTX.out.readsL,HBB.out⟩
     · have q4:¬ ((H:Int) < (pr:Int)):=by omega
       have HC3:Hid (0 < rl ∧ p + rl ≤ H ∧ (pr:Int) = ((p + rl:Nat):Int)):=by have h1:=HPR.out;have h2:=HRLB.out;exact ⟨h2.1,by omega,by omega⟩
       obtain ⟨z,HZZ⟩:=sqn ((half.drop p).take rl)
       have HZR:Hid (Reads y3 (.slice (some ⟨bb,off + p,none⟩) rl (c - p)) z):=by
        rw [HZZ.out];exact (HR.out.below HBB.out).cutJ p rl (c - p) (by rw [← HHL.out];exact HC3.out.2.1) (by have h1:=HNC.out;have h2:=HC3.out.2.1;omega)
       have hs:=strB_inj z rc;refine tka 6 (.bool false) rfl (fun wx hx => by simp [go_sem,q4]) hS ?_
       simp only [Act.put,sq];refine tkc 7 (.bool false) rfl hS ?_;simp only [Act.put,sq];refine tkc 8 (.slice (some ⟨bb,off,none⟩) H c) rfl hS ?_;simp only [Act.put,sq];refine tkc 9 (.int .i64 (p:Int)) rfl hS ?_;simp only [Act.put,sq];refine tkc 10 (.int .i64 (p:Int)) rfl hS ?_;simp only [Act.put,sq];refine tkc 11 (.slice a2 rl c2) rfl hS ?_;simp only [Act.put,sq];refine tkc 12 (.int .i64 (rl:Int)) rfl hS ?_;simp only [Act.put,sq];refine tka 13 (.int .i64 (pr:Int)) rfl (fun wx hx => by simp [go_sem,f10]) hS ?_
       simp only [Act.put,sq];refine tka 14 (.slice (some ⟨bb,off + p,none⟩) rl (c - p)) rfl (fun wx hx => by exact cutMid bb off H c p rl HC3.out.1 HC3.out.2.1 HNC.out (p:Int) (pr:Int) rfl HC3.out.2.2 _ _ _ _ _ rfl rfl rfl rfl _) hS ?_
       simp only [Act.put,sq];refine tka 15 (.string (strB z)) rfl (fun wx hx => by (have hc:=conv_reads (HZR.out.below (Over.out hx));simp [go_sem,hc])) hS ?_
       simp only [Act.put,sq];refine tkc 16 (.slice a2 rl c2) rfl hS ?_;simp only [Act.put,sq];refine tka 17 (.string (strB rc)) rfl (fun wx hx => by (have hc:=conv_reads (HR2.out.below (Over.out hx));simp [go_sem,hc])) hS ?_
       simp only [Act.put,sq]
       by_cases he:z = rc
       case neg =>
        have HZ:Hid (recsL gen half (f' + 1) p kn = ([],p)):=by show _ = _;rw [HZ9.out,if_pos (Or.inr (by rw [← HZZ.out];exact he))]
        rw [decide_eq_false he] at hs;refine tka 18 (.bool true) rfl (fun wx hx => by simp [go_sem,hs]) hS ?_
        simp only [Act.put,sq];refine tkc 19 (.bool true) rfl hS ?_;simp only [Act.put,sq];refine wpAnyH_done (by kernel_rfl) ?_ _
        clear hS;go_wp2;have HRF:recsOf gen half = (xs,p):=by rw [HRE.out,HZ.out,List.append_nil]
        rw [HRF];refine bodyPost_ret (results_tmp2 rfl _ _ _) rfl ?_;exact ⟨_,rfl,HTX.out.readsL,HBB.out⟩
       case pos =>
        have HRE2:Hid (recsOf gen half = ((xs ++ [x]) ++ (recsL gen half f' pr (kn + 1)).1,(recsL gen half f' pr (kn + 1)).2)):=by
         show _ = _;rw [HRE.out,HZ9.out,if_neg (fun h => h.elim h3 (fun h => h (by rw [← HZZ.out];exact he)))]
         simp
        rw [decide_eq_true he] at hs;refine tka 18 (.bool false) rfl (fun wx hx => by simp [go_sem,hs]) hS ?_
        simp only [Act.put,sq];refine tkc 19 (.bool false) rfl hS ?_;simp only [Act.put,sq];refine wpAnyH_done (by kernel_rfl) ?_ _
        clear hS;have HXP:Hid (0 < x.length ∧ ([]:Bs).length + x.length ≤ 140737488355328):=by rw [HXL.out];exact ⟨HC2.out.1,by show 0 + n ≤ _;have h1:=HC2.out.2.1;have h2:=HB8.out.2;omega⟩
        have HUL:Hid (us.length < 1000000):=by show _ < _;rw [HTX.out.len,← HKN.out];have h1:=HPP.out.2.2;have h2:=HB8.out.2;omega
        obtain ⟨tk4,tk5,tk6⟩:=sqk3
        go_wp2_with (first
         | (clear tk4;at_builtin;with_reducible refine wpSeq_appY (.tmp 72) (.tmp 73) w.heap.size (.slice none 0 0) (.slice (some ⟨bb,off + p57,none⟩) n (c - p57)) [] x (OwnB.nil _ _) HXR.out HXP.out.1 HXP.out.2 HBB.out.size ?_ ?_ ?_ ?_ ?_
            · rfl
            · rfl
            · rfl
            · rfl
            intro v5 y5 hown hgr hbz;rw [List.nil_append] at hown;obtain ⟨a5,n5,c5,hv⟩:=hown.reads.form;subst hv;have HO5:Hid (OwnB y5 w.heap.size (.slice a5 n5 c5) x):=hown;have hb5:Below y3.heap.size y3 y5:=⟨hgr.os,hgr.tape,hgr.output,hgr.size,fun k hk => hgr.block k hk (fun e => by cases e)⟩
            replace HTX:Hid (TxJ w.heap.size (.slice xa kn xc) us xs y5):=HTX.out.next hb5;replace HBB:=sqt HBB hb5;clear hown hgr hbz hb5 HXR HR2 HZR)
         | (clear tk5;with_reducible refine wpSeq_buildX (.tmp 74) a5 n5 c5 ?_ ?_ ?_ ?_
            · rfl
            · rfl
            · rfl
            intro g6 y6 hg6 hy6;have HG6:Hid (g6 = y5.heap.size ∧ y6 = y5.alloc (.cells #[Value.slice a5 n5 c5] 23)):=⟨hg6,hy6⟩;have HB6:Hid (Below y5.heap.size y5 y6):=by rw [hy6];exact below_alloc _ _
            have HC6:Hid (y6.cell? ⟨g6,0,none⟩ = some (.slice a5 n5 c5)):=by
             have h9:Blk y6 g6 [.slice a5 n5 c5] 23:=by rw [hg6,hy6];exact Blk.new _ _ _
             exact h9.cell 0
            have HX6:Hid (OwnX y6 w.heap.size (.slice xa kn xc) us):=(HTX.out.next HB6.out).own;have HZ6:Hid (w.heap.size ≤ y6.heap.size):=Nat.le_trans HBB.out.size HB6.out.size;clear hg6 hy6)
         | (clear tk6;at_builtin;with_reducible refine wpSeq_appX (.tmp 71) (.tmp 75) w.heap.size (.slice xa kn xc) (.slice a5 n5 c5) us g6 HX6.out HC6.out rfl HUL.out HZ6.out ?_ ?_ ?_ ?_ ?_
            · rfl
            · rfl
            · rfl
            · rfl
            intro v7 y7 hown hgr;rw [HG6.out.2] at hgr;have hgg:=HTX.out.grow HO5.out hown hgr;obtain ⟨a7,c7,hv⟩:=hown.form;obtain ⟨k7,HK7⟩:=sqn ((us ++ [Value.slice a5 n5 c5]).length);rw [← HK7.out] at hv;subst hv;have HTX7:Hid (TxJ w.heap.size (.slice a7 k7 c7) (us ++ [.slice a5 n5 c5]) (xs ++ [x]) y7):=hgg.1;have HBB7:Hid (Below w.heap.size w y7):=HBB.out.trans hgg.2;clear hown hgr hgg))
        go_roundw
        case rel =>
         have hk7:k7 = kn + 1:=by rw [HK7.out,List.length_append,HTX.out.len,← HKN.out];rfl
         subst hk7;have hsz:pr = 64 + sizeL (xs ++ [x]):=by rw [sizeL_snoc,HXL.out,HPR.out,HRLE.out,HPP.out.1];omega
         exact ⟨a7,kn + 1,c7,us ++ [.slice a5 n5 c5],xs ++ [x],pr,f',by rw [List.length_append,← HKN.out];rfl,rfl,by trivial,hsz,by omega,by have:=HPP.out.2.2;omega,HTX7,HRE2,HBB7⟩
        case measure =>
         have h1:=HPR.out;have h2:=HRLB.out.1;simp [intOf];omega
theorem results_3J {fn:Func} {t u v:Tmp} (h:fn.results = #[.tmp t,.tmp u,.tmp v]) (tmps:Array Value) (P:Program) (w:World) :
 (results fn tmps).run P w = .ok (.tuple #[tmps.getD t undef,tmps.getD u undef,tmps.getD v undef]) w:=by
 simp [results,h]
def okB (b:Bs):Prop:=b.length % 64 = 0 ∧ 512 ≤ b.length
instance (b:Bs):Decidable (okB b):=inferInstanceAs (Decidable (_ ∧ _))
def rdX14 (b:Bs):Int:=if okB b then 0 else 1
def rdG14 (b:Bs):Nat:=if okB b then (readJ b).1 else 0
def rdL14 (b:Bs):List Bs:=if okB b then (readJ b).2 else []
theorem readsL_nil (w:World):ReadsL w (.slice none 0 0) []:=⟨none,0,rfl,Nat.le_refl _,fun _ => rfl,fun h => by simp at h⟩
theorem nRead_any (v:Value) (b:Bs) (hl:b.length < 100000000) (w:World) (hr:Reads w v b):Calls Tryz.prog 24 #[v] w fun e w' => ∃ lv,e = .returned (.tuple #[.int .u64 (rdG14 b:Int),lv,.int .i64 (rdX14 b)]) ∧ ReadsL w' lv (rdL14 b) ∧ Below w.heap.size w w':=by
 obtain ⟨ad,cp,hv,hcp,_,hx⟩:=id hr
 obtain ⟨L,HLL⟩:=sqn (b.length)
 rw [← HLL.out] at hv hl
 subst hv
 by_cases hok:okB b
 case neg =>
  rw [show rdG14 b = 0 from if_neg hok,show rdX14 b = 1 from if_neg hok,show rdL14 b = [] from if_neg hok]
  unfold okB at hok
  rw [← HLL.out] at hok
  clear hx hcp hr
  by_cases h1:L % 64 = 0
  · have f1:(L:Int) % 64 = 0:=by omega
    have q1:(L:Int) < 512:=by omega
    clear hok h1
    go_enter Tryz.func24,Tryz.ntmps24
    go_wp2;refine bodyPost_ret (results_3J rfl _ _ _) rfl ?_;exact ⟨_,rfl,readsL_nil _,Below.refl _ _⟩
  · have f1:((L:Int) % 64 != 0) = true:=by rw [bne_iff_ne];omega
    clear hok h1
    go_enter Tryz.func24,Tryz.ntmps24
    go_wp2;refine bodyPost_ret (results_3J rfl _ _ _) rfl ?_;exact ⟨_,rfl,readsL_nil _,Below.refl _ _⟩
 case pos =>
  rw [show rdG14 b = (readJ b).1 from if_pos hok,show rdX14 b = 0 from if_pos hok,show rdL14 b = (readJ b).2 from if_pos hok]
  unfold okB at hok
  have hhn:=halfN_eq b
  rw [← HLL.out] at hok hhn
  obtain ⟨bb,off,rfl,_⟩:=hx (by rw [← HLL.out];omega)
  have f1:(L:Int) % 64 = 0:=by omega
  have q1:¬ ((L:Int) < 512):=by omega
  have HHN:Hid (64 ≤ halfN b ∧ halfN b < 60000000):=⟨by omega,by omega⟩
  have HPK:Hid (Calls Tryz.prog 56 #[.slice (some ⟨bb,off,none⟩) L cp] w fun e w' => e = .returned (.tuple #[.int .i64 ((pickB b).1:Int),.int .u64 ((pickB b).2:Int)]) ∧ Below w.heap.size w w'):=by
   rw [HLL.out];rw [HLL.out] at hr;exact nPick_any bb off cp b HHN.out.1 (by rw [← HLL.out];omega) w hr
  obtain ⟨k,gen,hpk⟩:∃ k gen,pickB b = (k,gen):=⟨_,_,rfl⟩
  have hk1:k ≤ 1:=by
   unfold pickB at hpk
   split at hpk <;> cases hpk <;> omega
  have hg9:gen < 18446744073709551616:=by
   unfold pickB at hpk
   split at hpk <;> cases hpk
   · by_cases h0:genH (halfB b 1) = 0
     · omega
     · exact (gen_is h0).2
   · by_cases h0:genH (halfB b 0) = 0
     · omega
     · exact (gen_is h0).2
  rw [hpk] at HPK
  have HB:Hid (Reads w (.slice (some ⟨bb,off,none⟩) L cp) b):=hr
  have HBW:Hid (Below w.heap.size w w):=Below.refl _ _
  by_cases hg0:gen = 0
  · have hrd:readJ b = (0,[]):=by rw [readJ,hpk,hg0];rfl
    rw [hrd];subst hg0;clear hr hx hcp hok hhn hl hpk hk1 hg9 hrd
    go_enter Tryz.func24,Tryz.ntmps24
    have tk0:Hid True:=trivial
    go_wp2_with (first
     | (clear tk0;go_at_call 56;refine (HPK.out).mono ?_;rintro e0 y1 ⟨rfl,hz⟩
        replace HBW:=sqt HBW hz;clear hz))
    refine bodyPost_ret (results_3J rfl _ _ _) rfl ?_;exact ⟨_,rfl,readsL_nil _,HBW.out⟩
  · have q2:((gen:Int) == 0) = false:=by rw [beq_eq_false_iff_ne];omega
    obtain ⟨rl,HRL⟩:=sqn ((recsOf gen (halfB b k)).1);have hrd:readJ b = (gen,rl):=by rw [readJ,hpk];show (if gen = 0 then _ else _) = _;rw [if_neg hg0,HRL.out]
    obtain ⟨H,HH⟩:=sqn (halfN b);rw [hrd];have HHF:Hid (∀ W,Reads W (.slice (some ⟨bb,off,none⟩) L cp) b → Calls Tryz.prog 58 #[.slice (some ⟨bb,off,none⟩) L cp,.int .i64 (k:Int)] W fun e w' => (∃ o c2,e = .returned (.slice (some ⟨bb,o,none⟩) H c2) ∧ Reads W (.slice (some ⟨bb,o,none⟩) H c2) (halfB b k)) ∧ w' = W):=fun W h => by rw [HLL.out] at h ⊢;rw [HH.out];exact nHalf_any bb off cp b k hk1 HHN.out.1 (by rw [← HLL.out];omega) W h
    have HRC:Hid (∀ (W:World) (o c2:Nat),Reads W (.slice (some ⟨bb,o,none⟩) H c2) (halfB b k) → Calls Tryz.prog 57 #[.int .u64 (gen:Int),.slice (some ⟨bb,o,none⟩) H c2] W fun e w' => ∃ v,e = .returned (.tuple #[v,.int .i64 ((recsOf gen (halfB b k)).2:Int)]) ∧ ReadsL w' v rl ∧ Below W.heap.size W w'):=fun W o c2 h => by rw [HRL.out];exact nRecords_any gen hg9 bb o H c2 (halfB b k) (by rw [len_half hk1];exact HHN.out.1) (by rw [len_half hk1];exact HHN.out.2) W h
    obtain ⟨en,HEN⟩:=sqn ((recsOf gen (halfB b k)).2);rw [← HEN.out] at HRC;clear hr hx hcp hok hhn hl hpk hk1 hg9 hrd
    go_enter Tryz.func24,Tryz.ntmps24
    obtain ⟨tk0,tk1,tk2⟩:=sqk3
    go_wp2_with (first
     | (clear tk0;go_at_call 56;refine (HPK.out).mono ?_;rintro e0 y1 ⟨rfl,hz⟩
        replace HB:Hid (Reads y1 (.slice (some ⟨bb,off,none⟩) L cp) b):=HB.out.below hz;replace HBW:=sqt HBW hz;clear hz)
     | (clear tk1;go_at_call 58;refine (HHF.out _ HB.out).mono ?_;rintro e0 y2 ⟨⟨o2,c2,rfl,hr2⟩,hy2⟩
        subst hy2;have HR2:Hid (Reads y2 (.slice (some ⟨bb,o2,none⟩) H c2) (halfB b k)):=hr2;clear hr2)
     | (clear tk2;go_at_call 57;refine (HRC.out _ _ _ HR2.out).mono ?_;rintro e0 y3 ⟨v3,rfl,hr3,hz⟩
        have HR3:Hid (ReadsL y3 v3 rl):=hr3;replace HBW:=sqt HBW hz;clear hr3 hz))
    refine bodyPost_ret (results_3J rfl _ _ _) rfl ?_;exact ⟨_,rfl,HR3.out,HBW.out⟩
theorem ReadsL.atJ {w:World} {ad:Option Addr} {n c:Nat} {ls:List Bs} (h:ReadsL w (.slice ad n c) ls) {j:Nat} (hj:j < ls.length):∃ b off vj,ad = some ⟨b,off,none⟩ ∧ w.cell? ⟨b,off + j,none⟩ = some vj ∧ Reads w vj (ls.getD j []):=by
 obtain ⟨ad',cp,hv,_,_,hx⟩:=h
 simp only [Value.slice.injEq] at hv
 obtain ⟨rfl,_,_⟩:=hv
 obtain ⟨b,off,h1,h2⟩:=hx (Nat.lt_of_le_of_lt (Nat.zero_le _) hj)
 obtain ⟨vj,h3,h4⟩:=h2 j hj
 exact ⟨b,off,vj,h1,h3,h4⟩
theorem sizeL_take {l:List Bs} {k:Nat} (hk:k < l.length):sizeL (l.take (k + 1)) = sizeL (l.take k) + 64 * secR (l.getD k []).length:=by
 rw [List.take_add_one,List.getElem?_eq_getElem hk,List.getD_eq_getElem?_getD,List.getElem?_eq_getElem hk]
 exact sizeL_snoc _ _
theorem sizeL_app (a b:List Bs):sizeL (a ++ b) = sizeL a + sizeL b:=by simp [sizeL]
theorem sizeL_mono (l:List Bs) (k:Nat):sizeL (l.take k) ≤ sizeL l:=by
 have e:=sizeL_app (l.take k) (l.drop k)
 rw [List.take_append_drop] at e
 omega
theorem secR_ge (m:Nat):m ≤ 64 * secR m:=by unfold secR;omega
theorem numS (m a:Nat) (h:a + 64 * secR m < 1000000000):∃ m57 m120 q q64:Nat,IntKind.i64.wrap ((m:Int) + 57) = (m57:Int) ∧ IntKind.i64.wrap ((m57:Int) + 63) = (m120:Int) ∧ wrap64 ((m120:Int) / 64) = (q:Int) ∧ IntKind.i64.wrap ((q:Int) * 64) = (q64:Int) ∧ IntKind.i64.wrap ((a:Int) + (q64:Int)) = ((a + 64 * secR m:Nat):Int):=by
 have hg:=secR_ge m
 have h1:m < 1000000000:=by omega
 refine ⟨m + 57,m + 57 + 63,secR m,64 * secR m,aJ rfl (by omega),aJ rfl (by omega),qJ (d:=64) rfl (by omega),mJ (b:=64) (Nat.mul_comm _ _) (by omega),aJ rfl (by omega)⟩
theorem nSize_any (v:Value) (l:List Bs) (hl:sizeL l < 1000000000) (w:World) (hr:ReadsL w v l):Calls Tryz.prog 98 #[v] w fun e w' => e = .returned (.int .i64 (sizeL l:Int)) ∧ w' = w:=by
 have HR:Hid (ReadsL w v l):=hr
 obtain ⟨ad,cp,hv,_⟩:=hr
 obtain ⟨n,HN⟩:=sqn (l.length)
 rw [← HN.out] at hv
 subst hv
 have HL:Hid (sizeL l < 1000000000):=hl
 have HNB:Hid (n < 1000000000):=by show _ < _;have h1:=sizeL_ge l;have h2:=HN.out;omega
 clear hl
 go_enter Tryz.func98,Tryz.ntmps98
 go_wp2
 go_loopw [3,4] (fun a i wr => ∃ k:Nat,k ≤ n ∧ i = .int .i64 (k:Int) ∧ a = .int .i64 (sizeL (l.take k):Int) ∧ wr = w) (fun _ i _ => n - (intOf i).toNat)
 case atStart => exact ⟨0,by omega,rfl,rfl,rfl⟩
 case round =>
  obtain ⟨k,hk,rfl,rfl,rfl⟩:=hrel
  by_cases hlt:k < n
  case neg =>
   have hlk:¬ ((k:Int) < (n:Int)):=by omega
   have HE:Hid (l.take k = l):=List.take_of_length_le (by rw [← HN.out];omega)
   rw [HE.out];go_wp2;go_ret;exact ⟨rfl,rfl⟩
  case pos =>
   have hlk:(k:Int) < (n:Int):=by omega
   have k0:(0:Int) ≤ (k:Int):=by omega
   have f1:IntKind.i64.wrap ((k:Int) + 1) = (k:Int) + 1:=by rw [IntKind.wrap_i64];have:=HNB.out;omega
   have hkl:k < l.length:=by rw [← HN.out];exact hlt
   obtain ⟨b,off,vj,rfl,hc,hrj⟩:=HR.out.atJ hkl;obtain ⟨m,HM⟩:=sqn ((l.getD k []).length);obtain ⟨aj,cj,hvj,_⟩:=hrj;rw [← HM.out] at hvj;subst hvj;have hst:=sizeL_take hkl;have hmo:=sizeL_mono l (k + 1);rw [← HM.out] at hst;obtain ⟨a,HA⟩:=sqn (sizeL (l.take k));rw [← HA.out] at hst ⊢;have hLb:=HL.out;obtain ⟨m57,m120,q,q64,f2,f3,f4,f5,f6⟩:=numS m a (by rw [← hst];omega)
   rw [← hst] at f6;clear hst hmo hLb;go_wp2;go_roundw
   case rel => exact ⟨k + 1,by omega,by simp,by trivial,trivial⟩
   case measure => simp [intOf];omega
theorem nFits_any (v:Value) (l:List Bs) (hl:sizeL l < 1000000000) (n:Nat) (hn:n < 1000000) (w:World) (hr:ReadsL w v l):Calls Tryz.prog 77 #[v,.int .i64 (n:Int)] w fun e w' => e = .returned (.bool (decide (sizeL l + 64 ≤ 64 * (n / 2)))) ∧ w' = w:=by
 obtain ⟨q,HQ⟩:=sqn (n / 2)
 obtain ⟨m,HM⟩:=sqn (n / 2 * 64)
 have HSZ:Hid (Calls Tryz.prog 98 #[v] w fun e w' => e = .returned (.int .i64 (sizeL l:Int)) ∧ w' = w):=nSize_any v l hl w hr
 obtain ⟨s,HS⟩:=sqn (sizeL l)
 rw [← HS.out] at HSZ
 rw [← HS.out,← HQ.out]
 have hq:=HQ.out
 have hm:=HM.out
 have f1:wrap64 ((n:Int) / 2) = (q:Int):=qJ (d:=2) HQ.out (by omega)
 have f2:IntKind.i64.wrap ((q:Int) * 64) = (m:Int):=mJ (b:=64) (by rw [hm,hq]) (by omega)
 have f3:IntKind.i64.wrap ((m:Int) - 64) = (m:Int) - 64:=by rw [IntKind.wrap_i64];omega
 clear hr hl hq
 by_cases hc:s + 64 ≤ 64 * q
 · have HC:Hid (s + 64 ≤ 64 * q):=hc
   rw [decide_eq_true hc];clear hm hc
   go_enter Tryz.func77,Tryz.ntmps77
   have tk0:Hid True:=trivial
   go_wp2_with (first
    | (clear tk0;go_at_call 98;refine (HSZ.out).mono ?_;rintro e0 y1 ⟨rfl,hy1⟩;subst hy1))
   go_ret;exact ⟨by simp;have h1:=HC.out;have h2:=HQ.out;omega,rfl⟩
 · have HC:Hid (¬ s + 64 ≤ 64 * q):=hc
   rw [decide_eq_false hc];clear hm hc
   go_enter Tryz.func77,Tryz.ntmps77
   have tk0:Hid True:=trivial
   go_wp2_with (first
    | (clear tk0;go_at_call 98;refine (HSZ.out).mono ?_;rintro e0 y1 ⟨rfl,hy1⟩;subst hy1))
   go_ret;exact ⟨by simp;have h1:=HC.out;have h2:=HQ.out;omega,rfl⟩
theorem take_same {α:Type} {a b:List α} {k:Nat} (z:α) (h:a.take k = b.take k) (ha:k < a.length) (hb:k < b.length) (he:a.getD k z = b.getD k z):a.take (k + 1) = b.take (k + 1):=by
 rw [List.getD_eq_getElem?_getD,List.getD_eq_getElem?_getD,List.getElem?_eq_getElem ha,List.getElem?_eq_getElem hb] at he
 rw [List.take_add_one,List.take_add_one,h,List.getElem?_eq_getElem ha,List.getElem?_eq_getElem hb]
 simp only [Option.getD_some] at he
 rw [he]
theorem sametexts_any (va vb:Value) (a b:List (List (BitVec 8))) (w:World) (ha:ReadsL w va a) (hb:ReadsL w vb b) (hl:a.length < 4611686018427387904) :
 Calls Tryz.prog 60 #[va,vb] w fun e w' => e = .returned (.bool (decide (a = b))) ∧ ∃ q,w' = w.drewN q:=by
 have HA:Hid (ReadsL w va a):=ha
 have HB:Hid (ReadsL w vb b):=hb
 have hnot:∀ (x:Bool) (w:World),(Op.unary .not (.bool x)).run Tryz.prog w = .ok (.bool (!x)) w:=fun _ _ => rfl
 obtain ⟨ada,ca,hva,_,_,_⟩:=ha
 obtain ⟨adb,cb',hvb,_,_,_⟩:=hb
 obtain ⟨n,HN⟩:=sqn (a.length)
 obtain ⟨m,HM⟩:=sqn (b.length)
 rw [← HN.out] at hva hl
 rw [← HM.out] at hvb
 subst hva hvb
 obtain ⟨o,HO⟩:=sqn (decide (a = b))
 rw [← HO.out]
 by_cases hnm:n = m
 · subst hnm
   go_enter Tryz.func60,Tryz.ntmps60
   go_wp2
   go_loopw [5] (fun i wr => ∃ k q:Nat,k ≤ n ∧ i = .int .i64 (k:Int) ∧ a.take k = b.take k ∧ wr = w.drewN q) (fun i _ => n - (intOf i).toNat)
   case atStart => exact ⟨0,0,by omega,rfl,rfl,rfl⟩
   case round =>
    obtain ⟨k,q,hk,rfl,heq,hwr⟩:=hrel;have HW:Hid (wr = w.drewN q):=hwr;clear hwr
    by_cases hlt:k < n
    · obtain ⟨ad1,cap1,hv1,_,_,hx1⟩:=HA.out
      rw [← HN.out] at hv1 hx1;simp only [Value.slice.injEq,true_and] at hv1;obtain ⟨rfl,rfl⟩:=hv1;obtain ⟨b1,off1,rfl,hy1⟩:=hx1 (by omega)
      obtain ⟨ad2,cap2,hv2,_,_,hx2⟩:=HB.out;rw [← HM.out] at hv2 hx2;simp only [Value.slice.injEq,true_and] at hv2;obtain ⟨rfl,rfl⟩:=hv2;obtain ⟨b2,off2,rfl,hy2⟩:=hx2 (by omega)
      obtain ⟨v1,h1,r1⟩:=hy1 k hlt;obtain ⟨v2,h2,r2⟩:=hy2 k hlt;replace h1:wr.cell? ⟨b1,off1 + k,none⟩ = some v1:=by rw [HW.out];exact h1
      replace h2:wr.cell? ⟨b2,off2 + k,none⟩ = some v2:=by rw [HW.out];exact h2
      obtain ⟨x,HX⟩:=sqn (a.getD k []);obtain ⟨y,HY⟩:=sqn (b.getD k []);rw [← HX.out] at r1;rw [← HY.out] at r2;obtain ⟨p1,z1,hvv1,_,_,_⟩:=id r1;obtain ⟨p2,z2,hvv2,_,_,_⟩:=id r2;obtain ⟨l1,HL1⟩:=sqn (x.length);obtain ⟨l2,HL2⟩:=sqn (y.length);rw [← HL1.out] at hvv1;rw [← HL2.out] at hvv2;subst hvv1 hvv2;have HR1:Hid (∀ j,Reads (wr.drewN j) (.slice p1 l1 z1) x):=fun j => by rw [HW.out];exact r1
      have HR2:Hid (∀ j,Reads (wr.drewN j) (.slice p2 l2 z2) y):=fun j => by rw [HW.out];exact r2
      have HQ:Hid (a.take k = b.take k):=heq;clear heq hx1 hx2 hy1 hy2 r1 r2
      by_cases hxy:x = y
      · have HJ:Hid (a.take (k + 1) = b.take (k + 1)):=take_same [] HQ.out (by rw [← HN.out];exact hlt) (by rw [← HM.out];exact hlt) (by rw [← HX.out,← HY.out,hxy])
        have HC:Hid (∀ j,Calls Tryz.prog 16 #[.slice p1 l1 z1,.slice p2 l2 z2] (wr.drewN j) fun e w' => e = .returned (.bool true) ∧ w' = wr.drewN j):=fun j => by
         have:=same_any _ _ x y (wr.drewN j) (HR1.out j) (HR2.out j);rw [decide_eq_true hxy] at this;exact this
        clear HR1 HR2 hxy;go_wp2
        go_quiet (first | (go_at_call 16;refine Calls.quiet_of_same (HC.out _)))
        go_wp2;go_roundw
        case rel => exact ⟨k + 1,_,by omega,by go_num,HJ.out,by rw [HW.out];exact World.drewN_drewN ..⟩
        case measure => simp [intOf];omega
      · have HF:Hid (o = false):=by
         show _ = _;rw [HO.out,decide_eq_false_iff_not];intro he
         apply hxy
         rw [HX.out,HY.out,he]
        have HC:Hid (∀ j,Calls Tryz.prog 16 #[.slice p1 l1 z1,.slice p2 l2 z2] (wr.drewN j) fun e w' => e = .returned (.bool false) ∧ w' = wr.drewN j):=fun j => by
         have:=same_any _ _ x y (wr.drewN j) (HR1.out j) (HR2.out j);rw [decide_eq_false hxy] at this;exact this
        clear HR1 HR2 hxy;go_wp2
        go_quiet (first | (go_at_call 16;refine Calls.quiet_of_same (HC.out _)))
        go_wp2;go_ret;exact ⟨by rw [HF.out];rfl,_,by rw [HW.out];exact World.drewN_drewN ..⟩
    · have hkn:k = n:=by omega
      subst hkn
      have HF:Hid (o = true):=by
       show _ = _;rw [HO.out,decide_eq_true_iff];have h1:=heq;rw [List.take_of_length_le (by rw [← HN.out];exact Nat.le_refl _),List.take_of_length_le (by rw [← HM.out];exact Nat.le_refl _)] at h1
       exact h1
      clear heq;go_wp2;go_ret;exact ⟨by rw [HF.out];rfl,q,HW.out⟩
 · have hnm2:¬ ((n:Int) = (m:Int)):=by omega
   have HF:Hid (o = false):=by
    show _ = _;rw [HO.out,decide_eq_false_iff_not];intro he
    apply hnm
    rw [HN.out,HM.out,he]
   go_enter Tryz.func60,Tryz.ntmps60
   go_wp2;go_ret;exact ⟨by rw [HF.out];rfl,0,rfl⟩
def roomZ (l:List Bs) (n:Nat):Nat:=min 1048576 (64 * (n / 2) - 64 - sizeL l - 57)
theorem nSame_any (va vb:Value) (a b:List Bs) (w:World) (ha:ReadsL w va a) (hb:ReadsL w vb b) (hl:a.length < 4611686018427387904):Calls Tryz.prog 27 #[va,vb] w fun e w' => e = .returned (.bool (decide (a = b))) ∧ Below w.heap.size w w':=by
 have HS:Hid (Calls Tryz.prog 60 #[va,vb] w fun e w' => e = .returned (.bool (decide (a = b))) ∧ ∃ q,w' = w.drewN q):=sametexts_any va vb a b w ha hb hl
 obtain ⟨o,HO⟩:=sqn (decide (a = b))
 rw [← HO.out] at HS ⊢
 clear ha hb hl
 go_enter Tryz.func27,Tryz.ntmps27
 have tk0:Hid True:=trivial
 go_wp2_with (first
  | (clear tk0;go_at_call 60;refine (HS.out).mono ?_;rintro e0 y1 ⟨rfl,q,hy1⟩
     have HB:Hid (Below w.heap.size w y1):=by rw [hy1];exact ⟨rfl,rfl,rfl,Nat.le_refl _,fun _ _ => rfl⟩
     clear hy1))
 go_ret
 exact ⟨rfl,HB.out⟩
def fit14 (l:List Bs) (n:Nat):Bool:=decide (sizeL l + 64 ≤ 64 * (n / 2))
def apX (l:List Bs) (b:Bs) (n:Nat):Int:=if chkX b = 1 then 1 else if fit14 (l ++ [b]) n then 0 else 13
def apL (l:List Bs) (b:Bs) (n:Nat):List Bs:=if apX l b n = 0 then l ++ [b] else l
theorem chk_or (x:Bs):chkX x = 0 ∨ chkX x = 1:=by unfold chkX;split;exact Or.inr rfl;exact Or.inl rfl
def rsX (m:List Bs) (n:Nat):Int:=if ∃ x ∈ m,chkX x = 1 then 1 else if fit14 m n then 0 else 13
def rsL (l m:List Bs) (n:Nat):List Bs:=if rsX m n = 0 then m else l
end Go.Proofs.YtheincjkoefalaaGreatDoor

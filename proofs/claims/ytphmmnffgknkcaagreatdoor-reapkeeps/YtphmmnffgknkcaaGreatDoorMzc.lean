import Derived.Test.YtphmmnffgknkcaaGreatDoorMzb
import Derived.Test.YtphmmnffgknkcaaGreatDoorMza
import Derived.RangeFuncFrom
import Derived.Sort.Lot0
import Derived.Test.YtphmmnffgknkcaaGreatDoorChecked
import Derived.Shelf.SlSortCmp.Kit1
import Derived.Sort.WalkB2
import Derived.Sort.WalkB12
import Derived.Deep.LoopGhost
import Derived.Sort.WalkA
import Derived.Deep.CutRange
namespace Go.Proofs.YtphmmnffgknkcaaGreatDoor
open Go.RowKit
set_option maxRecDepth 100000
theorem putL_all {l:List Lf} {x v:List (BitVec 8)} (h:∀ p ∈ l,lessB p.1 x = true):putL l x v = l ++ [(x,v)]:=by
  unfold putL
  have h1:(l.takeWhile fun p => lessB p.1 x) = l:=by
    have:=List.takeWhile_append_of_pos (l₁:=l) (l₂:=[]) (p:=fun p:Lf => lessB p.1 x) (fun p hp => h p hp)
    simpa using this
  have h2:(l.dropWhile fun p => lessB p.1 x) = []:=by
    have:=List.dropWhile_append_of_pos (l₁:=l) (l₂:=[]) (p:=fun p:Lf => lessB p.1 x) (fun p hp => h p hp)
    simpa using this
  rw [h1,h2]
  rfl
theorem putL_new {l:List Lf} {x v:List (BitVec 8)} {e:Lf} (h:∀ p ∈ l,lessB p.1 x = true) (he:lessB e.1 x = false):putL (l ++ [e]) x v = l ++ [(x,v)] ++ (if decide (e.1 ≠ x) then [e] else []):=by
  unfold putL
  have h1:((l ++ [e]).takeWhile fun p => lessB p.1 x) = l:=by
    rw [List.takeWhile_append_of_pos (fun p hp => h p hp)]
    simp [he]
  have h2:((l ++ [e]).dropWhile fun p => lessB p.1 x) = [e]:=by
    rw [List.dropWhile_append_of_pos (fun p hp => h p hp)]
    simp [he]
  rw [h1,h2]
  simp only [List.filter_cons,List.filter_nil,List.append_assoc,List.cons_append,List.nil_append]
theorem putL_old {l:List Lf} {x v:List (BitVec 8)} {e:Lf} (h:∃ p ∈ l,lessB p.1 x = false):putL (l ++ [e]) x v = putL l x v ++ (if decide (e.1 ≠ x) then [e] else []):=by
  have key:∀ l:List Lf,(∃ p ∈ l,lessB p.1 x = false) → ((l ++ [e]).takeWhile fun p => lessB p.1 x) = (l.takeWhile fun p => lessB p.1 x) ∧ ((l ++ [e]).dropWhile fun p => lessB p.1 x) = (l.dropWhile fun p => lessB p.1 x) ++ [e]:=by
    intro l
    induction l with
    | nil => rintro ⟨p,hp,_⟩;cases hp
    | cons a r ih =>
      rintro ⟨p,hp,hpx⟩
      cases ha:lessB a.1 x with
      | false => simp [ha]
      | true =>
        have hr:∃ p ∈ r,lessB p.1 x = false:=by
          rcases List.mem_cons.1 hp with rfl | hp
          · rw [ha] at hpx;cases hpx
          · exact ⟨p,hp,hpx⟩
        have:=ih hr
        simp [ha,this.1,this.2]
  unfold putL
  rw [(key l h).1,(key l h).2,List.filter_append]
  simp only [List.filter_cons,List.filter_nil,List.append_assoc,List.cons_append]
def PtI (l:List Lf) (x v:List (BitVec 8)) (k:Nat) (pt:Bool) (A:List Lf):Prop:=
  (pt = false ∧ A = l.take k ∧ ∀ p ∈ l.take k,lessB p.1 x = true) ∨ (pt = true ∧ A = putL (l.take k) x v ∧ ∃ p ∈ l.take k,lessB p.1 x = false)
theorem PtI.start (l:List Lf) (x v:List (BitVec 8)):PtI l x v 0 false []:=Or.inl ⟨rfl,rfl,fun p hp => by cases hp⟩
def mid (x v:List (BitVec 8)) (pt:Bool) (da:List (BitVec 8)) (A:List Lf):List Lf:=if !pt && !lessB da x then A ++ [(x,v)] else A
theorem PtI.next {l:List Lf} {x v:List (BitVec 8)} {k:Nat} {pt:Bool} {A:List Lf} {e:Lf} (h:PtI l x v k pt A) (ht:l.take (k + 1) = l.take k ++ [e]):PtI l x v (k + 1) (pt || !lessB e.1 x) (mid x v pt e.1 A ++ if decide (e.1 ≠ x) then [e] else []):=by
  rcases h with ⟨rfl,rfl,h⟩ | ⟨rfl,rfl,h⟩
  · cases he:lessB e.1 x with
    | true =>
      refine Or.inl ⟨rfl,?_,?_⟩
      · rw [ht]
        have hn:=less_ne he
        simp [mid,he,hn]
      · rw [ht]
        intro p hp
        rcases List.mem_append.1 hp with hp | hp
        · exact h p hp
        · rw [List.mem_singleton] at hp;subst hp;exact he
    | false =>
      refine Or.inr ⟨rfl,?_,e,by rw [ht];simp,he⟩
      rw [ht,putL_new h he]
      simp [mid,he]
  · refine Or.inr ⟨rfl,?_,?_⟩
    · rw [ht,putL_old h]
      simp [mid]
    · obtain ⟨p,hp,hpx⟩:=h
      exact ⟨p,by rw [ht];exact List.mem_append_left _ hp,hpx⟩
theorem PtI.len {l:List Lf} {x v:List (BitVec 8)} {k:Nat} {pt:Bool} {A:List Lf} (h:PtI l x v k pt A):A.length ≤ l.length + 1:=by
  rcases h with ⟨_,rfl,_⟩ | ⟨_,rfl,_⟩
  · rw [List.length_take];omega
  · unfold putL
    have h1:=congrArg List.length (take_drop_while (l.take k) fun p => lessB p.1 x)
    rw [List.length_append,List.length_take] at h1
    rw [List.length_append,List.length_cons]
    refine Nat.le_trans (Nat.add_le_add_left (Nat.succ_le_succ (List.length_filter_le _ _)) _) ?_
    omega
theorem PtI.done {l:List Lf} {x v:List (BitVec 8)} {k:Nat} {pt:Bool} {A:List Lf} (h:PtI l x v k pt A) (hk:l.take k = l):putL l x v = A ++ if pt then [] else [(x,v)]:=by
  rcases h with ⟨rfl,rfl,h⟩ | ⟨rfl,rfl,h⟩
  · rw [hk] at h ⊢
    rw [putL_all h]
    rfl
  · rw [hk]
    simp
theorem putL_len (l:List Lf) (x v:List (BitVec 8)):(putL l x v).length ≤ l.length + 1:=by
  unfold putL
  have h1:=congrArg List.length (take_drop_while l fun p => lessB p.1 x)
  rw [List.length_append] at h1
  rw [List.length_append,List.length_cons]
  refine Nat.le_trans (Nat.add_le_add_left (Nat.succ_le_succ (List.length_filter_le _ _)) _) ?_
  omega
set_option maxRecDepth 100000 in
set_option maxHeartbeats 8000000 in
theorem lfPut_any (va vv:Value) (l:List Lf) (x v:List (BitVec 8)) (w:World) (hR:ReadsLf w va vv l) (hl:l.length < 1000000) (hx:x.length = 32) (hv:v.length = 32) :
    Calls Tryz.prog 11 #[.agg #[va,vv],.agg (cb x).toArray,.agg (cb v).toArray] w fun e w' => ∃ xa xv,e = .returned (.agg #[xa,xv]) ∧ OwnLf w' w.heap.size xa xv ((putL l x v).map (·.1)) ((putL l x v).map (·.2)) ∧ Below w.heap.size w w':=by
  have HR:Hid (ReadsLf w va vv l):=hR
  have HL:Hid (l.length < 1000000):=hl
  have HX32:Hid (x.length = 32):=hx
  have HY32:Hid (v.length = 32):=hv
  obtain ⟨n,HN⟩:∃ n,Hid (n = l.length):=⟨_,rfl⟩
  obtain ⟨ada,cpa,hva⟩:=hR.1.slice
  obtain ⟨adv,cpv,hvv⟩:=hR.2.slice
  rw [List.length_map,← HN.out] at hva hvv
  subst hva hvv
  clear hR hl hx hv
  obtain ⟨gl,HGL⟩:∃ g,Hid (g = w.heap.size):=⟨_,rfl⟩
  obtain ⟨w1,HW1⟩:∃ z,Hid (z = w.alloc (.cells [Value.slice ada n cpa,.slice adv n cpv].toArray 43)):=⟨_,rfl⟩
  obtain ⟨w2,HW2⟩:∃ z,Hid (z = w1.alloc (.cells (cb x).toArray 39)):=⟨_,rfl⟩
  obtain ⟨w3,HW3⟩:∃ z,Hid (z = w2.alloc (.cells (cb v).toArray 39)):=⟨_,rfl⟩
  obtain ⟨wG,HWG⟩:∃ z,Hid (z = w3.alloc (.cells [nilV,nilV].toArray 43)):=⟨_,rfl⟩
  have s1:w1.heap.size = gl + 1:=by rw [HW1.out,HGL.out];simp
  have s2:w2.heap.size = gl + 2:=by rw [HW2.out];simp [s1]
  have s3:w3.heap.size = gl + 3:=by rw [HW3.out];simp [s2]
  have s4:wG.heap.size = gl + 4:=by rw [HWG.out];simp [s3]
  have t1:Below (gl + 1) w1 w2:=by rw [← s1,HW2.out];exact below_alloc _ _
  have t2:Below (gl + 2) w2 w3:=by rw [← s2,HW3.out];exact below_alloc _ _
  have t3:Below (gl + 3) w3 wG:=by rw [← s3,HWG.out];exact below_alloc _ _
  have HLB:Hid (Blk wG gl [Value.slice ada n cpa,.slice adv n cpv] 43):=by
    have h1:Blk w1 gl [Value.slice ada n cpa,.slice adv n cpv] 43:=by rw [HW1.out,HGL.out];exact Blk.new w _ _
    exact ((h1.below t1 (by omega)).below t2 (by omega)).below t3 (by omega)
  have HXB:Hid (Blk wG (gl + 1) (cb x) 39):=by
    have h1:Blk w2 (gl + 1) (cb x) 39:=by rw [HW2.out,← s1];exact Blk.new w1 _ _
    exact (h1.below t2 (by omega)).below t3 (by omega)
  have HYB:Hid (Blk wG (gl + 2) (cb v) 39):=by
    have h1:Blk w3 (gl + 2) (cb v) 39:=by rw [HW3.out,← s2];exact Blk.new w2 _ _
    exact h1.below t3 (by omega)
  have HRB:Hid (Blk wG (gl + 3) [nilV,nilV] 43):=by rw [HWG.out,← s3];exact Blk.new w3 _ _
  have HBW:Hid (Below w.heap.size w wG):=by
    have h1:Below gl w w1:=by rw [HW1.out,HGL.out];exact below_alloc _ _
    rw [← HGL.out]
    exact ((h1.trans (t1.mono (by omega))).trans (t2.mono (by omega))).trans (t3.mono (by omega))
  obtain ⟨go,HGO⟩:∃ g,Hid (g = wG.heap.size):=⟨_,rfl⟩
  have HSZ:Hid (go = gl + 4):=by show _ = _;rw [HGO.out,s4]
  have HCA:Hid (∀ wx,Below go wG wx → wx.cell? ⟨gl,0,none⟩ = some (.slice ada n cpa)):=fun wx hx => (HLB.out.below hx (by have:=HSZ.out;omega)).cell 0
  have HCV:Hid (∀ wx,Below go wG wx → wx.cell? ⟨gl,1,none⟩ = some (.slice adv n cpv)):=fun wx hx => (HLB.out.below hx (by have:=HSZ.out;omega)).cell 1
  have HCX:Hid (∀ wx,Below go wG wx → Blk wx (gl + 1) (cb x) 39):=fun wx hx => HXB.out.below hx (by have:=HSZ.out;omega)
  have HCY:Hid (∀ wx,Below go wG wx → Blk wx (gl + 2) (cb v) 39):=fun wx hx => HYB.out.below hx (by have:=HSZ.out;omega)
  have HI:Hid (Lv wG go nilV nilV [] [] (wG.alloc (.cells [nilV,nilV].toArray 43))):=by rw [HGO.out];exact Lv.start wG
  clear t1 t2 t3 HXB HYB HLB
  clear s1 s2 s3 s4
  go_enter Tryz.func11,Tryz.ntmps11
  go_wp2_with (first
    | (refine wpSeq_val _ _ (by rfl) (boxDigest _ _ (.tmp 1) rfl x rfl _) ?_)
    | (refine wpSeq_val _ _ (by rfl) (boxDigest _ _ (.tmp 2) rfl v rfl _) ?_))
  have e0:(some ⟨w.heap.size,0,none⟩:Option Addr) = some ⟨gl,0,none⟩:=by rw [HGL.out]
  have e1:(some ⟨w.heap.size + 1,0,none⟩:Option Addr) = some ⟨gl + 1,0,none⟩:=by rw [HGL.out]
  have e2:(some ⟨w.heap.size + 1 + 1,0,none⟩:Option Addr) = some ⟨gl + 2,0,none⟩:=by rw [HGL.out]
  have e3:(some ⟨w.heap.size + 1 + 1 + 1,0,none⟩:Option Addr) = some ⟨gl + 3,0,none⟩:=by rw [HGL.out]
  have e4:(some ⟨w.heap.size + 1 + 1 + 1 + 1,0,none⟩:Option Addr) = some ⟨go,0,none⟩:=by rw [HSZ.out,HGL.out]
  simp only [e0,e1,e2,e3,e4]
  clear e0 e1 e2 e3 e4
  change Code.wp _ _ _ _ (((((w.alloc (.cells [Value.slice ada n cpa,.slice adv n cpv].toArray 43)).alloc (.cells (cb x).toArray 39)).alloc (.cells (cb v).toArray 39)).alloc (.cells [nilV,nilV].toArray 43)).alloc (.cells [nilV,nilV].toArray 43))
  rw [← HW1.out,← HW2.out,← HW3.out,← HWG.out]
  generalize wG.alloc (.cells [nilV,nilV].toArray 43) = w0 at *
  clear HW1 HW2 HW3 HWG HGO
  go_loopw [8,9] (fun b j wr => ∃ (k:Nat) (xa xv:Value) (pt:Bool) (A:List Lf),k ≤ n ∧ b = .bool pt ∧ j = .int .i64 (k:Int) ∧ Lv wG go xa xv (A.map (·.1)) (A.map (·.2)) wr ∧ PtI l x v k pt A) (fun _ j _ => n - (intOf j).toNat)
  case atStart => exact ⟨0,nilV,nilV,false,[],by omega,rfl,rfl,by simpa using HI.out,PtI.start l x v⟩
  case round =>
    clear HI
    obtain ⟨k,xa,xv,pt,A,hk,rfl,rfl,hI,hP⟩:=hrel
    have HI:Hid (Lv wG go xa xv (A.map (·.1)) (A.map (·.2)) wr):=hI
    have HPT:Hid (PtI l x v k pt A):=hP
    clear hI hP
    have ca:wr.cell? ⟨gl,0,none⟩ = some (.slice ada n cpa):=HCA.out wr HI.out.bel
    have HAL:Hid (A.length < 1500000):=by show _ < _;have h1:=HPT.out.len;have h2:=HL.out;omega
    by_cases hlt:k < n
    · have hlti:(k:Int) < (n:Int):=by omega
      have k0:(0:Int) ≤ (k:Int):=by omega
      have hn6:n < 1000000:=by rw [HN.out];exact HL.out
      have f5:IntKind.i64.wrap ((k:Int) + 1) = (k:Int) + 1:=wrap_small2 _ (by omega) (by omega)
      have HKL:Hid (k < l.length):=by show _ < _;rw [← HN.out];exact hlt
      obtain ⟨ba,offa,cpa',hva,hya⟩:=HR.out.1.at (by rw [List.length_map];have:=HKL.out;omega)
      obtain ⟨bv,offv,cpv',hvv,hyv⟩:=HR.out.2.at (by rw [List.length_map];have:=HKL.out;omega)
      rw [List.length_map,← HN.out] at hva hvv hya hyv
      simp only [Value.slice.injEq,true_and] at hva hvv
      obtain ⟨rfl,rfl⟩:=hva
      obtain ⟨rfl,rfl⟩:=hvv
      obtain ⟨da,HDA⟩:∃ d,Hid (d = (l.getD k ([],[])).1):=⟨_,rfl⟩
      obtain ⟨dv,HDV⟩:∃ d,Hid (d = (l.getD k ([],[])).2):=⟨_,rfl⟩
      have HA32:Hid (da.length = 32):=by show _ = _;rw [HDA.out];exact (HR.out.ok _ (getD_mem HKL.out)).1
      have HV32:Hid (dv.length = 32):=by show _ = _;rw [HDV.out];exact (HR.out.ok _ (getD_mem HKL.out)).2
      have HRA:Hid (∀ wx,Below go wG wx → wx.rangeAt ba (offa + k * 32) (cb da)):=fun wx hx => by
        have h:=hya k hlt
        rw [map_getD1 HKL.out,← HDA.out] at h
        have hb:=rangeAt_lt h HA32.out
        exact rangeAt_below (rangeAt_below h HBW.out hb) hx (by have h1:=HSZ.out;have h2:=HGL.out;omega)
      have HRV:Hid (∀ wx,Below go wG wx → wx.rangeAt bv (offv + k * 32) (cb dv)):=fun wx hx => by
        have h:=hyv k hlt
        rw [map_getD2 HKL.out,← HDV.out] at h
        have hb:=rangeAt_lt h HV32.out
        exact rangeAt_below (rangeAt_below h HBW.out hb) hx (by have h1:=HSZ.out;have h2:=HGL.out;omega)
      clear hya hyv
      have HNX:Hid (PtI l x v (k + 1) (pt || !lessB da x) (mid x v pt da A ++ if decide (da ≠ x) then [(da,dv)] else [])):=by
        have h:=HPT.out.next (take_map HKL.out)
        rw [HDA.out,HDV.out]
        exact h
      obtain ⟨ls,HLS⟩:∃ p,Hid (lessB da x = p):=⟨_,rfl⟩
      rw [HLS.out] at HNX
      unfold mid at HNX
      rw [HLS.out] at HNX
      go_upto_region 6 with fail
      go_cut [29] from 18 to 29 (fun b W => b = .bool (!pt && !ls) ∧ Lv wG go xa xv (A.map (·.1)) (A.map (·.2)) W)
      case first =>
        cases pt with
        | true =>
          refine wp_region_held_drew (S:=Below go wG) (by kernel_rfl) HI.out.drew.bel ?_
          intro hS
          have hI:=HI.out.drew
          clear HI
          change wpAnyH _ _ _ _ _ _ _ _ (World.drew wr)
          generalize World.drew wr = y0 at *
          refine wpAnyH_take (i:=0) (v:=.bool true) rfl (by kernel_rfl) (by kernel_rfl) (by kernel_rfl) (fun _ _ _ h => h) (Or.inl ⟨by rfl,fun wx hx => by simp [go_sem]⟩) hS ?_
          simp only [Act.put,List.getElem_toArray,List.getElem_cons_zero,List.setIfInBounds_toArray,List.set_cons_zero,List.set_cons_succ]
          refine wpAnyH_take (i:=1) (v:=.bool false) rfl (by kernel_rfl) (by kernel_rfl) (by kernel_rfl) (fun _ _ _ h => h) (Or.inl ⟨by rfl,fun wx hx => by simp [go_sem]⟩) hS ?_
          simp only [Act.put,List.getElem_toArray,List.getElem_cons_succ,List.getElem_cons_zero,List.setIfInBounds_toArray,List.set_cons_zero,List.set_cons_succ]
          refine wpAnyH_take (i:=2) (v:=.bool false) rfl (by kernel_rfl) (by kernel_rfl) (by kernel_rfl) (fun _ _ _ h => h) (Or.inl ⟨by rfl,fun wx hx => by simp [go_sem]⟩) hS ?_
          simp only [Act.put,List.getElem_toArray,List.getElem_cons_succ,List.getElem_cons_zero,List.setIfInBounds_toArray,List.set_cons_zero,List.set_cons_succ]
          refine wpAnyH_take (i:=3) (v:=undef) rfl (by kernel_rfl) (by kernel_rfl) (by kernel_rfl) (fun _ _ _ h => h) (Or.inr ⟨by rfl,rfl⟩) hS ?_
          simp only [Act.put,List.getElem_toArray,List.getElem_cons_succ,List.getElem_cons_zero,List.setIfInBounds_toArray,List.set_cons_zero,List.set_cons_succ]
          refine wpAnyH_take (i:=4) (v:=undef) rfl (by kernel_rfl) (by kernel_rfl) (by kernel_rfl) (fun _ _ _ h => h) (Or.inr ⟨by rfl,rfl⟩) hS ?_
          simp only [Act.put,List.getElem_toArray,List.getElem_cons_succ,List.getElem_cons_zero,List.setIfInBounds_toArray,List.set_cons_zero,List.set_cons_succ]
          refine wpAnyH_take (i:=5) (v:=undef) rfl (by kernel_rfl) (by kernel_rfl) (by kernel_rfl) (fun _ _ _ h => h) (Or.inr ⟨by rfl,rfl⟩) hS ?_
          simp only [Act.put,List.getElem_toArray,List.getElem_cons_succ,List.getElem_cons_zero,List.setIfInBounds_toArray,List.set_cons_zero,List.set_cons_succ]
          refine wpAnyH_take (i:=6) (v:=undef) rfl (by kernel_rfl) (by kernel_rfl) (by kernel_rfl) (fun _ _ _ h => h) (Or.inr ⟨by rfl,rfl⟩) hS ?_
          simp only [Act.put,List.getElem_toArray,List.getElem_cons_succ,List.getElem_cons_zero,List.setIfInBounds_toArray,List.set_cons_zero,List.set_cons_succ]
          refine wpAnyH_take (i:=7) (v:=undef) rfl (by kernel_rfl) (by kernel_rfl) (by kernel_rfl) (fun _ _ _ h => h) (Or.inr ⟨by rfl,rfl⟩) hS ?_
          simp only [Act.put,List.getElem_toArray,List.getElem_cons_succ,List.getElem_cons_zero,List.setIfInBounds_toArray,List.set_cons_zero,List.set_cons_succ]
          refine wpAnyH_take (i:=8) (v:=undef) rfl (by kernel_rfl) (by kernel_rfl) (by kernel_rfl) (fun _ _ _ h => h) (Or.inr ⟨by rfl,rfl⟩) hS ?_
          simp only [Act.put,List.getElem_toArray,List.getElem_cons_succ,List.getElem_cons_zero,List.setIfInBounds_toArray,List.set_cons_zero,List.set_cons_succ]
          refine wpAnyH_take (i:=9) (v:=undef) rfl (by kernel_rfl) (by kernel_rfl) (by kernel_rfl) (fun _ _ _ h => h) (Or.inr ⟨by rfl,rfl⟩) hS ?_
          simp only [Act.put,List.getElem_toArray,List.getElem_cons_succ,List.getElem_cons_zero,List.setIfInBounds_toArray,List.set_cons_zero,List.set_cons_succ]
          refine wpAnyH_take (i:=10) (v:=undef) rfl (by kernel_rfl) (by kernel_rfl) (by kernel_rfl) (fun _ _ _ h => h) (Or.inr ⟨by rfl,rfl⟩) hS ?_
          simp only [Act.put,List.getElem_toArray,List.getElem_cons_succ,List.getElem_cons_zero,List.setIfInBounds_toArray,List.set_cons_zero,List.set_cons_succ]
          refine wpAnyH_take (i:=11) (v:=.bool false) rfl (by kernel_rfl) (by kernel_rfl) (by kernel_rfl) (fun _ _ _ h => h) (Or.inl ⟨by rfl,fun wx hx => by simp [go_sem]⟩) hS ?_
          simp only [Act.put,List.getElem_toArray,List.getElem_cons_succ,List.getElem_cons_zero,List.setIfInBounds_toArray,List.set_cons_zero,List.set_cons_succ]
          refine wpAnyH_done (by kernel_rfl) ?_ _
          go_wp2
          go_meet
          case rel => exact ⟨rfl,hI⟩
        | false =>
          refine wp_region_held_drew (S:=Below go wG) (by kernel_rfl) HI.out.drew.bel ?_
          intro hS
          have hI:=HI.out.drew
          clear HI
          change wpAnyH _ _ _ _ _ _ _ _ (World.drew wr)
          generalize World.drew wr = y0 at *
          refine wpAnyH_take (i:=0) (v:=.bool false) rfl (by kernel_rfl) (by kernel_rfl) (by kernel_rfl) (fun _ _ _ h => h) (Or.inl ⟨by rfl,fun wx hx => by simp [go_sem]⟩) hS ?_
          simp only [Act.put,List.getElem_toArray,List.getElem_cons_zero,List.setIfInBounds_toArray,List.set_cons_zero,List.set_cons_succ]
          refine wpAnyH_take (i:=1) (v:=.bool true) rfl (by kernel_rfl) (by kernel_rfl) (by kernel_rfl) (fun _ _ _ h => h) (Or.inl ⟨by rfl,fun wx hx => by simp [go_sem]⟩) hS ?_
          simp only [Act.put,List.getElem_toArray,List.getElem_cons_succ,List.getElem_cons_zero,List.setIfInBounds_toArray,List.set_cons_zero,List.set_cons_succ]
          refine wpAnyH_take (i:=2) (v:=.bool true) rfl (by kernel_rfl) (by kernel_rfl) (by kernel_rfl) (fun _ _ _ h => h) (Or.inl ⟨by rfl,fun wx hx => by simp [go_sem]⟩) hS ?_
          simp only [Act.put,List.getElem_toArray,List.getElem_cons_succ,List.getElem_cons_zero,List.setIfInBounds_toArray,List.set_cons_zero,List.set_cons_succ]
          refine wpAnyH_take (i:=3) (v:=.pointer (some ⟨gl,0,none⟩)) rfl (by kernel_rfl) (by kernel_rfl) (by kernel_rfl) (fun _ _ _ h => h) (Or.inl ⟨by rfl,fun wx hx => by simp [go_sem]⟩) hS ?_
          simp only [Act.put,List.getElem_toArray,List.getElem_cons_succ,List.getElem_cons_zero,List.setIfInBounds_toArray,List.set_cons_zero,List.set_cons_succ]
          refine wpAnyH_take (i:=4) (v:=.slice (some ⟨ba,offa,none⟩) n cpa) rfl (by kernel_rfl) (by kernel_rfl) (by kernel_rfl) (fun _ _ _ h => h) (Or.inl ⟨by rfl,fun wx hx => by (have hc:=HCA.out wx hx;simp [go_sem,hc])⟩) hS ?_
          simp only [Act.put,List.getElem_toArray,List.getElem_cons_succ,List.getElem_cons_zero,List.setIfInBounds_toArray,List.set_cons_zero,List.set_cons_succ]
          refine wpAnyH_take (i:=5) (v:=.int .i64 (k:Int)) rfl (by kernel_rfl) (by kernel_rfl) (by kernel_rfl) (fun _ _ _ h => h) (Or.inl ⟨by rfl,fun wx hx => by simp [go_sem]⟩) hS ?_
          simp only [Act.put,List.getElem_toArray,List.getElem_cons_succ,List.getElem_cons_zero,List.setIfInBounds_toArray,List.set_cons_zero,List.set_cons_succ]
          refine wpAnyH_take (i:=6) (v:=.pointer (some ⟨ba,offa + k * 32,none⟩)) rfl (by kernel_rfl) (by kernel_rfl) (by kernel_rfl) (fun _ _ _ h => h) (Or.inl ⟨by rfl,fun wx hx => by (simp [go_sem,hlti,k0])⟩) hS ?_
          simp only [Act.put,List.getElem_toArray,List.getElem_cons_succ,List.getElem_cons_zero,List.setIfInBounds_toArray,List.set_cons_zero,List.set_cons_succ]
          refine wpAnyH_take (i:=7) (v:=.agg (cb da).toArray) rfl (by kernel_rfl) (by kernel_rfl) (by kernel_rfl) (fun _ _ _ h => h) (Or.inl ⟨by rfl,fun wx hx => by exact load_run 39 _ rfl _ _ rfl (cb da) _ (HRA.out wx hx) Tryz.underlying39 rfl (by rw [cb_len,HA32.out];exact info_digest)⟩) hS ?_
          simp only [Act.put,List.getElem_toArray,List.getElem_cons_succ,List.getElem_cons_zero,List.setIfInBounds_toArray,List.set_cons_zero,List.set_cons_succ]
          refine wpAnyH_take (i:=8) (v:=.agg (cb x).toArray) rfl (by kernel_rfl) (by kernel_rfl) (by kernel_rfl) (fun _ _ _ h => h) (Or.inl ⟨by rfl,fun wx hx => by exact loadDigest _ (gl + 1) x HX32.out (HCX.out wx hx) rfl rfl⟩) hS ?_
          simp only [Act.put,List.getElem_toArray,List.getElem_cons_succ,List.getElem_cons_zero,List.setIfInBounds_toArray,List.set_cons_zero,List.set_cons_succ]
          refine wpAnyH_enter 9 (by kernel_rfl) rfl (by rfl) (f:=27) (args:=#[.agg (cb da).toArray,.agg (cb x).toArray]) (by simp [go_sem]) (sLess_any da x HA32.out HX32.out _) ?_
          rintro e wy ⟨rfl,hbq⟩
          rw [HLS.out]
          replace hI:=hI.next hbq
          refine ⟨_,rfl,hI.bel,?_⟩
          replace hS:=hI.bel
          clear hbq
          simp only [Act.put,List.getElem_toArray,List.getElem_cons_succ,List.getElem_cons_zero,List.setIfInBounds_toArray,List.set_cons_zero,List.set_cons_succ]
          refine wpAnyH_take (i:=10) (v:=.bool (!ls)) rfl (by kernel_rfl) (by kernel_rfl) (by kernel_rfl) (fun _ _ _ h => h) (Or.inl ⟨by rfl,fun wx hx => by simp [go_sem]⟩) hS ?_
          simp only [Act.put,List.getElem_toArray,List.getElem_cons_succ,List.getElem_cons_zero,List.setIfInBounds_toArray,List.set_cons_zero,List.set_cons_succ]
          refine wpAnyH_take (i:=11) (v:=.bool (!ls)) rfl (by kernel_rfl) (by kernel_rfl) (by kernel_rfl) (fun _ _ _ h => h) (Or.inl ⟨by rfl,fun wx hx => by simp [go_sem]⟩) hS ?_
          simp only [Act.put,List.getElem_toArray,List.getElem_cons_succ,List.getElem_cons_zero,List.setIfInBounds_toArray,List.set_cons_zero,List.set_cons_succ]
          refine wpAnyH_done (by kernel_rfl) ?_ _
          go_wp2
          go_meet
          case rel => exact ⟨rfl,hI⟩
      case rest =>
        clear HI ca
        obtain ⟨rfl,hcut⟩:=hcut
        have HI:Hid (Lv wG go xa xv (A.map (·.1)) (A.map (·.2)) wc):=hcut
        clear hcut
        obtain ⟨wz,HWQ⟩:∃ z,Hid (z = wc):=⟨_,rfl⟩
        rw [← HWQ.out] at HI ⊢
        clear HWQ
        obtain ⟨A2,HA2⟩:∃ z,Hid (z = if !pt && !ls then A ++ [(x,v)] else A):=⟨_,rfl⟩
        rw [← HA2.out] at HNX
        go_upto_if 29 with fail
        go_cut [8] from 29 to 41 (fun b W => b = .bool (pt || !ls) ∧ ∃ xa xv,Lv wG go xa xv (A2.map (·.1)) (A2.map (·.2)) W)
        case first =>
          by_cases hc:(!pt && !ls) = true
          · rw [hc]
            have HA3:Hid (A2 = A ++ [(x,v)]):=by show _ = _;rw [HA2.out,hc];rfl
            obtain ⟨hp1,hp2⟩:pt = false ∧ ls = false:=by cases pt <;> cases ls <;> simp at hc ⊢
            subst hp1 hp2
            clear hc
            have hI:=HI.out
            obtain ⟨aB,cB,hxB⟩:=hI.own.a.slice
            obtain ⟨nB,HNB⟩:∃ z:Nat,Hid (z = (A.map (·.1)).length):=⟨_,rfl⟩
            rw [← HNB.out] at hxB
            have hce:wz.cell? ⟨go,0,none⟩ = some xa:=hI.out.cell 0
            subst hxB
            clear hI
            go_upto_region 8 with (first
              | (with_reducible refine wpSeq_loadD (.tmp 4) (gl + 1) x ?_ ?_ ?_ ?_ ?_ ?_
                 · exact HX32.out
                 · exact HCX.out _ HI.out.bel
                 · with_reducible rfl
                 · rfl
                 · rfl)
              | (with_reducible refine wpSeq_buildD (.tmp 32) x ?_ ?_ ?_ ?_ ?_
                 · exact HX32.out
                 · with_reducible rfl
                 · rfl
                 · rfl
                 intro g8 w8 n8
                 have hI8:=HI.out.next n8.below
                 have HU:Hid (Blk w8 g8 (cb x) 39):=n8.blk
                 clear n8 HI hce)
              | (with_reducible refine wpSeq_appendD (.tmp 31) (.tmp 33) (go + 1) (.slice aB nB cB) _ x g8 hI8.own.a HU.out HX32.out ?_ (Nat.succ_le_of_lt hI8.out.lt) ?_ ?_ ?_ ?_ ?_
                 · rw [List.length_map];exact Nat.lt_of_lt_of_le HAL.out (by decide)
                 · with_reducible rfl
                 · rfl
                 · rfl
                 · rfl
                 intro z9 w9 o9 g9
                 have hJ:=hI8.addA o9 g9
                 have hb9:=hI8.out.grow g9 (fun j hj => (hI8.own.a.lt j hj).1) (Nat.lt_succ_self _)
                 have hc9:=hb9.cell 0
                 have hf9:=hb9.frozen 0
                 simp only [List.getElem?_cons_zero] at hc9
                 obtain ⟨aB2,cB2,hxB⟩:=o9.slice
                 obtain ⟨nB2,HNB2⟩:∃ z:Nat,Hid (z = (A.map (·.1) ++ [x]).length):=⟨_,rfl⟩
                 rw [← HNB2.out] at hxB
                 subst hxB
                 have HJ:Hid _:=hJ
                 clear o9 g9 hb9 hI8 HU hJ))
            have HI:=HJ
            clear HJ hc9 hf9
            generalize w9.setCell ⟨go,0,none⟩ (.slice aB2 nB2 cB2) = w10 at *
            generalize Value.slice aB2 nB2 cB2 = xa2 at *
            have hI:=HI.out
            obtain ⟨aC,cC,hxC⟩:=hI.own.v.slice
            obtain ⟨nC,HNC⟩:∃ z:Nat,Hid (z = (A.map (·.2)).length):=⟨_,rfl⟩
            rw [← HNC.out] at hxC
            have hce:w10.cell? ⟨go,1,none⟩ = some xv:=hI.out.cell 1
            subst hxC
            clear hI
            go_wp2_with (first
              | (with_reducible refine wpSeq_loadD (.tmp 5) (gl + 2) v ?_ ?_ ?_ ?_ ?_ ?_
                 · exact HY32.out
                 · exact HCY.out _ HI.out.bel
                 · with_reducible rfl
                 · rfl
                 · rfl)
              | (with_reducible refine wpSeq_buildD (.tmp 38) v ?_ ?_ ?_ ?_ ?_
                 · exact HY32.out
                 · with_reducible rfl
                 · rfl
                 · rfl
                 intro g8 w8 n8
                 have hI8:=HI.out.next n8.below
                 have HU:Hid (Blk w8 g8 (cb v) 39):=n8.blk
                 clear n8 HI hce)
              | (with_reducible refine wpSeq_appendD (.tmp 37) (.tmp 39) (go + 1) (.slice aC nC cC) _ v g8 hI8.own.v HU.out HY32.out ?_ (Nat.succ_le_of_lt hI8.out.lt) ?_ ?_ ?_ ?_ ?_
                 · rw [List.length_map];exact Nat.lt_of_lt_of_le HAL.out (by decide)
                 · with_reducible rfl
                 · rfl
                 · rfl
                 · rfl
                 intro z9 w9 o9 g9
                 have hJ:=hI8.addV o9 g9
                 have hb9:=hI8.out.grow g9 (fun j hj => (hI8.own.v.lt j hj).1) (Nat.lt_succ_self _)
                 have hc9:=hb9.cell 1
                 have hf9:=hb9.frozen 1
                 simp only [List.getElem?_cons_succ,List.getElem?_cons_zero] at hc9
                 obtain ⟨aC2,cC2,hxC⟩:=o9.slice
                 obtain ⟨nC2,HNC2⟩:∃ z:Nat,Hid (z = (A.map (·.2) ++ [v]).length):=⟨_,rfl⟩
                 rw [← HNC2.out] at hxC
                 subst hxC
                 have HJ:Hid _:=hJ
                 clear o9 g9 hb9 hI8 HU hJ))
            go_meet
            case rel => exact ⟨rfl,_,_,by rw [HA3.out];simpa using HJ.out⟩
          · have hc2:(!pt && !ls) = false:=by simpa using hc
            rw [hc2]
            have HA3:Hid (A2 = A):=by show _ = _;rw [HA2.out,hc2];rfl
            have HPL:Hid ((pt || !ls) = pt):=by show _ = _;cases pt <;> cases ls <;> simp at hc2 ⊢
            go_wp2
            go_meet
            case rel => exact ⟨by rw [HPL.out],_,_,by rw [HA3.out];exact HI.out⟩
        case rest =>
          clear HI
          obtain ⟨rfl,xa1,xv1,hcut⟩:=hcut
          have HI:Hid (Lv wG go xa1 xv1 (A2.map (·.1)) (A2.map (·.2)) wc):=hcut
          clear hcut
          have HAL2:Hid (A2.length < 1600000):=by
            show _ < _
            have h1:=HAL.out
            rw [HA2.out]
            split
            · rw [List.length_append];simp;omega
            · omega
          obtain ⟨wz2,HWQ⟩:∃ z,Hid (z = wc):=⟨_,rfl⟩
          rw [← HWQ.out] at HI ⊢
          clear HWQ HA2 HAL HPT
          have heq:∀ wx:World,(Op.equalIn 10000 39 (.agg (cb da).toArray) (.agg (cb x).toArray)).run Tryz.prog wx = .ok (decide (da = x)) wx:=fun wx => eq_dig da x HA32.out HX32.out wx
          go_upto_region 10 with fail
          go_cut [48] from 42 to 48 (fun b W => b = .bool (!decide (da = x)) ∧ Lv wG go xa1 xv1 (A2.map (·.1)) (A2.map (·.2)) W)
          case first =>
            refine wp_region_held_drew (S:=Below go wG) (by kernel_rfl) HI.out.drew.bel ?_
            intro hS
            have hI:=HI.out.drew
            clear HI
            change wpAnyH _ _ _ _ _ _ _ _ (World.drew wz2)
            generalize World.drew wz2 = y0 at *
            refine wpAnyH_take (i:=0) (v:=.pointer (some ⟨gl,0,none⟩)) rfl (by kernel_rfl) (by kernel_rfl) (by kernel_rfl) (fun _ _ _ h => h) (Or.inl ⟨by rfl,fun wx hx => by simp [go_sem]⟩) hS ?_
            simp only [Act.put,List.getElem_toArray,List.getElem_cons_zero,List.setIfInBounds_toArray,List.set_cons_zero,List.set_cons_succ]
            refine wpAnyH_take (i:=1) (v:=.slice (some ⟨ba,offa,none⟩) n cpa) rfl (by kernel_rfl) (by kernel_rfl) (by kernel_rfl) (fun _ _ _ h => h) (Or.inl ⟨by rfl,fun wx hx => by (have hc:=HCA.out wx hx;simp [go_sem,hc])⟩) hS ?_
            simp only [Act.put,List.getElem_toArray,List.getElem_cons_succ,List.getElem_cons_zero,List.setIfInBounds_toArray,List.set_cons_zero,List.set_cons_succ]
            refine wpAnyH_take (i:=2) (v:=.int .i64 (k:Int)) rfl (by kernel_rfl) (by kernel_rfl) (by kernel_rfl) (fun _ _ _ h => h) (Or.inl ⟨by rfl,fun wx hx => by simp [go_sem]⟩) hS ?_
            simp only [Act.put,List.getElem_toArray,List.getElem_cons_succ,List.getElem_cons_zero,List.setIfInBounds_toArray,List.set_cons_zero,List.set_cons_succ]
            refine wpAnyH_take (i:=3) (v:=.pointer (some ⟨ba,offa + k * 32,none⟩)) rfl (by kernel_rfl) (by kernel_rfl) (by kernel_rfl) (fun _ _ _ h => h) (Or.inl ⟨by rfl,fun wx hx => by (simp [go_sem,hlti,k0])⟩) hS ?_
            simp only [Act.put,List.getElem_toArray,List.getElem_cons_succ,List.getElem_cons_zero,List.setIfInBounds_toArray,List.set_cons_zero,List.set_cons_succ]
            refine wpAnyH_take (i:=4) (v:=.agg (cb da).toArray) rfl (by kernel_rfl) (by kernel_rfl) (by kernel_rfl) (fun _ _ _ h => h) (Or.inl ⟨by rfl,fun wx hx => by exact load_run 39 _ rfl _ _ rfl (cb da) _ (HRA.out wx hx) Tryz.underlying39 rfl (by rw [cb_len,HA32.out];exact info_digest)⟩) hS ?_
            simp only [Act.put,List.getElem_toArray,List.getElem_cons_succ,List.getElem_cons_zero,List.setIfInBounds_toArray,List.set_cons_zero,List.set_cons_succ]
            refine wpAnyH_take (i:=5) (v:=.agg (cb x).toArray) rfl (by kernel_rfl) (by kernel_rfl) (by kernel_rfl) (fun _ _ _ h => h) (Or.inl ⟨by rfl,fun wx hx => by exact loadDigest _ (gl + 1) x HX32.out (HCX.out wx hx) rfl rfl⟩) hS ?_
            simp only [Act.put,List.getElem_toArray,List.getElem_cons_succ,List.getElem_cons_zero,List.setIfInBounds_toArray,List.set_cons_zero,List.set_cons_succ]
            refine wpAnyH_take (i:=6) (v:=.bool (!decide (da = x))) rfl (by kernel_rfl) (by kernel_rfl) (by kernel_rfl) (fun _ _ _ h => h) (Or.inl ⟨by rfl,fun wx hx => by (have hq:=heq wx;simp [go_sem,hq])⟩) hS ?_
            simp only [Act.put,List.getElem_toArray,List.getElem_cons_succ,List.getElem_cons_zero,List.setIfInBounds_toArray,List.set_cons_zero,List.set_cons_succ]
            refine wpAnyH_done (by kernel_rfl) ?_ _
            go_wp2
            go_meet
            case rel => exact ⟨rfl,hI⟩
          case rest =>
            clear HI heq
            obtain ⟨rfl,hcut⟩:=hcut
            have HI:Hid (Lv wG go xa1 xv1 (A2.map (·.1)) (A2.map (·.2)) wc):=hcut
            clear hcut
            obtain ⟨wq,HWQ⟩:∃ z,Hid (z = wc):=⟨_,rfl⟩
            rw [← HWQ.out] at HI ⊢
            clear HWQ
            by_cases hne:da = x
            · have HN3:Hid (PtI l x v (k + 1) (pt || !ls) A2):=by
                have h:=HNX.out
                rw [decide_eq_false (by simp [hne])] at h
                show PtI _ _ _ _ _ _
                simpa using h
              rw [decide_eq_true hne]
              clear hne HNX
              go_wp2
              go_roundw
              case rel => exact ⟨k + 1,_,_,_,_,by omega,rfl,by simp,HI.out,HN3.out⟩
              case measure => simp [intOf];omega
            · have HN3:Hid (PtI l x v (k + 1) (pt || !ls) (A2 ++ [(da,dv)])):=by
                have h:=HNX.out
                rw [decide_eq_true (by simpa using hne)] at h
                exact h
              rw [decide_eq_false hne]
              clear hne HNX
              go_wp2_with fail
              refine wp_region_held_drew (S:=Below go wG) (by kernel_rfl) HI.out.drew.bel ?_
              intro hS
              have hI:=HI.out.drew
              clear HI
              change wpAnyH _ _ _ _ _ _ _ _ (World.drew wq)
              generalize World.drew wq = yD at *
              refine wpAnyH_take (i:=0) (v:=.pointer (some ⟨go,0,none⟩)) rfl (by kernel_rfl) (by kernel_rfl) (by kernel_rfl) (fun _ _ _ h => h) (Or.inl ⟨by rfl,fun wx hx => by simp [go_sem]⟩) hS ?_
              simp only [Act.put,List.getElem_toArray,List.getElem_cons_zero,List.setIfInBounds_toArray,List.set_cons_zero,List.set_cons_succ]
              refine wpAnyH_take (i:=2) (v:=.pointer (some ⟨gl,0,none⟩)) rfl (by kernel_rfl) (by kernel_rfl) (by kernel_rfl) (fun _ _ _ h => h) (Or.inl ⟨by rfl,fun wx hx => by simp [go_sem]⟩) hS ?_
              simp only [Act.put,List.getElem_toArray,List.getElem_cons_succ,List.getElem_cons_zero,List.setIfInBounds_toArray,List.set_cons_zero,List.set_cons_succ]
              refine wpAnyH_take (i:=4) (v:=.int .i64 (k:Int)) rfl (by kernel_rfl) (by kernel_rfl) (by kernel_rfl) (fun _ _ _ h => h) (Or.inl ⟨by rfl,fun wx hx => by simp [go_sem]⟩) hS ?_
              simp only [Act.put,List.getElem_toArray,List.getElem_cons_succ,List.getElem_cons_zero,List.setIfInBounds_toArray,List.set_cons_zero,List.set_cons_succ]
              refine wpAnyH_take (i:=3) (v:=.slice (some ⟨ba,offa,none⟩) n cpa) rfl (by kernel_rfl) (by kernel_rfl) (by kernel_rfl) (fun _ _ _ h => h) (Or.inl ⟨by rfl,fun wx hx => by (have hc:=HCA.out wx hx;simp [go_sem,hc])⟩) hS ?_
              simp only [Act.put,List.getElem_toArray,List.getElem_cons_succ,List.getElem_cons_zero,List.setIfInBounds_toArray,List.set_cons_zero,List.set_cons_succ]
              refine wpAnyH_take (i:=5) (v:=.pointer (some ⟨ba,offa + k * 32,none⟩)) rfl (by kernel_rfl) (by kernel_rfl) (by kernel_rfl) (fun _ _ _ h => h) (Or.inl ⟨by rfl,fun wx hx => by (simp [go_sem,hlti,k0])⟩) hS ?_
              simp only [Act.put,List.getElem_toArray,List.getElem_cons_succ,List.getElem_cons_zero,List.setIfInBounds_toArray,List.set_cons_zero,List.set_cons_succ]
              refine wpAnyH_take (i:=6) (v:=.agg (cb da).toArray) rfl (by kernel_rfl) (by kernel_rfl) (by kernel_rfl) (fun _ _ _ h => h) (Or.inl ⟨by rfl,fun wx hx => by exact load_run 39 _ rfl _ _ rfl (cb da) _ (HRA.out wx hx) Tryz.underlying39 rfl (by rw [cb_len,HA32.out];exact info_digest)⟩) hS ?_
              simp only [Act.put,List.getElem_toArray,List.getElem_cons_succ,List.getElem_cons_zero,List.setIfInBounds_toArray,List.set_cons_zero,List.set_cons_succ]
              have hnb:=NewB.of da yD
              have hn1:=hI.next hnb.below
              obtain ⟨aD,cD,hxD⟩:=hI.own.a.slice
              obtain ⟨nD,HND⟩:∃ z:Nat,Hid (z = (A2.map (·.1)).length):=⟨_,rfl⟩
              rw [← HND.out] at hxD
              have hce:yD.cell? ⟨go,0,none⟩ = some xa1:=hI.out.cell 0
              have hce2:(yD.alloc (.cells (cb da).toArray 39)).cell? ⟨go,0,none⟩ = some xa1:=hn1.out.cell 0
              subst hxD
              refine wpAnyH_comm 1 7 (.slice aD nD cD) (.slice (some ⟨yD.heap.size,0,none⟩) 1 1) (yD.alloc (.cells (cb da).toArray 39)) (by kernel_rfl) rfl rfl (by rfl) (by rfl) (by rfl) (by rfl) (by simp [go_sem,hce]) (buildD _ _ _ rfl da HA32.out rfl _) (by simp [go_sem,hce2]) (buildD _ _ _ rfl da HA32.out rfl _) (by kernel_rfl) (by kernel_rfl) (by rfl) (by rfl) hS hn1.bel ?_
              simp only [Act.put,List.getElem_toArray,List.getElem_cons_succ,List.getElem_cons_zero,List.setIfInBounds_toArray,List.set_cons_zero,List.set_cons_succ]
              have hI2:=hn1
              have HU:Hid (Blk (yD.alloc (.cells (cb da).toArray 39)) yD.heap.size (cb da) 39):=hnb.blk
              clear hn1 hnb hce hce2 hS hI
              refine wpAnyH_law 8 (by kernel_rfl) rfl (by rfl) (wp_appendG (.tmp 50) (.tmp 56) (go + 1) (.slice aD nD cD) _ da yD.heap.size hI2.own.a HU.out HA32.out (by rw [List.length_map];exact Nat.lt_of_lt_of_le HAL2.out (by decide)) hI2.out.lt rfl rfl rfl ?_)
              intro zD qD hoD hgD
              have hI:=hI2.addA hoD hgD
              have hsq:Below go wG qD:=hI2.bel.trans (hgD.below.mono (Nat.le_succ _))
              have hbq:=hI2.out.grow hgD (fun j hj => (hI2.own.a.lt j hj).1) (Nat.lt_succ_self _)
              have hcq:=hbq.cell 0
              have hfq:=hbq.frozen 0
              obtain ⟨aD2,cD2,hxD⟩:=hoD.slice
              obtain ⟨nD2,HND2⟩:∃ z:Nat,Hid (z = (A2.map (·.1) ++ [da]).length):=⟨_,rfl⟩
              rw [← HND2.out] at hxD
              subst hxD
              refine ⟨hsq,?_⟩
              simp only [Act.put,List.getElem_toArray,List.getElem_cons_succ,List.getElem_cons_zero,List.setIfInBounds_toArray,List.set_cons_zero,List.set_cons_succ]
              refine wpAnyH_take (i:=9) (v:=.pointer (some ⟨go,0,none⟩)) rfl (by kernel_rfl) (by kernel_rfl) (by kernel_rfl) (fun _ _ _ h => h) (Or.inl ⟨by rfl,fun wx hx => by simp [go_sem]⟩) hsq ?_
              simp only [Act.put,List.getElem_toArray,List.getElem_cons_succ,List.getElem_cons_zero,List.setIfInBounds_toArray,List.set_cons_zero,List.set_cons_succ]
              refine wpAnyH_skip 10 (qD.setCell ⟨go,0,none⟩ (.slice aD2 nD2 cD2)) (by kernel_rfl) rfl (by rfl) (by simp [go_sem,hcq,hfq]) hI.bel ?_
              simp only [Act.put,List.getElem_toArray,List.getElem_cons_succ,List.getElem_cons_zero]
              refine wpAnyH_done (by kernel_rfl) ?_ _
              clear hoD hgD hsq hbq hcq hfq hI2 HU
              generalize qD.setCell ⟨go,0,none⟩ (.slice aD2 nD2 cD2) = WD at *
              have HI:Hid (Lv wG go (.slice aD2 nD2 cD2) xv1 (A2.map (·.1) ++ [da]) (A2.map (·.2)) WD):=hI
              clear hI HRA HCA
              generalize Value.slice aD2 nD2 cD2 = xa2 at *
              go_wp2_with fail
              refine wp_region_held_drew (S:=Below go wG) (by kernel_rfl) HI.out.drew.bel ?_
              intro hS
              have hI:=HI.out.drew
              clear HI
              change wpAnyH _ _ _ _ _ _ _ _ (World.drew WD)
              generalize World.drew WD = yE at *
              refine wpAnyH_take (i:=0) (v:=.pointer (some ⟨go,1,none⟩)) rfl (by kernel_rfl) (by kernel_rfl) (by kernel_rfl) (fun _ _ _ h => h) (Or.inl ⟨by rfl,fun wx hx => by simp [go_sem]⟩) hS ?_
              simp only [Act.put,List.getElem_toArray,List.getElem_cons_zero,List.setIfInBounds_toArray,List.set_cons_zero,List.set_cons_succ]
              refine wpAnyH_take (i:=2) (v:=.pointer (some ⟨gl,1,none⟩)) rfl (by kernel_rfl) (by kernel_rfl) (by kernel_rfl) (fun _ _ _ h => h) (Or.inl ⟨by rfl,fun wx hx => by simp [go_sem]⟩) hS ?_
              simp only [Act.put,List.getElem_toArray,List.getElem_cons_succ,List.getElem_cons_zero,List.setIfInBounds_toArray,List.set_cons_zero,List.set_cons_succ]
              refine wpAnyH_take (i:=4) (v:=.int .i64 (k:Int)) rfl (by kernel_rfl) (by kernel_rfl) (by kernel_rfl) (fun _ _ _ h => h) (Or.inl ⟨by rfl,fun wx hx => by simp [go_sem]⟩) hS ?_
              simp only [Act.put,List.getElem_toArray,List.getElem_cons_succ,List.getElem_cons_zero,List.setIfInBounds_toArray,List.set_cons_zero,List.set_cons_succ]
              refine wpAnyH_take (i:=3) (v:=.slice (some ⟨bv,offv,none⟩) n cpv) rfl (by kernel_rfl) (by kernel_rfl) (by kernel_rfl) (fun _ _ _ h => h) (Or.inl ⟨by rfl,fun wx hx => by (have hc:=HCV.out wx hx;simp [go_sem,hc])⟩) hS ?_
              simp only [Act.put,List.getElem_toArray,List.getElem_cons_succ,List.getElem_cons_zero,List.setIfInBounds_toArray,List.set_cons_zero,List.set_cons_succ]
              refine wpAnyH_take (i:=5) (v:=.pointer (some ⟨bv,offv + k * 32,none⟩)) rfl (by kernel_rfl) (by kernel_rfl) (by kernel_rfl) (fun _ _ _ h => h) (Or.inl ⟨by rfl,fun wx hx => by (simp [go_sem,hlti,k0])⟩) hS ?_
              simp only [Act.put,List.getElem_toArray,List.getElem_cons_succ,List.getElem_cons_zero,List.setIfInBounds_toArray,List.set_cons_zero,List.set_cons_succ]
              refine wpAnyH_take (i:=6) (v:=.agg (cb dv).toArray) rfl (by kernel_rfl) (by kernel_rfl) (by kernel_rfl) (fun _ _ _ h => h) (Or.inl ⟨by rfl,fun wx hx => by exact load_run 39 _ rfl _ _ rfl (cb dv) _ (HRV.out wx hx) Tryz.underlying39 rfl (by rw [cb_len,HV32.out];exact info_digest)⟩) hS ?_
              simp only [Act.put,List.getElem_toArray,List.getElem_cons_succ,List.getElem_cons_zero,List.setIfInBounds_toArray,List.set_cons_zero,List.set_cons_succ]
              have hnb:=NewB.of dv yE
              have hn1:=hI.next hnb.below
              obtain ⟨aE,cE,hxE⟩:=hI.own.v.slice
              obtain ⟨nE,HNE⟩:∃ z:Nat,Hid (z = (A2.map (·.2)).length):=⟨_,rfl⟩
              rw [← HNE.out] at hxE
              have hce:yE.cell? ⟨go,1,none⟩ = some xv1:=hI.out.cell 1
              have hce2:(yE.alloc (.cells (cb dv).toArray 39)).cell? ⟨go,1,none⟩ = some xv1:=hn1.out.cell 1
              subst hxE
              refine wpAnyH_comm 1 7 (.slice aE nE cE) (.slice (some ⟨yE.heap.size,0,none⟩) 1 1) (yE.alloc (.cells (cb dv).toArray 39)) (by kernel_rfl) rfl rfl (by rfl) (by rfl) (by rfl) (by rfl) (by simp [go_sem,hce]) (buildD _ _ _ rfl dv HV32.out rfl _) (by simp [go_sem,hce2]) (buildD _ _ _ rfl dv HV32.out rfl _) (by kernel_rfl) (by kernel_rfl) (by rfl) (by rfl) hS hn1.bel ?_
              simp only [Act.put,List.getElem_toArray,List.getElem_cons_succ,List.getElem_cons_zero,List.setIfInBounds_toArray,List.set_cons_zero,List.set_cons_succ]
              have hI2:=hn1
              have HU:Hid (Blk (yE.alloc (.cells (cb dv).toArray 39)) yE.heap.size (cb dv) 39):=hnb.blk
              clear hn1 hnb hce hce2 hS hI
              refine wpAnyH_law 8 (by kernel_rfl) rfl (by rfl) (wp_appendG (.tmp 60) (.tmp 66) (go + 1) (.slice aE nE cE) _ dv yE.heap.size hI2.own.v HU.out HV32.out (by rw [List.length_map];exact Nat.lt_of_lt_of_le HAL2.out (by decide)) hI2.out.lt rfl rfl rfl ?_)
              intro zE qE hoE hgE
              have hI:=hI2.addV hoE hgE
              have hsq:Below go wG qE:=hI2.bel.trans (hgE.below.mono (Nat.le_succ _))
              have hbq:=hI2.out.grow hgE (fun j hj => (hI2.own.v.lt j hj).1) (Nat.lt_succ_self _)
              have hcq:=hbq.cell 1
              have hfq:=hbq.frozen 1
              obtain ⟨aE2,cE2,hxE⟩:=hoE.slice
              obtain ⟨nE2,HNE2⟩:∃ z:Nat,Hid (z = (A2.map (·.2) ++ [dv]).length):=⟨_,rfl⟩
              rw [← HNE2.out] at hxE
              subst hxE
              refine ⟨hsq,?_⟩
              simp only [Act.put,List.getElem_toArray,List.getElem_cons_succ,List.getElem_cons_zero,List.setIfInBounds_toArray,List.set_cons_zero,List.set_cons_succ]
              refine wpAnyH_take (i:=9) (v:=.pointer (some ⟨go,1,none⟩)) rfl (by kernel_rfl) (by kernel_rfl) (by kernel_rfl) (fun _ _ _ h => h) (Or.inl ⟨by rfl,fun wx hx => by simp [go_sem]⟩) hsq ?_
              simp only [Act.put,List.getElem_toArray,List.getElem_cons_succ,List.getElem_cons_zero,List.setIfInBounds_toArray,List.set_cons_zero,List.set_cons_succ]
              refine wpAnyH_skip 10 (qE.setCell ⟨go,1,none⟩ (.slice aE2 nE2 cE2)) (by kernel_rfl) rfl (by rfl) (by simp [go_sem,hcq,hfq]) hI.bel ?_
              simp only [Act.put,List.getElem_toArray,List.getElem_cons_succ,List.getElem_cons_zero]
              refine wpAnyH_done (by kernel_rfl) ?_ _
              clear hoE hgE hsq hbq hcq hfq hI2 HU
              generalize qE.setCell ⟨go,1,none⟩ (.slice aE2 nE2 cE2) = WE at *
              have HJ:Hid (Lv wG go xa2 (.slice aE2 nE2 cE2) ((A2 ++ [(da,dv)]).map (·.1)) ((A2 ++ [(da,dv)]).map (·.2)) WE):=by
                show Lv _ _ _ _ _ _ _
                simpa using hI
              clear hI
              go_wp2
              go_roundw
              case rel => exact ⟨k + 1,_,_,_,_,by omega,rfl,by simp,HJ.out,HN3.out⟩
              case measure => simp [intOf];omega
    · have hkn:k = n:=by omega
      subst hkn
      have ht:l.take k = l:=by rw [HN.out];exact List.take_length
      have HDN:Hid (putL l x v = A ++ if pt then [] else [(x,v)]):=HPT.out.done ht
      clear HPT ht
      cases pt with
      | true =>
        replace HDN:Hid (putL l x v = A):=by have h:=HDN.out;show _ = _;simpa using h
        have hI2:=HI.out
        obtain ⟨adx,cpx,hxa⟩:=hI2.own.a.slice
        obtain ⟨adw,cpw,hxv⟩:=hI2.own.v.slice
        obtain ⟨nx,HNX⟩:∃ z:Nat,Hid (z = (A.map (·.1)).length):=⟨_,rfl⟩
        obtain ⟨nw,HNW⟩:∃ z:Nat,Hid (z = (A.map (·.2)).length):=⟨_,rfl⟩
        rw [← HNX.out] at hxa
        rw [← HNW.out] at hxv
        subst hxa hxv
        have HE:Hid (Lv wG go (.slice adx nx cpx) (.slice adw nw cpw) (A.map (·.1)) (A.map (·.2)) wr):=hI2
        have d0:wr.cell? ⟨go,0,none⟩ = some (.slice adx nx cpx):=hI2.out.cell 0
        have d1:wr.cell? ⟨go,1,none⟩ = some (.slice adw nw cpw):=hI2.out.cell 1
        have hr:=HRB.out.below hI2.bel (by have:=HSZ.out;omega)
        have r0:wr.cell? ⟨gl + 3,0,none⟩ = some (.slice none 0 0):=hr.cell 0
        have r1:wr.cell? ⟨gl + 3,1,none⟩ = some (.slice none 0 0):=hr.cell 1
        have q0:wr.frozen? ⟨gl + 3,0,none⟩ = false:=hr.frozen 0
        have q1:wr.frozen? ⟨gl + 3,1,none⟩ = false:=hr.frozen 1
        have HRR:Hid (Blk wr (gl + 3) [nilV,nilV] 43):=hr
        clear hI2 hr HI
        go_wp2
        have hB6:Blk ((wr.setCell ⟨gl + 3,0,none⟩ (.slice adx nx cpx)).setCell ⟨gl + 3,1,none⟩ (.slice adw nw cpw)) (gl + 3) [.slice adx nx cpx,.slice adw nw cpw] 43:=(HRR.out.set 0 _).set 1 _
        refine bodyPost_ret (v:=.agg [.slice adx nx cpx,.slice adw nw cpw].toArray) (results_cell_row (by rfl) _ _ (gl + 3) 43 _ (0,0) _ rfl hB6 Tryz.underlying43 rfl (by kernel_rfl)) rfl ⟨_,_,rfl,?_,?_⟩
        · rw [HDN.out]
          refine (HE.out.own.keep fun j h1 _ => ?_).mono (by have h1:=HSZ.out;have h2:=HGL.out;omega)
          rw [Below.heap_setCell _ _ _ _ (by show j ≠ gl + 3;have:=HSZ.out;omega),Below.heap_setCell _ _ _ _ (by show j ≠ gl + 3;have:=HSZ.out;omega)]
        · exact ((HBW.out.trans (HE.out.bel.mono (by have h1:=HSZ.out;have h2:=HGL.out;omega))).setCell (by show w.heap.size ≤ gl + 3;have:=HGL.out;omega) _).setCell (by show w.heap.size ≤ gl + 3;have:=HGL.out;omega) _
      | false =>
        replace HDN:Hid (putL l x v = A ++ [(x,v)]):=by have h:=HDN.out;show _ = _;simpa using h
        have hI:=HI.out
        obtain ⟨aB,cB,hxB⟩:=hI.own.a.slice
        obtain ⟨nB,HNB⟩:∃ z:Nat,Hid (z = (A.map (·.1)).length):=⟨_,rfl⟩
        rw [← HNB.out] at hxB
        have hce:wr.cell? ⟨go,0,none⟩ = some xa:=hI.out.cell 0
        subst hxB
        clear hI
        go_upto_region 15 with (first
          | (with_reducible refine wpSeq_loadD (.tmp 4) (gl + 1) x ?_ ?_ ?_ ?_ ?_ ?_
             · exact HX32.out
             · exact HCX.out _ HI.out.bel
             · with_reducible rfl
             · rfl
             · rfl)
          | (with_reducible refine wpSeq_buildD (.tmp 73) x ?_ ?_ ?_ ?_ ?_
             · exact HX32.out
             · with_reducible rfl
             · rfl
             · rfl
             intro g8 w8 n8
             have hI8:=HI.out.next n8.below
             have HU:Hid (Blk w8 g8 (cb x) 39):=n8.blk
             clear n8 HI hce)
          | (with_reducible refine wpSeq_appendD (.tmp 72) (.tmp 74) (go + 1) (.slice aB nB cB) _ x g8 hI8.own.a HU.out HX32.out ?_ (Nat.succ_le_of_lt hI8.out.lt) ?_ ?_ ?_ ?_ ?_
             · rw [List.length_map];exact Nat.lt_of_lt_of_le HAL.out (by decide)
             · with_reducible rfl
             · rfl
             · rfl
             · rfl
             intro z9 w9 o9 g9
             have hJ:=hI8.addA o9 g9
             have hb9:=hI8.out.grow g9 (fun j hj => (hI8.own.a.lt j hj).1) (Nat.lt_succ_self _)
             have hc9:=hb9.cell 0
             have hf9:=hb9.frozen 0
             simp only [List.getElem?_cons_zero] at hc9
             obtain ⟨aB2,cB2,hxB⟩:=o9.slice
             obtain ⟨nB2,HNB2⟩:∃ z:Nat,Hid (z = (A.map (·.1) ++ [x]).length):=⟨_,rfl⟩
             rw [← HNB2.out] at hxB
             subst hxB
             have HJ:Hid _:=hJ
             clear o9 g9 hb9 hI8 HU hJ))
        have HI:=HJ
        clear HJ hc9 hf9
        generalize w9.setCell ⟨go,0,none⟩ (.slice aB2 nB2 cB2) = w10 at *
        generalize Value.slice aB2 nB2 cB2 = xa2 at *
        have hI:=HI.out
        obtain ⟨aC,cC,hxC⟩:=hI.own.v.slice
        obtain ⟨nC,HNC⟩:∃ z:Nat,Hid (z = (A.map (·.2)).length):=⟨_,rfl⟩
        rw [← HNC.out] at hxC
        have hce:w10.cell? ⟨go,1,none⟩ = some xv:=hI.out.cell 1
        subst hxC
        clear hI
        go_upto_region 16 with (first
          | (with_reducible refine wpSeq_loadD (.tmp 5) (gl + 2) v ?_ ?_ ?_ ?_ ?_ ?_
             · exact HY32.out
             · exact HCY.out _ HI.out.bel
             · with_reducible rfl
             · rfl
             · rfl)
          | (with_reducible refine wpSeq_buildD (.tmp 79) v ?_ ?_ ?_ ?_ ?_
             · exact HY32.out
             · with_reducible rfl
             · rfl
             · rfl
             intro g8 w8 n8
             have hI8:=HI.out.next n8.below
             have HU:Hid (Blk w8 g8 (cb v) 39):=n8.blk
             clear n8 HI hce)
          | (with_reducible refine wpSeq_appendD (.tmp 78) (.tmp 80) (go + 1) (.slice aC nC cC) _ v g8 hI8.own.v HU.out HY32.out ?_ (Nat.succ_le_of_lt hI8.out.lt) ?_ ?_ ?_ ?_ ?_
             · rw [List.length_map];exact Nat.lt_of_lt_of_le HAL.out (by decide)
             · with_reducible rfl
             · rfl
             · rfl
             · rfl
             intro z9 w9 o9 g9
             have hJ:=hI8.addV o9 g9
             have hb9:=hI8.out.grow g9 (fun j hj => (hI8.own.v.lt j hj).1) (Nat.lt_succ_self _)
             have hc9:=hb9.cell 1
             have hf9:=hb9.frozen 1
             simp only [List.getElem?_cons_succ,List.getElem?_cons_zero] at hc9
             obtain ⟨aC2,cC2,hxC⟩:=o9.slice
             obtain ⟨nC2,HNC2⟩:∃ z:Nat,Hid (z = (A.map (·.2) ++ [v]).length):=⟨_,rfl⟩
             rw [← HNC2.out] at hxC
             subst hxC
             have HJ:Hid _:=hJ
             clear o9 g9 hb9 hI8 HU hJ))
        have HI:Hid (Lv wG go xa2 (.slice aC2 nC2 cC2) ((A ++ [(x,v)]).map (·.1)) ((A ++ [(x,v)]).map (·.2)) (w9.setCell ⟨go,1,none⟩ (.slice aC2 nC2 cC2))):=by
          show Lv _ _ _ _ _ _ _
          simpa using HJ.out
        clear HJ hc9 hf9
        generalize w9.setCell ⟨go,1,none⟩ (.slice aC2 nC2 cC2) = w11 at *
        generalize Value.slice aC2 nC2 cC2 = xv2 at *
        have hI2:=HI.out
        obtain ⟨adx,cpx,hxa⟩:=hI2.own.a.slice
        obtain ⟨adw,cpw,hxv⟩:=hI2.own.v.slice
        obtain ⟨nx,HNX⟩:∃ z:Nat,Hid (z = ((A ++ [(x,v)]).map (·.1)).length):=⟨_,rfl⟩
        obtain ⟨nw,HNW⟩:∃ z:Nat,Hid (z = ((A ++ [(x,v)]).map (·.2)).length):=⟨_,rfl⟩
        rw [← HNX.out] at hxa
        rw [← HNW.out] at hxv
        subst hxa hxv
        have HE:Hid (Lv wG go (.slice adx nx cpx) (.slice adw nw cpw) ((A ++ [(x,v)]).map (·.1)) ((A ++ [(x,v)]).map (·.2)) w11):=hI2
        have d0:w11.cell? ⟨go,0,none⟩ = some (.slice adx nx cpx):=hI2.out.cell 0
        have d1:w11.cell? ⟨go,1,none⟩ = some (.slice adw nw cpw):=hI2.out.cell 1
        have hr:=HRB.out.below hI2.bel (by have:=HSZ.out;omega)
        have r0:w11.cell? ⟨gl + 3,0,none⟩ = some (.slice none 0 0):=hr.cell 0
        have r1:w11.cell? ⟨gl + 3,1,none⟩ = some (.slice none 0 0):=hr.cell 1
        have q0:w11.frozen? ⟨gl + 3,0,none⟩ = false:=hr.frozen 0
        have q1:w11.frozen? ⟨gl + 3,1,none⟩ = false:=hr.frozen 1
        have HRR:Hid (Blk w11 (gl + 3) [nilV,nilV] 43):=hr
        clear hI2 hr HI
        go_wp2
        have hB6:Blk ((w11.setCell ⟨gl + 3,0,none⟩ (.slice adx nx cpx)).setCell ⟨gl + 3,1,none⟩ (.slice adw nw cpw)) (gl + 3) [.slice adx nx cpx,.slice adw nw cpw] 43:=(HRR.out.set 0 _).set 1 _
        refine bodyPost_ret (v:=.agg [.slice adx nx cpx,.slice adw nw cpw].toArray) (results_cell_row (by rfl) _ _ (gl + 3) 43 _ (0,0) _ rfl hB6 Tryz.underlying43 rfl (by kernel_rfl)) rfl ⟨_,_,rfl,?_,?_⟩
        · rw [HDN.out]
          refine (HE.out.own.keep fun j h1 _ => ?_).mono (by have h1:=HSZ.out;have h2:=HGL.out;omega)
          rw [Below.heap_setCell _ _ _ _ (by show j ≠ gl + 3;have:=HSZ.out;omega),Below.heap_setCell _ _ _ _ (by show j ≠ gl + 3;have:=HSZ.out;omega)]
        · exact ((HBW.out.trans (HE.out.bel.mono (by have h1:=HSZ.out;have h2:=HGL.out;omega))).setCell (by show w.heap.size ≤ gl + 3;have:=HGL.out;omega) _).setCell (by show w.heap.size ≤ gl + 3;have:=HGL.out;omega) _
end Go.Proofs.YtphmmnffgknkcaaGreatDoor
namespace Go.Proofs.YtphmmnffgknkcaaGreatDoor
open Go.RowKit
set_option maxRecDepth 100000
theorem ofL_len (z:List Lf):(ofL z).length ≤ z.length:=by
  have key:∀ (z l:List Lf),(z.foldl (fun l p => putL l p.1 p.2) l).length ≤ l.length + z.length:=by
    intro z
    induction z with
    | nil => intro l;exact Nat.le_refl _
    | cons a r ih =>
      intro l
      have h1:=ih (putL l a.1 a.2)
      have h2:=putL_len l a.1 a.2
      rw [List.foldl_cons,List.length_cons]
      omega
  have:=key z []
  simpa [ofL] using this
theorem zip_take {ds es:List (List (BitVec 8))} {k:Nat} (h1:k < ds.length) (h2:k < es.length):(ds.zip es).take (k + 1) = (ds.zip es).take k ++ [(ds.getD k [],es.getD k [])]:=by
  have hk:k < (ds.zip es).length:=by rw [List.length_zip];omega
  rw [List.take_add_one,List.getElem?_eq_getElem hk,List.getElem_zip,List.getD_eq_getElem?_getD,List.getD_eq_getElem?_getD,List.getElem?_eq_getElem h1,List.getElem?_eq_getElem h2]
  rfl
end Go.Proofs.YtphmmnffgknkcaaGreatDoor
namespace Go.Proofs.YtphmmnffgknkcaaGreatDoor
open Go.RowKit
set_option maxRecDepth 100000
end Go.Proofs.YtphmmnffgknkcaaGreatDoor
namespace Go.Proofs.YtphmmnffgknkcaaGreatDoor
open Go.RowKit
set_option maxRecDepth 100000
def treeV (c:Nat) (rt ix vl:List (BitVec 8)) (p q:Value):List Value:=.int .i64 (c:Int) :: (cb rt ++ (cb ix ++ (cb vl ++ [p,q])))
structure TreeC (W:World) (g c:Nat) (rt ix vl:List (BitVec 8)) (p q:Value):Prop where
  blk:Blk W g (treeV c rt ix vl p q) 63
  l1:rt.length = 32
  l2:ix.length = 32
  l3:vl.length = 32
theorem TreeC.below {W W':World} {g c B:Nat} {rt ix vl:List (BitVec 8)} {p q:Value} (h:TreeC W g c rt ix vl p q) (hb:Below B W W') (hB:g < B):TreeC W' g c rt ix vl p q:=⟨h.blk.below hb hB,h.l1,h.l2,h.l3⟩
theorem TreeC.next {W W':World} {g c:Nat} {rt ix vl:List (BitVec 8)} {p q:Value} (h:TreeC W g c rt ix vl p q) (hb:Below W.heap.size W W'):TreeC W' g c rt ix vl p q:=h.below hb h.blk.lt
theorem TreeC.drew {W:World} {g c:Nat} {rt ix vl:List (BitVec 8)} {p q:Value} (h:TreeC W g c rt ix vl p q):TreeC W.drew g c rt ix vl p q:=⟨h.blk.drew,h.l1,h.l2,h.l3⟩
theorem TreeC.cnt {W:World} {g c:Nat} {rt ix vl:List (BitVec 8)} {p q:Value} (h:TreeC W g c rt ix vl p q):W.cell? ⟨g,0,none⟩ = some (.int .i64 (c:Int)):=by rw [h.blk.cell];rfl
theorem TreeC.root {W:World} {g c:Nat} {rt ix vl:List (BitVec 8)} {p q:Value} (h:TreeC W g c rt ix vl p q):W.rangeAt g 1 (cb rt):=fun j v hv => by
  have hj:j < (cb rt).length:=(List.getElem?_eq_some_iff.1 hv).1
  rw [h.blk.cell,treeV,Nat.add_comm,List.getElem?_cons_succ,List.getElem?_append_left hj,hv]
theorem TreeC.index {W:World} {g c:Nat} {rt ix vl:List (BitVec 8)} {p q:Value} (h:TreeC W g c rt ix vl p q):W.rangeAt g 33 (cb ix):=fun j v hv => by
  have hj:j < (cb ix).length:=(List.getElem?_eq_some_iff.1 hv).1
  have e1:(cb rt).length = 32:=by rw [cb_len,h.l1]
  rw [h.blk.cell,treeV,show 33 + j = (32 + j) + 1 by omega,List.getElem?_cons_succ,List.getElem?_append_right (by omega),e1,Nat.add_sub_cancel_left,List.getElem?_append_left hj,hv]
theorem TreeC.value {W:World} {g c:Nat} {rt ix vl:List (BitVec 8)} {p q:Value} (h:TreeC W g c rt ix vl p q):W.rangeAt g 65 (cb vl):=fun j v hv => by
  have hj:j < (cb vl).length:=(List.getElem?_eq_some_iff.1 hv).1
  have e1:(cb rt).length = 32:=by rw [cb_len,h.l1]
  have e2:(cb ix).length = 32:=by rw [cb_len,h.l2]
  rw [h.blk.cell,treeV,show 65 + j = (32 + (32 + j)) + 1 by omega,List.getElem?_cons_succ,List.getElem?_append_right (by omega),e1,Nat.add_sub_cancel_left,List.getElem?_append_right (by omega),e2,Nat.add_sub_cancel_left,List.getElem?_append_left hj,hv]
theorem TreeC.tail {W:World} {g c:Nat} {rt ix vl:List (BitVec 8)} {p q:Value} (h:TreeC W g c rt ix vl p q) (j:Nat):W.cell? ⟨g,97 + j,none⟩ = [p,q][j]?:=by
  have e1:(cb rt).length = 32:=by rw [cb_len,h.l1]
  have e2:(cb ix).length = 32:=by rw [cb_len,h.l2]
  have e3:(cb vl).length = 32:=by rw [cb_len,h.l3]
  rw [h.blk.cell,treeV,show 97 + j = (32 + (32 + (32 + j))) + 1 by omega,List.getElem?_cons_succ,List.getElem?_append_right (by omega),e1,Nat.add_sub_cancel_left,List.getElem?_append_right (by omega),e2,Nat.add_sub_cancel_left,List.getElem?_append_right (by omega),e3,Nat.add_sub_cancel_left]
theorem TreeC.off {W:World} {g c:Nat} {rt ix vl:List (BitVec 8)} {p q:Value} (h:TreeC W g c rt ix vl p q):W.cell? ⟨g,97,none⟩ = some p:=h.tail 0
theorem TreeC.on {W:World} {g c:Nat} {rt ix vl:List (BitVec 8)} {p q:Value} (h:TreeC W g c rt ix vl p q):W.cell? ⟨g,98,none⟩ = some q:=h.tail 1
def ptr (g:Nat):Value:=.pointer (some ⟨g,0,none⟩)
inductive TreeIs (W:World):Nat → Nat → List Lf → Prop
  | none (d g:Nat):TreeC W g 0 (dig [69]) zb32 zb32 (.pointer none) (.pointer none) → TreeIs W d g []
  | leaf (d g:Nat) (x v:List (BitVec 8)):TreeC W g 1 (dig (pairB 76 x v)) x v (.pointer none) (.pointer none) → TreeIs W d g [(x,v)]
  | node (d g g0 g1:Nat) (l:List Lf):2 ≤ l.length → Fits l d → TreeIs W (d + 1) g0 (halfL l d false) → TreeIs W (d + 1) g1 (halfL l d true) → TreeC W g l.length (rootL l d) zb32 zb32 (ptr g0) (ptr g1) → TreeIs W d g l
theorem TreeIs.next {W W':World} {d g:Nat} {l:List Lf} (h:TreeIs W d g l) (hb:Below W.heap.size W W'):TreeIs W' d g l:=by
  induction h with
  | none d g hc => exact .none d g (hc.next hb)
  | leaf d g x v hc => exact .leaf d g x v (hc.next hb)
  | node d g g0 g1 l h2 hf _ _ hc i0 i1 => exact .node d g g0 g1 l h2 hf i0 i1 (hc.next hb)
theorem TreeIs.cells {W:World} {d g:Nat} {l:List Lf} (h:TreeIs W d g l):∃ ix vl p q,TreeC W g l.length (rootL l d) ix vl p q:=by
  cases h with
  | none _ _ hc => exact ⟨_,_,_,_,by rw [rootL_nil];exact hc⟩
  | leaf _ _ x v hc => exact ⟨_,_,_,_,by rw [rootL_one];exact hc⟩
  | node _ _ g0 g1 _ h2 hf _ _ hc => exact ⟨_,_,_,_,hc⟩
def TT (W:World) (g:Nat) (l:List Lf):Prop:=TreeIs W 0 g l ∧ okLf l ∧ Up l
theorem TT.next {W W':World} {g:Nat} {l:List Lf} (h:TT W g l) (hb:Below W.heap.size W W'):TT W' g l:=⟨h.1.next hb,h.2⟩
theorem fits_zero {l:List Lf} (h1:okLf l) (h2:Up l):Fits l 0:=⟨h1,h2,fun _ _ _ _ j hj => by omega⟩
end Go.Proofs.YtphmmnffgknkcaaGreatDoor
namespace Go.Proofs.YtphmmnffgknkcaaGreatDoor
open Go.RowKit
set_option maxRecDepth 100000
theorem builtE (f:Operand → Value) (o:Oper) (x:Operand) (ho:o.op = .build 63 #[(1,x)]) (rt:List (BitVec 8)) (hl:rt.length = 32) (hx:f x = .agg (cb rt).toArray) (w:World):(execOp f o).run Tryz.prog w = .ok (.value (.agg (treeV 0 rt zb32 zb32 (.pointer none) (.pointer none)).toArray)) w:=by
  unfold execOp
  rw [ho]
  simp only [List.map_toArray,List.map_cons,List.map_nil,hx]
  match rt,hl with
  | [x0,x1,x2,x3,x4,x5,x6,x7,x8,x9,x10,x11,x12,x13,x14,x15,x16,x17,x18,x19,x20,x21,x22,x23,x24,x25,x26,x27,x28,x29,x30,x31],_ =>
    refine id ?_
    show _ = _
    kernel_rfl
theorem builtS (f:Operand → Value) (o:Oper) (x y z:Operand) (ho:o.op = .build 63 #[(0,.const (.int .i64 1)),(1,x),(2,y),(3,z)]) (rt ix vl:List (BitVec 8)) (hl:rt.length = 32) (hl2:ix.length = 32) (hl3:vl.length = 32) (hc:f (.const (.int .i64 1)) = .int .i64 1) (hx:f x = .agg (cb rt).toArray) (hy:f y = .agg (cb ix).toArray) (hz:f z = .agg (cb vl).toArray) (w:World):(execOp f o).run Tryz.prog w = .ok (.value (.agg (treeV 1 rt ix vl (.pointer none) (.pointer none)).toArray)) w:=by
  unfold execOp
  rw [ho]
  simp only [List.map_toArray,List.map_cons,List.map_nil,hc,hx,hy,hz]
  match rt,hl,ix,hl2,vl,hl3 with
  | [x0,x1,x2,x3,x4,x5,x6,x7,x8,x9,x10,x11,x12,x13,x14,x15,x16,x17,x18,x19,x20,x21,x22,x23,x24,x25,x26,x27,x28,x29,x30,x31],_,[y0,y1,y2,y3,y4,y5,y6,y7,y8,y9,y10,y11,y12,y13,y14,y15,y16,y17,y18,y19,y20,y21,y22,y23,y24,y25,y26,y27,y28,y29,y30,y31],_,[z0,z1,z2,z3,z4,z5,z6,z7,z8,z9,z10,z11,z12,z13,z14,z15,z16,z17,z18,z19,z20,z21,z22,z23,z24,z25,z26,z27,z28,z29,z30,z31],_ =>
    refine id ?_
    show _ = _
    kernel_rfl
theorem builtJ (f:Operand → Value) (o:Oper) (c x y z:Operand) (ho:o.op = .build 63 #[(0,c),(1,x),(4,y),(5,z)]) (n g0 g1:Nat) (rt:List (BitVec 8)) (hl:rt.length = 32) (hc:f c = .int .i64 (n:Int)) (hx:f x = .agg (cb rt).toArray) (hy:f y = ptr g0) (hz:f z = ptr g1) (w:World):(execOp f o).run Tryz.prog w = .ok (.value (.agg (treeV n rt zb32 zb32 (ptr g0) (ptr g1)).toArray)) w:=by
  unfold execOp
  rw [ho]
  simp only [List.map_toArray,List.map_cons,List.map_nil,hc,hx,hy,hz]
  match rt,hl with
  | [x0,x1,x2,x3,x4,x5,x6,x7,x8,x9,x10,x11,x12,x13,x14,x15,x16,x17,x18,x19,x20,x21,x22,x23,x24,x25,x26,x27,x28,x29,x30,x31],_ =>
    refine id ?_
    show _ = _
    kernel_rfl
theorem boxTree (f:Operand → Value) (o:Oper) (x:Operand) (ho:o.op = .box 63 x) (cs:List Value) (hx:f x = .agg cs.toArray) (w:World):(execOp f o).run Tryz.prog w = .ok (.value (.pointer (some ⟨w.heap.size,0,none⟩))) (w.alloc (.cells cs.toArray 63)):=by
  unfold execOp
  rw [ho]
  simp only [hx]
  rfl
set_option maxRecDepth 100000 in
set_option maxHeartbeats 1000000 in
theorem trEmpty_any (w:World) (hK:KOk w):Calls Tryz.prog 22 #[] w fun e w' => ∃ g,e = .returned (.pointer (some ⟨g,0,none⟩)) ∧ TreeC w' g 0 (dig [69]) zb32 zb32 (.pointer none) (.pointer none) ∧ Below w.heap.size w w':=by
  obtain ⟨r,HRD⟩:∃ r,Hid (r = dig [69]):=⟨_,rfl⟩
  have HRL:Hid (r.length = 32):=by show _ = _;rw [HRD.out];exact len_dig' _
  have HK:Hid (KOk w):=hK
  clear hK
  rw [← HRD.out]
  go_enter Tryz.func22,Tryz.ntmps22
  go_wp2_with (first
    | (go_at_call 41;refine (tEmpty_any _).mono ?_;rintro e w1 ⟨v1,rfl,hr1,hb1⟩
       have HR1:Hid (Reads w1 v1 [69]):=hr1
       have HBW:Hid (Below w.heap.size w w1):=hb1
       replace HK:Hid (KOk w1):=HK.out.below hb1 HK.out.lt
       clear hr1 hb1)
    | (go_at_call 16;refine (tOf_any v1 _ _ HK.out HR1.out (by decide)).mono ?_;rintro e w2 ⟨rfl,hb1⟩
       rw [← HRD.out]
       replace HBW:Hid (Below w.heap.size w w2):=HBW.out.trans (hb1.mono HBW.out.size)
       clear hb1 HR1 HK)
    | (refine wpSeq_val _ _ (by rfl) (builtE _ _ (.tmp 2) rfl r HRL.out rfl _) ?_)
    | (refine wpSeq_val _ _ (by rfl) (boxTree _ _ (.tmp 3) rfl _ rfl _) ?_
       obtain ⟨w3,HW3⟩:∃ z,Hid (z = w2.alloc (.cells (treeV 0 r zb32 zb32 (.pointer none) (.pointer none)).toArray 63)):=⟨_,rfl⟩
       rw [← HW3.out]))
  go_ret
  refine ⟨w2.heap.size,rfl,⟨by rw [HW3.out];exact Blk.new _ _ _,HRL.out,rfl,rfl⟩,by rw [HW3.out];exact HBW.out.trans ((below_alloc w2 _).mono HBW.out.size)⟩
set_option maxRecDepth 100000 in
set_option maxHeartbeats 2000000 in
theorem trSingle_any (x v:List (BitVec 8)) (hx:x.length = 32) (hv:v.length = 32) (w:World) (hK:KOk w):Calls Tryz.prog 64 #[.agg (cb x).toArray,.agg (cb v).toArray] w fun e w' => ∃ g,e = .returned (.pointer (some ⟨g,0,none⟩)) ∧ w.heap.size ≤ g ∧ TreeC w' g 1 (dig (pairB 76 x v)) x v (.pointer none) (.pointer none) ∧ Below w.heap.size w w':=by
  obtain ⟨r,HRD⟩:∃ r,Hid (r = dig (pairB 76 x v)):=⟨_,rfl⟩
  have HRL:Hid (r.length = 32):=by show _ = _;rw [HRD.out];exact len_dig' _
  have HK:Hid (KOk w):=hK
  have HX:Hid (x.length = 32):=hx
  have HV:Hid (v.length = 32):=hv
  clear hK hx hv
  rw [← HRD.out]
  go_enter Tryz.func64,Tryz.ntmps64
  go_wp2_with (first
    | (with_reducible refine wpSeq_boxD (.tmp 0) x ?_ ?_ ?_ ?_
       · rfl
       · rfl
       · rfl
       intro gx wx nn
       have HBX:Hid (Blk wx gx (cb x) 39):=nn.blk
       have HBW:Hid (Below w.heap.size w wx):=nn.below
       clear nn)
    | (with_reducible refine wpSeq_boxD (.tmp 1) v ?_ ?_ ?_ ?_
       · rfl
       · rfl
       · rfl
       intro gv wv nn
       replace HBX:Hid (Blk wv gx (cb x) 39):=HBX.out.below nn.below HBX.out.lt
       have HBV:Hid (Blk wv gv (cb v) 39):=nn.blk
       replace HBW:Hid (Below w.heap.size w wv):=HBW.out.trans (nn.below.mono HBW.out.size)
       clear nn))
  replace HK:Hid (KOk wv.drew):=(HK.out.below HBW.out HK.out.lt:KOk wv)
  refine wp_region_held_drew (S:=Over wv.drew) (by kernel_rfl) (Over.refl _) ?_
  intro hS
  refine wpAnyH_take (i:=0) (v:=.agg (cb x).toArray) rfl (by kernel_rfl) (by kernel_rfl) (by kernel_rfl) (fun _ _ _ h => h) (Or.inl ⟨by rfl,fun wx hx => by exact loadDigest _ gx x HX.out (Over.blk hx HBX.out.drew) rfl rfl⟩) hS ?_
  simp only [Act.put,List.getElem_toArray,List.getElem_cons_zero,List.setIfInBounds_toArray,List.set_cons_zero,List.set_cons_succ]
  refine wpAnyH_take (i:=1) (v:=.agg (cb v).toArray) rfl (by kernel_rfl) (by kernel_rfl) (by kernel_rfl) (fun _ _ _ h => h) (Or.inl ⟨by rfl,fun wx hx => by exact loadDigest _ gv v HV.out (Over.blk hx HBV.out.drew) rfl rfl⟩) hS ?_
  simp only [Act.put,List.getElem_toArray,List.getElem_cons_succ,List.getElem_cons_zero,List.setIfInBounds_toArray,List.set_cons_zero,List.set_cons_succ]
  refine wpAnyH_take (i:=4) (v:=.agg (cb x).toArray) rfl (by kernel_rfl) (by kernel_rfl) (by kernel_rfl) (fun _ _ _ h => h) (Or.inl ⟨by rfl,fun wx hx => by exact loadDigest _ gx x HX.out (Over.blk hx HBX.out.drew) rfl rfl⟩) hS ?_
  simp only [Act.put,List.getElem_toArray,List.getElem_cons_succ,List.getElem_cons_zero,List.setIfInBounds_toArray,List.set_cons_zero,List.set_cons_succ]
  refine wpAnyH_take (i:=5) (v:=.agg (cb v).toArray) rfl (by kernel_rfl) (by kernel_rfl) (by kernel_rfl) (fun _ _ _ h => h) (Or.inl ⟨by rfl,fun wx hx => by exact loadDigest _ gv v HV.out (Over.blk hx HBV.out.drew) rfl rfl⟩) hS ?_
  simp only [Act.put,List.getElem_toArray,List.getElem_cons_succ,List.getElem_cons_zero,List.setIfInBounds_toArray,List.set_cons_zero,List.set_cons_succ]
  refine wpAnyH_enter 2 (by kernel_rfl) rfl (by rfl) (f:=92) (args:=#[.agg (cb x).toArray,.agg (cb v).toArray]) (by simp [go_sem]) (tLeaf_any x v HX.out HV.out _) ?_
  rintro e wy ⟨v7,rfl,hr7,hbq⟩
  refine ⟨_,rfl,hS.more hbq,?_⟩
  replace hS:=hS.more hbq
  clear hbq
  generalize HVV:v7 = vv at *
  clear HVV
  simp only [Act.put,List.getElem_toArray,List.getElem_cons_succ,List.getElem_cons_zero,List.setIfInBounds_toArray,List.set_cons_zero,List.set_cons_succ]
  refine wpAnyH_enter 3 (by kernel_rfl) rfl (by rfl) (f:=16) (args:=#[vv]) (by simp [go_sem]) (tOf_any vv _ _ (HK.out.below hS.out HK.out.lt) hr7 (by have h1:=HX.out;have h2:=HV.out;simp [pairB];omega)) ?_
  rintro e wz ⟨rfl,hbq⟩
  have HGE:Hid (w.heap.size ≤ wz.heap.size):=Nat.le_trans HBW.out.size (hS.more hbq).out.size
  refine ⟨_,rfl,hS.more hbq,?_⟩
  replace hS:=hS.more hbq
  clear hbq hr7
  rw [← HRD.out]
  simp only [Act.put,List.getElem_toArray,List.getElem_cons_succ,List.getElem_cons_zero,List.setIfInBounds_toArray,List.set_cons_zero,List.set_cons_succ]
  refine wpAnyH_take (i:=6) (v:=.agg (treeV 1 r x v (.pointer none) (.pointer none)).toArray) rfl (by kernel_rfl) (by kernel_rfl) (by kernel_rfl) (fun _ _ _ h => h) (Or.inl ⟨by rfl,fun wx hx => by exact builtS _ _ (.tmp 8) (.tmp 9) (.tmp 10) rfl r x v HRL.out HX.out HV.out rfl rfl rfl rfl _⟩) hS ?_
  simp only [Act.put,List.getElem_toArray,List.getElem_cons_succ,List.getElem_cons_zero,List.setIfInBounds_toArray,List.set_cons_zero,List.set_cons_succ]
  refine wpAnyH_step 7 (.pointer (some ⟨wz.heap.size,0,none⟩)) (wz.alloc (.cells (treeV 1 r x v (.pointer none) (.pointer none)).toArray 63)) (by kernel_rfl) rfl (by rfl) (boxTree _ _ (.tmp 11) rfl _ rfl _) (hS.more (below_alloc _ _)) ?_
  simp only [Act.put,List.getElem_toArray,List.getElem_cons_succ,List.getElem_cons_zero,List.setIfInBounds_toArray,List.set_cons_zero,List.set_cons_succ]
  replace hS:=hS.more (below_alloc wz (.cells (treeV 1 r x v (.pointer none) (.pointer none)).toArray 63))
  have HBN:Hid (Blk (wz.alloc (.cells (treeV 1 r x v (.pointer none) (.pointer none)).toArray 63)) wz.heap.size (treeV 1 r x v (.pointer none) (.pointer none)) 63):=Blk.new _ _ _
  generalize wz.alloc (.cells (treeV 1 r x v (.pointer none) (.pointer none)).toArray 63) = wn at *
  refine wpAnyH_take (i:=8) (v:=.pointer (some ⟨wz.heap.size,0,none⟩)) rfl (by kernel_rfl) (by kernel_rfl) (by kernel_rfl) (fun _ _ _ h => h) (Or.inl ⟨by rfl,fun wx hx => by simp [go_sem]⟩) hS ?_
  simp only [Act.put,List.getElem_toArray,List.getElem_cons_succ,List.getElem_cons_zero,List.setIfInBounds_toArray,List.set_cons_zero,List.set_cons_succ]
  refine wpAnyH_done (by kernel_rfl) ?_ _
  go_wp2
  go_ret
  exact ⟨wz.heap.size,rfl,HGE.out,⟨HBN.out,HRL.out,HX.out,HV.out⟩,hS.after HBW.out.drew⟩
set_option maxRecDepth 100000 in
set_option maxHeartbeats 4000000 in
theorem trJoined_any (g0 g1 n0 n1:Nat) (r0 r1 ix0 vl0 ix1 vl1:List (BitVec 8)) (p0 q0 p1 q1:Value) (w:World) (hK:KOk w) (h0:TreeC w g0 n0 r0 ix0 vl0 p0 q0) (h1:TreeC w g1 n1 r1 ix1 vl1 p1 q1) (hn:n0 + n1 < 1000000):Calls Tryz.prog 63 #[.pointer (some ⟨g0,0,none⟩),.pointer (some ⟨g1,0,none⟩)] w fun e w' => ∃ g,e = .returned (.pointer (some ⟨g,0,none⟩)) ∧ TreeC w' g (n0 + n1) (dig (pairB 78 r0 r1)) zb32 zb32 (ptr g0) (ptr g1) ∧ Below w.heap.size w w':=by
  obtain ⟨r,HRD⟩:∃ r,Hid (r = dig (pairB 78 r0 r1)):=⟨_,rfl⟩
  have HRL:Hid (r.length = 32):=by show _ = _;rw [HRD.out];exact len_dig' _
  have HK:Hid (KOk w.drew):=hK
  have H0:Hid (TreeC w g0 n0 r0 ix0 vl0 p0 q0):=h0
  have H1:Hid (TreeC w g1 n1 r1 ix1 vl1 p1 q1):=h1
  have HL0:Hid (r0.length = 32):=h0.l1
  have HL1:Hid (r1.length = 32):=h1.l1
  have rn:IntKind.i64.wrap ((n0:Int) + (n1:Int)) = (n0:Int) + (n1:Int):=by rw [IntKind.wrap_i64];omega
  clear hK h0 h1
  rw [← HRD.out]
  go_enter Tryz.func63,Tryz.ntmps63
  go_wp2_with fail
  refine wp_region_held_drew (S:=Over w.drew) (by kernel_rfl) (Over.refl _) ?_
  intro hS
  refine wpAnyH_take (i:=0) (v:=.pointer (some ⟨g0,0,none⟩)) rfl (by kernel_rfl) (by kernel_rfl) (by kernel_rfl) (fun _ _ _ h => h) (Or.inl ⟨by rfl,fun wx hx => by simp [go_sem]⟩) hS ?_
  simp only [Act.put,List.getElem_toArray,List.getElem_cons_zero,List.setIfInBounds_toArray,List.set_cons_zero,List.set_cons_succ]
  refine wpAnyH_take (i:=1) (v:=.pointer (some ⟨g0,0,none⟩)) rfl (by kernel_rfl) (by kernel_rfl) (by kernel_rfl) (fun _ _ _ h => h) (Or.inl ⟨by rfl,fun wx hx => by simp [go_sem]⟩) hS ?_
  simp only [Act.put,List.getElem_toArray,List.getElem_cons_succ,List.getElem_cons_zero,List.setIfInBounds_toArray,List.set_cons_zero,List.set_cons_succ]
  refine wpAnyH_take (i:=2) (v:=.pointer (some ⟨g0,0,none⟩)) rfl (by kernel_rfl) (by kernel_rfl) (by kernel_rfl) (fun _ _ _ h => h) (Or.inl ⟨by rfl,fun wx hx => by simp [go_sem]⟩) hS ?_
  simp only [Act.put,List.getElem_toArray,List.getElem_cons_succ,List.getElem_cons_zero,List.setIfInBounds_toArray,List.set_cons_zero,List.set_cons_succ]
  refine wpAnyH_take (i:=3) (v:=.int .i64 (n0:Int)) rfl (by kernel_rfl) (by kernel_rfl) (by kernel_rfl) (fun _ _ _ h => h) (Or.inl ⟨by rfl,fun wx hx => by (have hc:=(H0.out.drew.below hx.out H0.out.blk.lt).cnt;simp [go_sem,hc])⟩) hS ?_
  simp only [Act.put,List.getElem_toArray,List.getElem_cons_succ,List.getElem_cons_zero,List.setIfInBounds_toArray,List.set_cons_zero,List.set_cons_succ]
  refine wpAnyH_take (i:=4) (v:=.pointer (some ⟨g1,0,none⟩)) rfl (by kernel_rfl) (by kernel_rfl) (by kernel_rfl) (fun _ _ _ h => h) (Or.inl ⟨by rfl,fun wx hx => by simp [go_sem]⟩) hS ?_
  simp only [Act.put,List.getElem_toArray,List.getElem_cons_succ,List.getElem_cons_zero,List.setIfInBounds_toArray,List.set_cons_zero,List.set_cons_succ]
  refine wpAnyH_take (i:=5) (v:=.pointer (some ⟨g1,0,none⟩)) rfl (by kernel_rfl) (by kernel_rfl) (by kernel_rfl) (fun _ _ _ h => h) (Or.inl ⟨by rfl,fun wx hx => by simp [go_sem]⟩) hS ?_
  simp only [Act.put,List.getElem_toArray,List.getElem_cons_succ,List.getElem_cons_zero,List.setIfInBounds_toArray,List.set_cons_zero,List.set_cons_succ]
  refine wpAnyH_take (i:=6) (v:=.pointer (some ⟨g1,0,none⟩)) rfl (by kernel_rfl) (by kernel_rfl) (by kernel_rfl) (fun _ _ _ h => h) (Or.inl ⟨by rfl,fun wx hx => by simp [go_sem]⟩) hS ?_
  simp only [Act.put,List.getElem_toArray,List.getElem_cons_succ,List.getElem_cons_zero,List.setIfInBounds_toArray,List.set_cons_zero,List.set_cons_succ]
  refine wpAnyH_take (i:=7) (v:=.int .i64 (n1:Int)) rfl (by kernel_rfl) (by kernel_rfl) (by kernel_rfl) (fun _ _ _ h => h) (Or.inl ⟨by rfl,fun wx hx => by (have hc:=(H1.out.drew.below hx.out H1.out.blk.lt).cnt;simp [go_sem,hc])⟩) hS ?_
  simp only [Act.put,List.getElem_toArray,List.getElem_cons_succ,List.getElem_cons_zero,List.setIfInBounds_toArray,List.set_cons_zero,List.set_cons_succ]
  refine wpAnyH_take (i:=8) (v:=.int .i64 ((n0 + n1:Nat):Int)) rfl (by kernel_rfl) (by kernel_rfl) (by kernel_rfl) (fun _ _ _ h => h) (Or.inl ⟨by rfl,fun wx hx => by simp [go_sem,rn]⟩) hS ?_
  simp only [Act.put,List.getElem_toArray,List.getElem_cons_succ,List.getElem_cons_zero,List.setIfInBounds_toArray,List.set_cons_zero,List.set_cons_succ]
  refine wpAnyH_take (i:=9) (v:=.pointer (some ⟨g0,0,none⟩)) rfl (by kernel_rfl) (by kernel_rfl) (by kernel_rfl) (fun _ _ _ h => h) (Or.inl ⟨by rfl,fun wx hx => by simp [go_sem]⟩) hS ?_
  simp only [Act.put,List.getElem_toArray,List.getElem_cons_succ,List.getElem_cons_zero,List.setIfInBounds_toArray,List.set_cons_zero,List.set_cons_succ]
  refine wpAnyH_take (i:=10) (v:=.pointer (some ⟨g0,0,none⟩)) rfl (by kernel_rfl) (by kernel_rfl) (by kernel_rfl) (fun _ _ _ h => h) (Or.inl ⟨by rfl,fun wx hx => by simp [go_sem]⟩) hS ?_
  simp only [Act.put,List.getElem_toArray,List.getElem_cons_succ,List.getElem_cons_zero,List.setIfInBounds_toArray,List.set_cons_zero,List.set_cons_succ]
  refine wpAnyH_take (i:=11) (v:=.pointer (some ⟨g0,1,none⟩)) rfl (by kernel_rfl) (by kernel_rfl) (by kernel_rfl) (fun _ _ _ h => h) (Or.inl ⟨by rfl,fun wx hx => by simp [go_sem]⟩) hS ?_
  simp only [Act.put,List.getElem_toArray,List.getElem_cons_succ,List.getElem_cons_zero,List.setIfInBounds_toArray,List.set_cons_zero,List.set_cons_succ]
  refine wpAnyH_take (i:=12) (v:=.agg (cb r0).toArray) rfl (by kernel_rfl) (by kernel_rfl) (by kernel_rfl) (fun _ _ _ h => h) (Or.inl ⟨by rfl,fun wx hx => by exact load_run 39 _ rfl _ _ rfl (cb r0) _ ((H0.out.drew.below hx.out H0.out.blk.lt).root) Tryz.underlying39 rfl (by rw [cb_len,HL0.out];exact info_digest)⟩) hS ?_
  simp only [Act.put,List.getElem_toArray,List.getElem_cons_succ,List.getElem_cons_zero,List.setIfInBounds_toArray,List.set_cons_zero,List.set_cons_succ]
  refine wpAnyH_take (i:=13) (v:=.pointer (some ⟨g1,0,none⟩)) rfl (by kernel_rfl) (by kernel_rfl) (by kernel_rfl) (fun _ _ _ h => h) (Or.inl ⟨by rfl,fun wx hx => by simp [go_sem]⟩) hS ?_
  simp only [Act.put,List.getElem_toArray,List.getElem_cons_succ,List.getElem_cons_zero,List.setIfInBounds_toArray,List.set_cons_zero,List.set_cons_succ]
  refine wpAnyH_take (i:=14) (v:=.pointer (some ⟨g1,0,none⟩)) rfl (by kernel_rfl) (by kernel_rfl) (by kernel_rfl) (fun _ _ _ h => h) (Or.inl ⟨by rfl,fun wx hx => by simp [go_sem]⟩) hS ?_
  simp only [Act.put,List.getElem_toArray,List.getElem_cons_succ,List.getElem_cons_zero,List.setIfInBounds_toArray,List.set_cons_zero,List.set_cons_succ]
  refine wpAnyH_take (i:=15) (v:=.pointer (some ⟨g1,1,none⟩)) rfl (by kernel_rfl) (by kernel_rfl) (by kernel_rfl) (fun _ _ _ h => h) (Or.inl ⟨by rfl,fun wx hx => by simp [go_sem]⟩) hS ?_
  simp only [Act.put,List.getElem_toArray,List.getElem_cons_succ,List.getElem_cons_zero,List.setIfInBounds_toArray,List.set_cons_zero,List.set_cons_succ]
  refine wpAnyH_take (i:=16) (v:=.agg (cb r1).toArray) rfl (by kernel_rfl) (by kernel_rfl) (by kernel_rfl) (fun _ _ _ h => h) (Or.inl ⟨by rfl,fun wx hx => by exact load_run 39 _ rfl _ _ rfl (cb r1) _ ((H1.out.drew.below hx.out H1.out.blk.lt).root) Tryz.underlying39 rfl (by rw [cb_len,HL1.out];exact info_digest)⟩) hS ?_
  simp only [Act.put,List.getElem_toArray,List.getElem_cons_succ,List.getElem_cons_zero,List.setIfInBounds_toArray,List.set_cons_zero,List.set_cons_succ]
  refine wpAnyH_take (i:=19) (v:=.pointer (some ⟨g0,0,none⟩)) rfl (by kernel_rfl) (by kernel_rfl) (by kernel_rfl) (fun _ _ _ h => h) (Or.inl ⟨by rfl,fun wx hx => by simp [go_sem]⟩) hS ?_
  simp only [Act.put,List.getElem_toArray,List.getElem_cons_succ,List.getElem_cons_zero,List.setIfInBounds_toArray,List.set_cons_zero,List.set_cons_succ]
  refine wpAnyH_take (i:=20) (v:=.pointer (some ⟨g1,0,none⟩)) rfl (by kernel_rfl) (by kernel_rfl) (by kernel_rfl) (fun _ _ _ h => h) (Or.inl ⟨by rfl,fun wx hx => by simp [go_sem]⟩) hS ?_
  simp only [Act.put,List.getElem_toArray,List.getElem_cons_succ,List.getElem_cons_zero,List.setIfInBounds_toArray,List.set_cons_zero,List.set_cons_succ]
  refine wpAnyH_enter 17 (by kernel_rfl) rfl (by rfl) (f:=91) (args:=#[.agg (cb r0).toArray,.agg (cb r1).toArray]) (by simp [go_sem]) (tNode_any r0 r1 HL0.out HL1.out _) ?_
  rintro e wy ⟨v7,rfl,hr7,hbq⟩
  refine ⟨_,rfl,hS.more hbq,?_⟩
  replace hS:=hS.more hbq
  clear hbq
  generalize HVV:v7 = vv at *
  clear HVV
  simp only [Act.put,List.getElem_toArray,List.getElem_cons_succ,List.getElem_cons_zero,List.setIfInBounds_toArray,List.set_cons_zero,List.set_cons_succ]
  refine wpAnyH_enter 18 (by kernel_rfl) rfl (by rfl) (f:=16) (args:=#[vv]) (by simp [go_sem]) (tOf_any vv _ _ (HK.out.below hS.out HK.out.lt) hr7 (by have h1:=HL0.out;have h2:=HL1.out;simp [pairB];omega)) ?_
  rintro e wz ⟨rfl,hbq⟩
  refine ⟨_,rfl,hS.more hbq,?_⟩
  replace hS:=hS.more hbq
  clear hbq hr7
  rw [← HRD.out]
  simp only [Act.put,List.getElem_toArray,List.getElem_cons_succ,List.getElem_cons_zero,List.setIfInBounds_toArray,List.set_cons_zero,List.set_cons_succ]
  refine wpAnyH_take (i:=21) (v:=.agg (treeV (n0 + n1) r zb32 zb32 (ptr g0) (ptr g1)).toArray) rfl (by kernel_rfl) (by kernel_rfl) (by kernel_rfl) (fun _ _ _ h => h) (Or.inl ⟨by rfl,fun wx hx => by exact builtJ _ _ (.tmp 13) (.tmp 23) (.tmp 24) (.tmp 25) rfl (n0 + n1) g0 g1 r HRL.out rfl rfl rfl rfl _⟩) hS ?_
  simp only [Act.put,List.getElem_toArray,List.getElem_cons_succ,List.getElem_cons_zero,List.setIfInBounds_toArray,List.set_cons_zero,List.set_cons_succ]
  refine wpAnyH_step 22 (.pointer (some ⟨wz.heap.size,0,none⟩)) (wz.alloc (.cells (treeV (n0 + n1) r zb32 zb32 (ptr g0) (ptr g1)).toArray 63)) (by kernel_rfl) rfl (by rfl) (boxTree _ _ (.tmp 26) rfl _ rfl _) (hS.more (below_alloc _ _)) ?_
  simp only [Act.put,List.getElem_toArray,List.getElem_cons_succ,List.getElem_cons_zero,List.setIfInBounds_toArray,List.set_cons_zero,List.set_cons_succ]
  replace hS:=hS.more (below_alloc wz (.cells (treeV (n0 + n1) r zb32 zb32 (ptr g0) (ptr g1)).toArray 63))
  have HBN:Hid (Blk (wz.alloc (.cells (treeV (n0 + n1) r zb32 zb32 (ptr g0) (ptr g1)).toArray 63)) wz.heap.size (treeV (n0 + n1) r zb32 zb32 (ptr g0) (ptr g1)) 63):=Blk.new _ _ _
  generalize wz.alloc (.cells (treeV (n0 + n1) r zb32 zb32 (ptr g0) (ptr g1)).toArray 63) = wn at *
  refine wpAnyH_take (i:=23) (v:=.pointer (some ⟨wz.heap.size,0,none⟩)) rfl (by kernel_rfl) (by kernel_rfl) (by kernel_rfl) (fun _ _ _ h => h) (Or.inl ⟨by rfl,fun wx hx => by simp [go_sem]⟩) hS ?_
  simp only [Act.put,List.getElem_toArray,List.getElem_cons_succ,List.getElem_cons_zero,List.setIfInBounds_toArray,List.set_cons_zero,List.set_cons_succ]
  refine wpAnyH_done (by kernel_rfl) ?_ _
  go_wp2
  go_ret
  exact ⟨wz.heap.size,rfl,⟨HBN.out,HRL.out,rfl,rfl⟩,hS.after (Below.refl _ w).drew⟩
end Go.Proofs.YtphmmnffgknkcaaGreatDoor
namespace Go.Proofs.YtphmmnffgknkcaaGreatDoor
open Go.RowKit
set_option maxRecDepth 100000
theorem RETD {w w' W9:World} {gr:Nat} {r:List (BitVec 8)} (h9:SetB r w' gr W9) (hg:w.heap.size ≤ gr) (hb:Below w.heap.size w w'):Below w.heap.size w W9:=hb.trans (h9.only.below hg hb.size)
set_option maxRecDepth 100000 in
set_option maxHeartbeats 2000000 in
theorem trRoot_any (w:World) (d g:Nat) (l:List Lf) (hK:KOk w) (h:TreeIs w d g l) (hF:Fits l d):Calls Tryz.prog 9 #[.pointer (some ⟨g,0,none⟩)] w fun e w' => e = .returned (.agg (cb (rootL l d)).toArray) ∧ Below w.heap.size w w':=by
  obtain ⟨r,HRD⟩:∃ r,Hid (r = rootL l d):=⟨_,rfl⟩
  have HRL:Hid (r.length = 32):=by show _ = _;rw [HRD.out];exact rootL_len hF
  obtain ⟨ix,vl,p,q,hc⟩:=h.cells
  rw [← HRD.out] at hc ⊢
  have HC:Hid (TreeC w g l.length r ix vl p q):=hc
  have HK:Hid (KOk w):=hK
  obtain ⟨n,HN⟩:∃ n,Hid (n = l.length):=⟨_,rfl⟩
  rw [← HN.out] at HC
  have HE:Hid (n = 0 → r = dig [69]):=fun e => by
    have:l = []:=List.length_eq_zero_iff.1 (by rw [← HN.out,e])
    rw [HRD.out,this,rootL_nil]
  clear h hF hc hK
  go_enter Tryz.func9,Tryz.ntmps9
  go_upto_region 1 with (first
    | (with_reducible refine wpSeq_allocD ?_ ?_ ?_
       · rfl
       · rfl
       intro gr wa nn
       have HGR:Hid (w.heap.size ≤ gr):=nn.ge
       have HB:Hid (Blk wa gr (cb zb32) 39):=nn.blk
       have HBW:Hid (Below w.heap.size w wa):=nn.below
       replace HC:Hid (TreeC wa g n r ix vl p q):=HC.out.next nn.below
       replace HK:Hid (KOk wa):=HK.out.below nn.below HK.out.lt
       clear nn))
  have c0:=HC.out.cnt
  by_cases hz:n = 0
  · subst hz
    have HRE:=HE.out rfl
    clear HE
    go_wp2_with (first
      | (go_at_call 22;refine (trEmpty_any _ HK.out).mono ?_;rintro e wb ⟨ge,rfl,hce,hb⟩
         rw [← HRE] at hce
         have HCE:Hid (TreeC wb ge 0 r zb32 zb32 (.pointer none) (.pointer none)):=hce
         replace HB:Hid (Blk wb gr (cb zb32) 39):=HB.out.below hb HB.out.lt
         replace HBW:Hid (Below w.heap.size w wb):=HBW.out.trans (hb.mono HBW.out.size)
         clear hce hb c0 HRE)
      | (with_reducible refine wpSeq_loadAt (.tmp 10) ge 1 r ?_ ?_ ?_ ?_ ?_ ?_
         · exact HRL.out
         · exact HCE.out.root
         · with_reducible rfl
         · rfl
         · rfl)
      | (with_reducible refine wpSeq_storeD (.tmp 2) (.tmp 11) gr zb32 r ?_ ?_ ?_ ?_ ?_ ?_ ?_ ?_
         · rfl
         · exact HRL.out
         · exact HB.out
         · rfl
         · rfl
         · rfl
         · rfl
         intro W9 h9))
    exact bodyPost_ret (v:=.agg (cb r).toArray) (results_cell_row (by rfl) _ _ gr 39 _ (0,0) _ rfl h9.blk Tryz.underlying39 rfl (by rw [List.size_toArray,cb_len,HRL.out];exact info_digest)) rfl ⟨rfl,RETD h9 HGR.out HBW.out⟩
  · have hz':¬ ((n:Int) = 0):=by omega
    have hz2:((n:Int) == 0) = false:=by rw [beq_eq_false_iff_ne];exact hz'
    clear HE HK
    go_wp2_with (first
      | (with_reducible refine wpSeq_loadAt (.tmp 14) g 1 r ?_ ?_ ?_ ?_ ?_ ?_
         · exact HRL.out
         · exact HC.out.root
         · with_reducible rfl
         · rfl
         · rfl)
      | (with_reducible refine wpSeq_storeD (.tmp 2) (.tmp 15) gr zb32 r ?_ ?_ ?_ ?_ ?_ ?_ ?_ ?_
         · rfl
         · exact HRL.out
         · exact HB.out
         · rfl
         · rfl
         · rfl
         · rfl
         intro W9 h9))
    exact bodyPost_ret (v:=.agg (cb r).toArray) (results_cell_row (by rfl) _ _ gr 39 _ (0,0) _ rfl h9.blk Tryz.underlying39 rfl (by rw [List.size_toArray,cb_len,HRL.out];exact info_digest)) rfl ⟨rfl,RETD h9 HGR.out HBW.out⟩
structure Gt (w:World) (x:List (BitVec 8)) (gx gr:Nat) (l0:List Lf) (d g:Nat) (l:List Lf) (W:World):Prop where
  le:d ≤ 256
  tree:TreeIs W d g l
  fit:Fits l d
  eq:getL l x = getL l0 x
  xb:Blk W gx (cb x) 39
  rb:Blk W gr (cb zb32) 39
  ge:w.heap.size ≤ gr
  bel:Below w.heap.size w W
theorem Gt.next {w W W':World} {x:List (BitVec 8)} {gx gr d g:Nat} {l0 l:List Lf} (h:Gt w x gx gr l0 d g l W) (hb:Below W.heap.size W W'):Gt w x gx gr l0 d g l W':=
  ⟨h.le,h.tree.next hb,h.fit,h.eq,h.xb.below hb h.xb.lt,h.rb.below hb h.rb.lt,h.ge,h.bel.trans (hb.mono h.bel.size)⟩
theorem Gt.down {w W:World} {x:List (BitVec 8)} {gx gr d g g2:Nat} {l0 l:List Lf} (h:Gt w x gx gr l0 d g l W) (h2:2 ≤ l.length) (ht:TreeIs W (d + 1) g2 (halfL l d (bt x d))):Gt w x gx gr l0 (d + 1) g2 (halfL l d (bt x d)) W:=
  ⟨h.fit.lt h2,ht,h.fit.half _,by rw [getL_half,h.eq],h.xb,h.rb,h.ge,h.bel⟩
theorem TreeIs.two {W:World} {d g:Nat} {l:List Lf} (h:TreeIs W d g l) (h2:2 ≤ l.length):∃ g0 g1,TreeIs W (d + 1) g0 (halfL l d false) ∧ TreeIs W (d + 1) g1 (halfL l d true) ∧ TreeC W g l.length (rootL l d) zb32 zb32 (ptr g0) (ptr g1):=by
  cases h with
  | none _ _ _ => simp at h2
  | leaf _ _ _ _ _ => simp at h2
  | node _ _ g0 g1 _ _ _ h0 h1 hc => exact ⟨g0,g1,h0,h1,hc⟩
theorem TreeIs.one {W:World} {d g:Nat} {p:Lf} (h:TreeIs W d g [p]):TreeC W g 1 (dig (pairB 76 p.1 p.2)) p.1 p.2 (.pointer Option.none) (.pointer Option.none):=by
  cases h with
  | leaf _ _ x v hc => exact hc
  | node _ _ g0 g1 _ h2 => simp at h2
theorem TreeIs.nil {W:World} {d g:Nat} (h:TreeIs W d g []):TreeC W g 0 (dig [69]) zb32 zb32 (.pointer Option.none) (.pointer Option.none):=by
  cases h with
  | none _ _ hc => exact hc
  | node _ _ g0 g1 _ h2 => simp at h2
end Go.Proofs.YtphmmnffgknkcaaGreatDoor
namespace Go.Proofs.YtphmmnffgknkcaaGreatDoor
open Go.RowKit Go.Shelf
set_option maxRecDepth 100000
attribute [local go_sem] Oper.semAt_some
abbrev encsL (p:Lf):Array Value:=#[.agg (cb p.1).toArray,.agg (cb p.2).toArray]
theorem roundIn_wide {m k:Nat} {P:Program} {l:Nat} {f:FuncId} {tmps:Array Value} {assign body:Code} {w:World} {R:Ending → World → Prop} (h:RoundIn Fence.wide m P l f tmps assign body w R):RoundIn Fence.wide k P l f tmps assign body w R:=
  ⟨h.1,fun c cs _ => h.2 c cs (room_wide _)⟩
theorem grownBy_drew (w:World):w.grownBy w.drew none:=⟨rfl,rfl,rfl,Nat.le_refl _,fun _ _ _ => rfl⟩
section
variable {n:Nat} {P:Program} {ops:Array Oper} {Q:Exit → Act → World → Prop}
theorem wpOpIn_val {i:Nat} {o:Oper} {v:Value} {a:Act} {w w':World} {K:Act → World → Prop} (hi:ops[i]? = some o) (hw:Region.wanted o (yielded ops a.tmps) = true) (he:(execOp a.eval o).run P w = .ok (.value v) w') (h:K (a.put o.dst v) w'):wpOpIn Fence.wide n P ops Q i K a w:=by
  unfold wpOpIn
  simp only [hi,hw,if_true]
  refine ⟨fun _ _ => trivial,?_⟩
  show Oper.uponIn _ _ _ _ _ _ _ ((execOp a.eval o).run P w)
  rw [he]
  exact h
theorem wpOpIn_round {i:Nat} {o:Oper} {l:Nat} {fn:FuncId} {tmps:Array Value} {assign body:Code} {a:Act} {w:World} {K:Act → World → Prop} {R:Ending → World → Prop} {m:Nat} (hi:ops[i]? = some o) (hw:Region.wanted o (yielded ops a.tmps) = true) (he:(execOp a.eval o).run P w = .ok (.round l fn tmps assign body) w) (hR:RoundIn Fence.wide m P l fn tmps assign body w R) (h:∀ e w',R e w' → ∃ v,e = .returned v ∧ K (a.put o.dst v) w'):wpOpIn Fence.wide n P ops Q i K a w:=by
  unfold wpOpIn
  simp only [hi,hw,if_true]
  refine ⟨fun _ _ => trivial,?_⟩
  show Oper.uponIn _ _ _ _ _ _ _ ((execOp a.eval o).run P w)
  rw [he,Oper.uponIn_round]
  refine ⟨fun h => (by cases h),(roundIn_wide hR).mono fun e w' hr => ?_⟩
  obtain ⟨v,rfl,hk⟩:=h e w' hr
  exact hk
theorem wpAnyIn_pairs {md:Region.Mode} {fuel:Nat} {listed:Array Bool} {a:Act} {w:World} (i j:Nat) (hr:Region.ready md ops listed = [i,j]) (h1:wpOpIn Fence.wide n P ops Q i (wpAnyIn Fence.wide n P md ops Q fuel (listed.setIfInBounds i true)) a w) (h2:wpOpIn Fence.wide n P ops Q j (wpAnyIn Fence.wide n P md ops Q fuel (listed.setIfInBounds j true)) a w):wpAnyIn Fence.wide n P md ops Q (fuel + 1) listed a w:=by
  refine wpAnyIn_all hr (by simp) fun k hk => ?_
  simp only [List.mem_cons,List.not_mem_nil,or_false] at hk
  rcases hk with rfl | rfl
  · exact h1
  · exact h2
theorem wpAnyIn_lone {md:Region.Mode} {fuel:Nat} {listed:Array Bool} {a:Act} {w:World} (i:Nat) (hr:Region.ready md ops listed = [i]) (h1:wpOpIn Fence.wide n P ops Q i (wpAnyIn Fence.wide n P md ops Q fuel (listed.setIfInBounds i true)) a w):wpAnyIn Fence.wide n P md ops Q (fuel + 1) listed a w:=by
  refine wpAnyIn_all hr (by simp) fun k hk => ?_
  simp only [List.mem_singleton] at hk
  rw [hk];exact h1
end
def EachDoes (v0:World) (n₀ lab:Nat) (J Jx:List Lf → World → Prop) (g:Nat) (l pre:List Lf) (W:World):Prop:=
  Calls Tryz.prog 96 #[.pointer (some ⟨g,0,none⟩),.func (.yield lab) #[] #[]] W fun e W' => (e = .returned (.bool true) ∧ J (pre ++ l) W' ∧ Below n₀ v0 W') ∨ (e = .returned (.bool false) ∧ ∃ k,k < l.length ∧ Jx (pre ++ l.take (k + 1)) W')
theorem each_none {v0:World} {n₀ lab:Nat} {J Jx:List Lf → World → Prop} {g:Nat} {pre:List Lf} {W:World} (hc:TreeC W g 0 (dig [69]) zb32 zb32 (.pointer none) (.pointer none)) (hb:Below n₀ v0 W) (h:J pre W):EachDoes v0 n₀ lab J Jx g [] pre W:=by
  unfold EachDoes
  have c0:=hc.cnt
  have HJ:Hid (J (pre ++ []) W):=by rw [List.append_nil];exact h
  have HB:Hid (Below n₀ v0 W):=hb
  clear hc h hb
  go_enter Tryz.func96,Tryz.ntmps96
  go_wp2
  go_ret
  exact Or.inl ⟨rfl,HJ.out,HB.out⟩
set_option maxRecDepth 100000 in
set_option maxHeartbeats 2000000 in
theorem each_leaf {v0:World} {n₀ lab m:Nat} {J Jx:List Lf → World → Prop} {g:Nat} {x v:List (BitVec 8)} {pre:List Lf} {W:World} (hc:TreeC W g 1 (dig (pairB 76 x v)) x v (.pointer none) (.pointer none)) (hb:Below n₀ v0 W)
    (hy:YieldAt Fence.wide m Tryz.prog lab (encsL (x,v)) W.drew fun e W' => (e = .returned (.bool true) ∧ J (pre ++ [(x,v)]) W' ∧ Below n₀ W.drew W') ∨ (e = .returned (.bool false) ∧ Jx (pre ++ [(x,v)]) W')):EachDoes v0 n₀ lab J Jx g [(x,v)] pre W:=by
  unfold EachDoes
  have c0:=hc.cnt
  have HX:Hid (W.drew.rangeAt g 33 (cb x)):=hc.index
  have HV:Hid (W.drew.rangeAt g 65 (cb v)):=hc.value
  have HL2:Hid (x.length = 32):=hc.l2
  have HL3:Hid (v.length = 32):=hc.l3
  have HB:Hid (∀ W',Below n₀ W.drew W' → Below n₀ v0 W'):=fun W' h => hb.trans ⟨h.os,h.tape,h.output,h.size,h.block⟩
  obtain ⟨fn,tmps,assign,body,hyr,hR⟩:=hy
  dsimp only [encsL] at hyr
  clear hc hb
  go_enter Tryz.func96,Tryz.ntmps96
  go_upto_region 5 with fail
  clear c0
  refine (wpIn_wide (n:=5)).1 ?_
  refine wpIn_region_any (by kernel_rfl) ?_
  change wpAnyIn _ _ _ _ _ _ _ _ _ (World.drew W)
  refine wpAnyIn_take (i:=0) (v:=.func (.yield lab) #[] #[]) rfl rfl (by kernel_rfl) (by kernel_rfl) (by kernel_rfl) (fun _ _ _ h => h) ⟨Or.inl ⟨by rfl,fun wx => by simp [go_sem]⟩,fun _ => rfl⟩ ?_
  simp only [Act.put,List.getElem_toArray,List.getElem_cons_zero,List.setIfInBounds_toArray,List.set_cons_zero,List.set_cons_succ]
  refine wpAnyIn_take (i:=1) (v:=.pointer (some ⟨g,0,none⟩)) rfl rfl (by kernel_rfl) (by kernel_rfl) (by kernel_rfl) (fun _ _ _ h => h) ⟨Or.inl ⟨by rfl,fun wx => by simp [go_sem]⟩,fun _ => rfl⟩ ?_
  simp only [Act.put,List.getElem_toArray,List.getElem_cons_succ,List.getElem_cons_zero,List.setIfInBounds_toArray,List.set_cons_zero,List.set_cons_succ]
  refine wpAnyIn_take (i:=2) (v:=.pointer (some ⟨g,0,none⟩)) rfl rfl (by kernel_rfl) (by kernel_rfl) (by kernel_rfl) (fun _ _ _ h => h) ⟨Or.inl ⟨by rfl,fun wx => by simp [go_sem]⟩,fun _ => rfl⟩ ?_
  simp only [Act.put,List.getElem_toArray,List.getElem_cons_succ,List.getElem_cons_zero,List.setIfInBounds_toArray,List.set_cons_zero,List.set_cons_succ]
  refine wpAnyIn_take (i:=3) (v:=.pointer (some ⟨g,33,none⟩)) rfl rfl (by kernel_rfl) (by kernel_rfl) (by kernel_rfl) (fun _ _ _ h => h) ⟨Or.inl ⟨by rfl,fun wx => by simp [go_sem]⟩,fun _ => rfl⟩ ?_
  simp only [Act.put,List.getElem_toArray,List.getElem_cons_succ,List.getElem_cons_zero,List.setIfInBounds_toArray,List.set_cons_zero,List.set_cons_succ]
  refine wpAnyIn_take (i:=5) (v:=.pointer (some ⟨g,0,none⟩)) rfl rfl (by kernel_rfl) (by kernel_rfl) (by kernel_rfl) (fun _ _ _ h => h) ⟨Or.inl ⟨by rfl,fun wx => by simp [go_sem]⟩,fun _ => rfl⟩ ?_
  simp only [Act.put,List.getElem_toArray,List.getElem_cons_succ,List.getElem_cons_zero,List.setIfInBounds_toArray,List.set_cons_zero,List.set_cons_succ]
  refine wpAnyIn_take (i:=6) (v:=.pointer (some ⟨g,0,none⟩)) rfl rfl (by kernel_rfl) (by kernel_rfl) (by kernel_rfl) (fun _ _ _ h => h) ⟨Or.inl ⟨by rfl,fun wx => by simp [go_sem]⟩,fun _ => rfl⟩ ?_
  simp only [Act.put,List.getElem_toArray,List.getElem_cons_succ,List.getElem_cons_zero,List.setIfInBounds_toArray,List.set_cons_zero,List.set_cons_succ]
  refine wpAnyIn_take (i:=7) (v:=.pointer (some ⟨g,65,none⟩)) rfl rfl (by kernel_rfl) (by kernel_rfl) (by kernel_rfl) (fun _ _ _ h => h) ⟨Or.inl ⟨by rfl,fun wx => by simp [go_sem]⟩,fun _ => rfl⟩ ?_
  simp only [Act.put,List.getElem_toArray,List.getElem_cons_succ,List.getElem_cons_zero,List.setIfInBounds_toArray,List.set_cons_zero,List.set_cons_succ]
  refine wpAnyIn_pairs 4 8 (by kernel_rfl) ?_ ?_
  · skip
    refine wpOpIn_val (v:=.agg (cb x).toArray) (w':=W.drew) rfl (by rfl) (load_run 39 _ rfl _ _ rfl (cb x) _ HX.out Tryz.underlying39 rfl (by rw [cb_len,HL2.out];exact info_digest)) ?_
    simp only [Act.put,List.getElem_toArray,List.getElem_cons_succ,List.getElem_cons_zero,List.setIfInBounds_toArray,List.set_cons_zero,List.set_cons_succ]
    refine wpAnyIn_lone 8 (by kernel_rfl) ?_
    refine wpOpIn_val (v:=.agg (cb v).toArray) (w':=W.drew) rfl (by rfl) (load_run 39 _ rfl _ _ rfl (cb v) _ HV.out Tryz.underlying39 rfl (by rw [cb_len,HL3.out];exact info_digest)) ?_
    simp only [Act.put,List.getElem_toArray,List.getElem_cons_succ,List.getElem_cons_zero,List.setIfInBounds_toArray,List.set_cons_zero,List.set_cons_succ]
    refine wpAnyIn_lone 9 (by kernel_rfl) ?_
    refine wpOpIn_round rfl (by rfl) (by simp [go_sem,hyr]) hR ?_
    rintro e W' (⟨rfl,hj,hbb⟩ | ⟨rfl,hj⟩)
    · refine ⟨_,rfl,?_⟩
      simp only [Act.put,List.getElem_toArray,List.getElem_cons_succ,List.getElem_cons_zero,List.setIfInBounds_toArray,List.set_cons_zero,List.set_cons_succ]
      refine wpAnyIn_lone 10 (by kernel_rfl) ?_
      refine wpOpIn_val (v:=.bool true) (w':=W') rfl (by rfl) (by simp [go_sem]) ?_
      simp only [Act.put,List.getElem_toArray,List.getElem_cons_succ,List.getElem_cons_zero,List.setIfInBounds_toArray,List.set_cons_zero,List.set_cons_succ]
      refine wpAnyIn_done (by kernel_rfl) ?_ _
      have HJ:Hid (J (pre ++ [(x,v)]) W'):=hj
      have HB2:Hid (Below n₀ v0 W'):=HB.out W' hbb
      clear hj hbb hyr hR
      go_wp2
      go_ret
      exact Or.inl ⟨rfl,HJ.out,HB2.out⟩
    · refine ⟨_,rfl,?_⟩
      simp only [Act.put,List.getElem_toArray,List.getElem_cons_succ,List.getElem_cons_zero,List.setIfInBounds_toArray,List.set_cons_zero,List.set_cons_succ]
      refine wpAnyIn_lone 10 (by kernel_rfl) ?_
      refine wpOpIn_val (v:=.bool false) (w':=W') rfl (by rfl) (by simp [go_sem]) ?_
      simp only [Act.put,List.getElem_toArray,List.getElem_cons_succ,List.getElem_cons_zero,List.setIfInBounds_toArray,List.set_cons_zero,List.set_cons_succ]
      refine wpAnyIn_done (by kernel_rfl) ?_ _
      have HJ:Hid (Jx (pre ++ [(x,v)]) W'):=hj
      clear hj hyr hR
      go_wp2
      go_ret
      exact Or.inr ⟨rfl,0,by simp,HJ.out⟩
  · skip
    refine wpOpIn_val (v:=.agg (cb v).toArray) (w':=W.drew) rfl (by rfl) (load_run 39 _ rfl _ _ rfl (cb v) _ HV.out Tryz.underlying39 rfl (by rw [cb_len,HL3.out];exact info_digest)) ?_
    simp only [Act.put,List.getElem_toArray,List.getElem_cons_succ,List.getElem_cons_zero,List.setIfInBounds_toArray,List.set_cons_zero,List.set_cons_succ]
    refine wpAnyIn_lone 4 (by kernel_rfl) ?_
    refine wpOpIn_val (v:=.agg (cb x).toArray) (w':=W.drew) rfl (by rfl) (load_run 39 _ rfl _ _ rfl (cb x) _ HX.out Tryz.underlying39 rfl (by rw [cb_len,HL2.out];exact info_digest)) ?_
    simp only [Act.put,List.getElem_toArray,List.getElem_cons_succ,List.getElem_cons_zero,List.setIfInBounds_toArray,List.set_cons_zero,List.set_cons_succ]
    refine wpAnyIn_lone 9 (by kernel_rfl) ?_
    refine wpOpIn_round rfl (by rfl) (by simp [go_sem,hyr]) hR ?_
    rintro e W' (⟨rfl,hj,hbb⟩ | ⟨rfl,hj⟩)
    · refine ⟨_,rfl,?_⟩
      simp only [Act.put,List.getElem_toArray,List.getElem_cons_succ,List.getElem_cons_zero,List.setIfInBounds_toArray,List.set_cons_zero,List.set_cons_succ]
      refine wpAnyIn_lone 10 (by kernel_rfl) ?_
      refine wpOpIn_val (v:=.bool true) (w':=W') rfl (by rfl) (by simp [go_sem]) ?_
      simp only [Act.put,List.getElem_toArray,List.getElem_cons_succ,List.getElem_cons_zero,List.setIfInBounds_toArray,List.set_cons_zero,List.set_cons_succ]
      refine wpAnyIn_done (by kernel_rfl) ?_ _
      have HJ:Hid (J (pre ++ [(x,v)]) W'):=hj
      have HB2:Hid (Below n₀ v0 W'):=HB.out W' hbb
      clear hj hbb hyr hR
      go_wp2
      go_ret
      exact Or.inl ⟨rfl,HJ.out,HB2.out⟩
    · refine ⟨_,rfl,?_⟩
      simp only [Act.put,List.getElem_toArray,List.getElem_cons_succ,List.getElem_cons_zero,List.setIfInBounds_toArray,List.set_cons_zero,List.set_cons_succ]
      refine wpAnyIn_lone 10 (by kernel_rfl) ?_
      refine wpOpIn_val (v:=.bool false) (w':=W') rfl (by rfl) (by simp [go_sem]) ?_
      simp only [Act.put,List.getElem_toArray,List.getElem_cons_succ,List.getElem_cons_zero,List.setIfInBounds_toArray,List.set_cons_zero,List.set_cons_succ]
      refine wpAnyIn_done (by kernel_rfl) ?_ _
      have HJ:Hid (Jx (pre ++ [(x,v)]) W'):=hj
      clear hj hyr hR
      go_wp2
      go_ret
      exact Or.inr ⟨rfl,0,by simp,HJ.out⟩
set_option maxRecDepth 100000 in
set_option maxHeartbeats 2000000 in
theorem each_node {v0:World} {n₀ lab:Nat} {J Jx:List Lf → World → Prop} {g g0 g1 c:Nat} {rt:List (BitVec 8)} {A B pre:List Lf} {W:World} (hc:∀ W',Below n₀ v0 W' → TreeC W' g c rt zb32 zb32 (ptr g0) (ptr g1)) (hb:Below n₀ v0 W) (h2:2 ≤ c)
    (h0:EachDoes v0 n₀ lab J Jx g0 A pre W) (h1:∀ W',J (pre ++ A) W' → Below n₀ v0 W' → EachDoes v0 n₀ lab J Jx g1 B (pre ++ A) W'):EachDoes v0 n₀ lab J Jx g (A ++ B) pre W:=by
  unfold EachDoes at *
  have HC:Hid (∀ W',Below n₀ v0 W' → TreeC W' g c rt zb32 zb32 (ptr g0) (ptr g1)):=hc
  have H0:Hid (Calls Tryz.prog 96 #[.pointer (some ⟨g0,0,none⟩),.func (.yield lab) #[] #[]] W fun e W' => (e = .returned (.bool true) ∧ J (pre ++ A) W' ∧ Below n₀ v0 W') ∨ (e = .returned (.bool false) ∧ ∃ k,k < A.length ∧ Jx (pre ++ A.take (k + 1)) W')):=h0
  have H1:Hid (∀ W',J (pre ++ A) W' → Below n₀ v0 W' → Calls Tryz.prog 96 #[.pointer (some ⟨g1,0,none⟩),.func (.yield lab) #[] #[]] W' fun e W'' => (e = .returned (.bool true) ∧ J (pre ++ A ++ B) W'' ∧ Below n₀ v0 W'') ∨ (e = .returned (.bool false) ∧ ∃ k,k < B.length ∧ Jx (pre ++ A ++ B.take (k + 1)) W'')):=h1
  have c0:W.cell? ⟨g,0,none⟩ = some (.int .i64 (c:Int)):=(hc W hb).cnt
  have c97:W.cell? ⟨g,97,none⟩ = some (.pointer (some ⟨g0,0,none⟩)):=(hc W hb).off
  have z0:¬ ((c:Int) = 0):=by omega
  have z0':((c:Int) == 0) = false:=by rw [beq_eq_false_iff_ne];omega
  have z1:¬ ((c:Int) = 1):=by omega
  have z1':((c:Int) == 1) = false:=by rw [beq_eq_false_iff_ne];omega
  clear hc hb h0 h1
  go_enter Tryz.func96,Tryz.ntmps96
  go_wp2_with fail
  refine H0.out.mono ?_
  clear H0 c0 c97 z0 z0' z1 z1'
  rintro e W1 (⟨rfl,hj,hbb⟩ | ⟨rfl,k,hk,hj⟩)
  · have HA:Hid (Calls Tryz.prog 96 #[.pointer (some ⟨g1,0,none⟩),.func (.yield lab) #[] #[]] W1 fun e W'' => (e = .returned (.bool true) ∧ J (pre ++ A ++ B) W'' ∧ Below n₀ v0 W'') ∨ (e = .returned (.bool false) ∧ ∃ k,k < B.length ∧ Jx (pre ++ A ++ B.take (k + 1)) W'')):=H1.out W1 hj hbb
    have c98:W1.cell? ⟨g,98,none⟩ = some (.pointer (some ⟨g1,0,none⟩)):=(HC.out W1 hbb).on
    clear hj hbb H1 HC
    go_wp2_with fail
    refine HA.out.mono ?_
    clear HA c98
    rintro e W2 (⟨rfl,hj,hbb⟩ | ⟨rfl,k,hk,hj⟩)
    · have HJ:Hid (J (pre ++ (A ++ B)) W2):=by rw [← List.append_assoc];exact hj
      have HB:Hid (Below n₀ v0 W2):=hbb
      clear hj hbb
      go_wp2
      go_ret
      exact Or.inl ⟨rfl,HJ.out,HB.out⟩
    · have HJ:Hid (∃ k,k < (A ++ B).length ∧ Jx (pre ++ (A ++ B).take (k + 1)) W2):=by
        refine ⟨A.length + k,by rw [List.length_append];omega,?_⟩
        rw [show A.length + k + 1 = A.length + (k + 1) by omega,List.take_length_add_append,← List.append_assoc]
        exact hj
      clear hj hk
      go_wp2
      go_ret
      exact Or.inr ⟨rfl,HJ.out⟩
  · have HJ:Hid (∃ k,k < (A ++ B).length ∧ Jx (pre ++ (A ++ B).take (k + 1)) W1):=by
      refine ⟨k,by rw [List.length_append];omega,?_⟩
      rw [List.take_append_of_le_length (by omega)]
      exact hj
    clear hj hk H1 HC
    go_wp2
    go_ret
    exact Or.inr ⟨rfl,HJ.out⟩
theorem each_any {v0:World} {n₀ lab m N B:Nat} {J Jx:List Lf → World → Prop} (hz:v0.heap.size = n₀) (hJ:AbidesFrom B J)
    (hY:∀ pre x W1,x.1.length = 32 ∧ x.2.length = 32 → J pre W1 → pre.length < N → YieldAt Fence.wide m Tryz.prog lab (encsL x) W1 fun e W' => (e = .returned (.bool true) ∧ J (pre ++ [x]) W' ∧ Below n₀ W1 W') ∨ (e = .returned (.bool false) ∧ Jx (pre ++ [x]) W')) {d g:Nat} {l:List Lf} (h:TreeIs v0 d g l) :
    ∀ (pre:List Lf) (W:World),Below n₀ v0 W → J pre W → pre.length + l.length ≤ N → EachDoes v0 n₀ lab J Jx g l pre W:=by
  induction h with
  | none d g hc => exact fun pre W hb hj _ => each_none (hc.below hb (by rw [← hz];exact hc.blk.lt)) hb hj
  | leaf d g x v hc => exact fun pre W hb hj hl => each_leaf (hc.below hb (by rw [← hz];exact hc.blk.lt)) hb (hY pre (x,v) W.drew ⟨hc.l2,hc.l3⟩ (hJ _ _ _ none hj (grownBy_drew W) (fun r e => by cases e)) (by simp at hl;omega))
  | node d g g0 g1 l h2 hf _ _ hc i0 i1 =>
    intro pre W hb hj hl
    have ho:=half_order hf
    have hlen:=half_len hf
    rw [ho]
    refine each_node (fun W' hb' => hc.below hb' (by rw [← hz];exact hc.blk.lt)) hb h2 (i0 pre W hb hj (by omega)) fun W' hj' hb' => i1 _ W' hb' hj' (by rw [List.length_append];omega)
theorem trAll_any (w:World) (g:Nat):Calls Tryz.prog 73 #[.pointer (some ⟨g,0,none⟩)] w fun e w' => ∃ gb,e = .returned (.func (.func 95) #[] #[.pointer (some ⟨gb,0,none⟩)]) ∧ Blk w' gb [ptr g] 35 ∧ Below w.heap.size w w':=by
  go_enter Tryz.func73,Tryz.ntmps73
  go_wp2
  go_ret
  exact ⟨_,rfl,Blk.new w [ptr g] _,below_alloc w _⟩
abbrev Lf32:Type:={ p:Lf // p.1.length = 32 ∧ p.2.length = 32 }
abbrev encs32 (p:Lf32):Array Value:=encsL p.1
set_option maxRecDepth 100000 in
set_option maxHeartbeats 2000000 in
theorem all_stops (n:Nat) {v0:World} {n₀ g gb:Nat} {l:List Lf} (hz:v0.heap.size = n₀) (hT:TreeIs v0 0 g l) (w:World) (hw:Below n₀ v0 w) (hnw:n₀ ≤ w.heap.size) (hB:Blk w gb [ptr g] 35) :
    SeqStopsK Fence.wide n Tryz.prog 95 #[.pointer (some ⟨gb,0,none⟩)] encs32 (Below n₀) (fun xs => xs.map (·.1) = l) (fun pre => ∃ k,k ≤ l.length ∧ pre.map (·.1) = l.take k) l.length w:=fun lab J Jx W hW hJ hJx hY h0 => by
  have HE:Hid (EachDoes v0 n₀ lab (fun pre W => ∃ p:List Lf32,p.map (·.1) = pre ∧ J p W) (fun pre W => ∃ p:List Lf32,p.map (·.1) = pre ∧ Jx p W) g l [] W):=by
    refine each_any (m:=n - 1) (N:=l.length) (B:=W.heap.size) hz (fun s A A' row hs hg hr => ?_) (fun pre x W1 hx hp hl => ?_) hT [] W (hw.trans (hW.mono hnw)) ⟨[],rfl,h0⟩ (by simp)
    · obtain ⟨p,e,hp⟩:=hs
      exact ⟨p,e,hJ p A A' row hp hg hr⟩
    · obtain ⟨p,e,hp⟩:=hp
      refine (hY p ⟨x,hx⟩ W1 hp (by rw [← e,List.length_map] at hl;exact hl)).mono fun e' W' he => ?_
      rcases he with ⟨h1,h2,h3⟩ | ⟨h1,h2⟩
      · exact Or.inl ⟨h1,⟨p ++ [⟨x,hx⟩],by rw [List.map_append,e];rfl,h2⟩,h3⟩
      · exact Or.inr ⟨h1,⟨p ++ [⟨x,hx⟩],by rw [List.map_append,e];rfl,h2⟩⟩
  have c0:W.cell? ⟨gb,0,none⟩ = some (.pointer (some ⟨g,0,none⟩)):=(hB.below hW hB.lt).cell 0
  clear hB hW hw hT hY h0 hJ hJx
  refine callsIn_wide.2 ?_
  simp only [List.append_toArray,List.cons_append,List.nil_append]
  go_enter Tryz.func95,Tryz.ntmps95
  go_wp2_with fail
  have HE2:=HE.out
  unfold EachDoes at HE2
  refine HE2.mono ?_
  clear HE HE2 c0
  rintro e W2 (⟨rfl,hj,hbb⟩ | ⟨rfl,k,hk,hj⟩)
  · have HJ:Hid (∃ p:List Lf32,p.map (·.1) = l ∧ J p W2):=by simp only [List.nil_append] at hj;exact hj
    clear hj hbb
    go_wp2
    go_end0
    exact ⟨⟨_,rfl⟩,.inl HJ.out⟩
  · have HJ:Hid (∃ p:List Lf32,p.map (·.1) = l.take (k + 1) ∧ Jx p W2):=by simp only [List.nil_append] at hj;exact hj
    clear hj
    go_wp2
    go_end0
    obtain ⟨p,e,hp⟩:=HJ.out
    exact ⟨⟨_,rfl⟩,.inr ⟨p,⟨k + 1,hk,e⟩,hp⟩⟩
end Go.Proofs.YtphmmnffgknkcaaGreatDoor
namespace Go.Proofs.YtphmmnffgknkcaaGreatDoor
open Go.RowKit
set_option maxRecDepth 100000
set_option maxRecDepth 100000 in
set_option maxHeartbeats 2000000 in
theorem soSearch_any (n g:Nat) (cbs:Array Value) (p:Nat → Bool) (w:World) (eg:∀ args w,(callFunc g args).run Tryz.prog w = .ok (.enter g args) w) (hn:n < 1000000000) (hf:∀ W i,Over w W → i < n → Calls Tryz.prog g (#[.int .i64 (i:Int)] ++ cbs) W fun e w' => e = .returned (.bool (p i)) ∧ Below W.heap.size W w') :
    Calls Tryz.prog 60 #[.int .i64 (n:Int),.func (.func g) #[] cbs] w fun e w' => ∃ k:Nat,e = .returned (.int .i64 (k:Int)) ∧ k ≤ n ∧ (k = 0 ∨ p (k - 1) = false) ∧ (k = n ∨ p k = true) ∧ Below w.heap.size w w':=by
  have HFF:Aside (∀ W i,Over w W → i < n → Calls Tryz.prog g (#[.int .i64 (i:Int)] ++ cbs) W fun e w' => e = .returned (.bool (p i)) ∧ Below W.heap.size W w'):=hf
  clear hf
  go_enter Tryz.func60,Tryz.ntmps60
  go_wp2
  go_loopg [5,6] n (fun kx s5 s6 wr => ∃ (i j:Nat),s5 = .int .i64 i ∧ s6 = .int .i64 j ∧ i ≤ j ∧ j ≤ n ∧ j - i ≤ kx ∧ Hid (Over w wr) ∧ Hid (i = 0 ∨ p (i - 1) = false) ∧ Hid (j = n ∨ p j = true))
  case atStart => exact ⟨0,n,rfl,rfl,by omega,by omega,by omega,Over.refl w,Or.inl rfl,Or.inl rfl⟩
  case round =>
    obtain ⟨i,j,rfl,rfl,hij,hjn,hkx,HO,H1,H2⟩:=hrel
    by_cases hlt:i < j
    · have hltz:(i:Int) < (j:Int):=by omega
      have rs:IntKind.i64.wrap ((i:Int) + (j:Int)) = (i:Int) + (j:Int):=by rw [IntKind.wrap_i64];omega
      go_upto_region 4 with (fail)
      obtain ⟨h,hh1,hh2,eh⟩:∃ h:Nat,i ≤ h ∧ h < j ∧ ((i:Int) + (j:Int)) / 2 = (h:Int):=⟨(i + j) / 2,by omega,by omega,by omega⟩
      simp only [eh]
      clear eh rs
      have HCA:Hid (Calls Tryz.prog g (#[.int .i64 (h:Int)] ++ cbs) wr fun e w' => e = .returned (.bool (p h)) ∧ Below wr.heap.size wr w'):=HFF.out wr h HO.out (by omega)
      have r1:IntKind.i64.wrap ((h:Int) + 1) = (h:Int) + 1:=by rw [IntKind.wrap_i64];omega
      cases hp:p h with
      | false =>
        rw [hp] at HCA
        go_wp2_with (go_at_fn g;refine HCA.out.mono ?_;rintro e w2 ⟨rfl,hb⟩)
        go_roundg (j - (h + 1))
        case measure => omega
        case rel => exact ⟨h + 1,j,by go_num,rfl,by omega,hjn,Nat.le_refl _,HO.out.more hb,Or.inr hp,H2⟩
      | true =>
        rw [hp] at HCA
        go_wp2_with (go_at_fn g;refine HCA.out.mono ?_;rintro e w2 ⟨rfl,hb⟩)
        go_roundg (h - i)
        case measure => omega
        case rel => exact ⟨i,h,rfl,rfl,by omega,by omega,Nat.le_refl _,HO.out.more hb,H1,Or.inr hp⟩
    · have hltz:¬ (i:Int) < (j:Int):=by omega
      have e:j = i:=by omega
      subst e
      go_wp2
      go_ret
      exact ⟨j,rfl,hjn,H1.out,H2.out,HO.out⟩
structure LvRow (W:World) (b off:Nat) (ps:List (Nat × Lf)):Prop where
  cell:∀ k,k < ps.length → W.cell? ⟨b,off + k,none⟩ = some (ptr (ps.getD k default).1)
  leaf:∀ q ∈ ps,TreeC W q.1 1 (dig (pairB 76 q.2.1 q.2.2)) q.2.1 q.2.2 (.pointer none) (.pointer none)
theorem LvRow.next {W W':World} {b off:Nat} {ps:List (Nat × Lf)} (h:LvRow W b off ps) (hb:Below W.heap.size W W'):LvRow W' b off ps:=
  ⟨fun k hk => by
    have h1:=h.cell k hk
    rw [hb.cell (p:=⟨b,off + k,none⟩) (block_lt_of_cell h1)]
    exact h1,fun q hq => (h.leaf q hq).next hb⟩
theorem LvRow.take {W:World} {b off k:Nat} {ps:List (Nat × Lf)} (h:LvRow W b off ps):LvRow W b off (ps.take k):=
  ⟨fun j hj => by
    rw [List.length_take] at hj
    rw [h.cell j (by omega),List.getD_eq_getElem?_getD,List.getD_eq_getElem?_getD,List.getElem?_take_of_lt (by omega)],fun q hq => h.leaf q (List.mem_of_mem_take hq)⟩
theorem LvRow.drop {W:World} {b off k:Nat} {ps:List (Nat × Lf)} (h:LvRow W b off ps):LvRow W b (off + k) (ps.drop k):=
  ⟨fun j hj => by
    rw [List.length_drop] at hj
    rw [Nat.add_assoc,h.cell (k + j) (by omega),List.getD_eq_getElem?_getD,List.getD_eq_getElem?_getD,List.getElem?_drop],fun q hq => h.leaf q (List.mem_of_mem_drop hq)⟩
set_option maxRecDepth 100000 in
set_option maxHeartbeats 2000000 in
theorem trBelow1_any (b off n cap i g2 g3:Nat) (d:Nat) (ps:List (Nat × Lf)) (w:World) (hR:LvRow w b off ps) (hn:ps.length = n) (hi:i < n) (hd:d < 256) (hc2:w.cell? ⟨g2,0,none⟩ = some (.slice (some ⟨b,off,none⟩) n cap)) (hc3:w.cell? ⟨g3,0,none⟩ = some (.int .i64 (d:Int))) :
    Calls Tryz.prog 61 (#[.int .i64 (i:Int)] ++ #[.pointer (some ⟨g2,0,none⟩),.pointer (some ⟨g3,0,none⟩)]) w fun e w' => e = .returned (.bool (bt (ps.getD i default).2.1 d)) ∧ Below w.heap.size w w':=by
  have HR:Hid (LvRow w.drew b off ps):=hR.next (Below.refl _ w).drew
  obtain ⟨q,HQ⟩:∃ q,Hid (q = ps.getD i default):=⟨_,rfl⟩
  have HM:Hid (q ∈ ps):=by
    show _ ∈ _
    rw [HQ.out,List.getD_eq_getElem?_getD,List.getElem?_eq_getElem (by omega),Option.getD_some]
    exact List.getElem_mem _
  have HL:Hid (q.2.1.length = 32):=(hR.leaf q HM.out).l2
  have HB:Hid (bitI q.2.1 (d:Int) = bt q.2.1 d):=bitI_nat _ _ hd
  rw [← HQ.out,← HB.out]
  obtain ⟨gq,x,vq⟩:=q
  have HC:Hid (∀ wx,Over w.drew wx → wx.cell? ⟨b,off + i,none⟩ = some (.pointer (some ⟨gq,0,none⟩))):=fun wx hx => by
    have:=(HR.out.next hx.out).cell i (by omega)
    rw [← HQ.out] at this
    exact this
  have HX:Hid (∀ wx,Over w.drew wx → wx.rangeAt gq 33 (cb x)):=fun wx hx => ((HR.out.next hx.out).leaf _ HM.out).index
  have HC2:Hid (∀ wx,Over w.drew wx → wx.cell? ⟨g2,0,none⟩ = some (.slice (some ⟨b,off,none⟩) n cap)):=fun wx hx => (hx.out.cell (p:=⟨g2,0,none⟩) (block_lt_of_cell hc2)).trans hc2
  have HC3:Hid (∀ wx,Over w.drew wx → wx.cell? ⟨g3,0,none⟩ = some (.int .i64 (d:Int))):=fun wx hx => (hx.out.cell (p:=⟨g3,0,none⟩) (block_lt_of_cell hc3)).trans hc3
  clear hR hn hc2 hc3 HR HQ HM HB
  have i0:(0:Int) ≤ (i:Int):=by omega
  have i1:(i:Int) < (n:Int):=by omega
  simp only [List.append_toArray,List.cons_append,List.nil_append]
  go_enter Tryz.func61,Tryz.ntmps61
  go_wp2_with fail
  refine wp_region_held_drew (S:=Over w.drew) (by kernel_rfl) (Over.refl _) ?_
  intro hS
  refine wpAnyH_take (i:=0) (v:=.slice (some ⟨b,off,none⟩) n cap) rfl (by kernel_rfl) (by kernel_rfl) (by kernel_rfl) (fun _ _ _ h => h) (Or.inl ⟨by rfl,fun wx hx => by (have hc:=HC2.out wx hx;simp [go_sem,hc])⟩) hS ?_
  simp only [Act.put,List.getElem_toArray,List.getElem_cons_zero,List.setIfInBounds_toArray,List.set_cons_zero,List.set_cons_succ]
  refine wpAnyH_take (i:=1) (v:=.int .i64 (i:Int)) rfl (by kernel_rfl) (by kernel_rfl) (by kernel_rfl) (fun _ _ _ h => h) (Or.inl ⟨by rfl,fun wx hx => by simp [go_sem]⟩) hS ?_
  simp only [Act.put,List.getElem_toArray,List.getElem_cons_succ,List.getElem_cons_zero,List.setIfInBounds_toArray,List.set_cons_zero,List.set_cons_succ]
  refine wpAnyH_take (i:=2) (v:=.pointer (some ⟨b,off + i,none⟩)) rfl (by kernel_rfl) (by kernel_rfl) (by kernel_rfl) (fun _ _ _ h => h) (Or.inl ⟨by rfl,fun wx hx => by simp [go_sem,i0,i1]⟩) hS ?_
  simp only [Act.put,List.getElem_toArray,List.getElem_cons_succ,List.getElem_cons_zero,List.setIfInBounds_toArray,List.set_cons_zero,List.set_cons_succ]
  refine wpAnyH_take (i:=3) (v:=.pointer (some ⟨gq,0,none⟩)) rfl (by kernel_rfl) (by kernel_rfl) (by kernel_rfl) (fun _ _ _ h => h) (Or.inl ⟨by rfl,fun wx hx => by (have hc:=HC.out wx hx;simp [go_sem,hc])⟩) hS ?_
  simp only [Act.put,List.getElem_toArray,List.getElem_cons_succ,List.getElem_cons_zero,List.setIfInBounds_toArray,List.set_cons_zero,List.set_cons_succ]
  refine wpAnyH_take (i:=4) (v:=.pointer (some ⟨gq,0,none⟩)) rfl (by kernel_rfl) (by kernel_rfl) (by kernel_rfl) (fun _ _ _ h => h) (Or.inl ⟨by rfl,fun wx hx => by simp [go_sem]⟩) hS ?_
  simp only [Act.put,List.getElem_toArray,List.getElem_cons_succ,List.getElem_cons_zero,List.setIfInBounds_toArray,List.set_cons_zero,List.set_cons_succ]
  refine wpAnyH_take (i:=5) (v:=.pointer (some ⟨gq,33,none⟩)) rfl (by kernel_rfl) (by kernel_rfl) (by kernel_rfl) (fun _ _ _ h => h) (Or.inl ⟨by rfl,fun wx hx => by simp [go_sem]⟩) hS ?_
  simp only [Act.put,List.getElem_toArray,List.getElem_cons_succ,List.getElem_cons_zero,List.setIfInBounds_toArray,List.set_cons_zero,List.set_cons_succ]
  refine wpAnyH_take (i:=6) (v:=.agg (cb x).toArray) rfl (by kernel_rfl) (by kernel_rfl) (by kernel_rfl) (fun _ _ _ h => h) (Or.inl ⟨by rfl,fun wx hx => by exact load_run 39 _ rfl _ _ rfl (cb x) _ (HX.out wx hx) Tryz.underlying39 rfl (by rw [cb_len,HL.out];exact info_digest)⟩) hS ?_
  simp only [Act.put,List.getElem_toArray,List.getElem_cons_succ,List.getElem_cons_zero,List.setIfInBounds_toArray,List.set_cons_zero,List.set_cons_succ]
  refine wpAnyH_take (i:=7) (v:=.int .i64 (d:Int)) rfl (by kernel_rfl) (by kernel_rfl) (by kernel_rfl) (fun _ _ _ h => h) (Or.inl ⟨by rfl,fun wx hx => by (have hc:=HC3.out wx hx;simp [go_sem,hc])⟩) hS ?_
  simp only [Act.put,List.getElem_toArray,List.getElem_cons_succ,List.getElem_cons_zero,List.setIfInBounds_toArray,List.set_cons_zero,List.set_cons_succ]
  refine wpAnyH_enter 8 (by kernel_rfl) rfl (by rfl) (f:=62) (args:=#[.agg (cb x).toArray,.int .i64 (d:Int)]) (by simp [go_sem]) (pBit_any x HL.out _ _) ?_
  rintro e wy ⟨rfl,hbq⟩
  refine ⟨_,rfl,hS.more hbq,?_⟩
  replace hS:=hS.more hbq
  clear hbq
  simp only [Act.put,List.getElem_toArray,List.getElem_cons_succ,List.getElem_cons_zero,List.setIfInBounds_toArray,List.set_cons_zero,List.set_cons_succ]
  refine wpAnyH_take (i:=9) (v:=.bool (bitI x (d:Int))) rfl (by kernel_rfl) (by kernel_rfl) (by kernel_rfl) (fun _ _ _ h => h) (Or.inl ⟨by rfl,fun wx hx => by simp [go_sem]⟩) hS ?_
  simp only [Act.put,List.getElem_toArray,List.getElem_cons_succ,List.getElem_cons_zero,List.setIfInBounds_toArray,List.set_cons_zero,List.set_cons_succ]
  refine wpAnyH_done (by kernel_rfl) ?_ _
  go_wp2_with fail
  go_ret
  exact ⟨rfl,hS.after (Below.refl _ w).drew⟩
theorem slLo (b off n cap k:Nat) (h:k ≤ cap) (w:World):(Instr.sliceAt 80 (.slice (some ⟨b,off,none⟩) n cap) none (some (.int .i64 (k:Int))) none).run Tryz.prog w = .ok (.slice (some ⟨b,off,none⟩) k cap) w:=by
  have hs:(sizeOf 35).run Tryz.prog w = .ok 1 w:=by kernel_rfl
  rw [run_sliceAt_slice w 80 _ _ _ _ (by kernel_rfl),run_slice_h w 80 _ _ _ (by kernel_rfl) .i64 _ (by omega) (by omega)]
  rw [show Tryz.prog.elem 80 = 35 from by kernel_rfl,hs]
  simp only [Result.andThen_ok,sliced,Int.toNat_natCast,Nat.mul_one,Option.map_some]
  split <;> simp [Addr.add_mid]
theorem slHi (b off n cap k:Nat) (h:k ≤ n) (w:World):(Instr.sliceAt 80 (.slice (some ⟨b,off,none⟩) n cap) (some (.int .i64 (k:Int))) none none).run Tryz.prog w = .ok (.slice (some ⟨b,if cap = k then off else off + k,none⟩) (n - k) (cap - k)) w:=by
  have hs:(sizeOf 35).run Tryz.prog w = .ok 1 w:=by kernel_rfl
  rw [run_sliceAt_slice w 80 _ _ _ _ (by kernel_rfl),run_slice_l w 80 _ _ _ (by kernel_rfl) .i64 _ (by omega) (by omega)]
  rw [show Tryz.prog.elem 80 = 35 from by kernel_rfl,hs]
  simp only [Result.andThen_ok,sliced,Int.toNat_natCast,Nat.mul_one,Option.map_some]
  split <;> simp [Addr.add_mid]
theorem search_half {ps:List (Nat × Lf)} {d k:Nat} (hF:Fits (ps.map (·.2)) d) (hk:k ≤ ps.length) (h1:k = 0 ∨ bt (ps.getD (k - 1) default).2.1 d = false) (h2:k = ps.length ∨ bt (ps.getD k default).2.1 d = true):(ps.take k).map (·.2) = halfL (ps.map (·.2)) d false ∧ (ps.drop k).map (·.2) = halfL (ps.map (·.2)) d true:=by
  have ho:=half_order hF
  obtain ⟨A,hA⟩:∃ A,A = halfL (ps.map (·.2)) d false:=⟨_,rfl⟩
  obtain ⟨B,hB⟩:∃ B,B = halfL (ps.map (·.2)) d true:=⟨_,rfl⟩
  rw [← hA,← hB] at ho ⊢
  have hAm:∀ p ∈ A,bt p.1 d = false:=fun p hp => by rw [hA] at hp;exact (mem_halfL.1 hp).2
  have hBm:∀ p ∈ B,bt p.1 d = true:=fun p hp => by rw [hB] at hp;exact (mem_halfL.1 hp).2
  have hlen:ps.length = A.length + B.length:=by have:=congrArg List.length ho;rw [List.length_map,List.length_append] at this;exact this
  have get:∀ j,j < ps.length → (ps.getD j default).2 = (A ++ B).getD j ([],[]):=fun j hj => by
    rw [← ho,List.getD_eq_getElem?_getD,List.getD_eq_getElem?_getD,List.getElem?_map,List.getElem?_eq_getElem hj]
    rfl
  have hkA:k = A.length:=by
    rcases Nat.lt_trichotomy k A.length with h | h | h
    · rcases h2 with e | e
      · omega
      · rw [get k (by omega),List.getD_eq_getElem?_getD,List.getElem?_append_left h,List.getElem?_eq_getElem h,Option.getD_some,hAm _ (List.getElem_mem _)] at e
        cases e
    · exact h
    · rcases h1 with e | e
      · omega
      · rw [get (k - 1) (by omega),List.getD_eq_getElem?_getD,List.getElem?_append_right (by omega),List.getElem?_eq_getElem (by omega),Option.getD_some,hBm _ (List.getElem_mem _)] at e
        cases e
  rw [List.map_take,List.map_drop,ho,hkA]
  exact ⟨List.take_left,List.drop_left⟩
theorem trBelow_nil (ad:Option Addr) (cap d:Nat) (w:World) (hK:KOk w):Calls Tryz.prog 37 #[.slice ad 0 cap,.int .i64 (d:Int)] w fun e w' => ∃ g,e = .returned (.pointer (some ⟨g,0,none⟩)) ∧ TreeIs w' d g [] ∧ Below w.heap.size w w':=by
  have HK:Hid (KOk w):=hK
  clear hK
  obtain ⟨wB,HWB⟩:∃ z,Hid (z = (w.alloc (.cells #[.slice ad 0 cap] 80)).alloc (.cells #[.int .i64 (d:Int)] 3)):=⟨_,rfl⟩
  have HBW:Hid (Below w.heap.size w wB):=by rw [HWB.out];exact ((Below.refl _ w).alloc (Nat.le_refl _) _).alloc (by simp) _
  replace HK:Hid (KOk wB):=HK.out.below HBW.out HK.out.lt
  go_enter Tryz.func37,Tryz.ntmps37
  go_upto_region 3 with fail
  rw [← HWB.out]
  go_wp2_with (go_at_call 22;refine (trEmpty_any _ HK.out).mono ?_;rintro e wb ⟨ge,rfl,hce,hb⟩)
  go_ret
  exact ⟨ge,rfl,.none d ge hce,HBW.out.trans (hb.mono HBW.out.size)⟩
theorem trBelow_one (b off cap d:Nat) (q:Nat × Lf) (w:World) (hR:LvRow w b off [q]):Calls Tryz.prog 37 #[.slice (some ⟨b,off,none⟩) 1 cap,.int .i64 (d:Int)] w fun e w' => ∃ g,e = .returned (.pointer (some ⟨g,0,none⟩)) ∧ TreeIs w' d g [q.2] ∧ Below w.heap.size w w':=by
  obtain ⟨gq,x,v⟩:=q
  obtain ⟨wB,HWB⟩:∃ z,Hid (z = (w.alloc (.cells #[.slice (some ⟨b,off,none⟩) 1 cap] 80)).alloc (.cells #[.int .i64 (d:Int)] 3)):=⟨_,rfl⟩
  have HBW:Hid (Below w.heap.size w wB):=by rw [HWB.out];exact ((Below.refl _ w).alloc (Nat.le_refl _) _).alloc (by simp) _
  have HR:Hid (LvRow wB b off [(gq,x,v)]):=hR.next HBW.out
  have c1:wB.cell? ⟨b,off,none⟩ = some (.pointer (some ⟨gq,0,none⟩)):=HR.out.cell 0 (by simp)
  have c2:wB.cell? ⟨w.heap.size,0,none⟩ = some (.slice (some ⟨b,off,none⟩) 1 cap):=by rw [HWB.out];simp
  clear hR
  go_enter Tryz.func37,Tryz.ntmps37
  go_upto_region 5 with fail
  rw [← HWB.out]
  go_wp2_with fail
  go_ret
  exact ⟨gq,rfl,.leaf d gq x v (HR.out.leaf (gq,x,v) (by simp)),HBW.out⟩
set_option maxRecDepth 100000 in
set_option maxHeartbeats 8000000 in
theorem trBelow_many (b off n cap d:Nat) (ps:List (Nat × Lf)) (w:World) (IH:∀ (ad:Option Addr) (b off n cap:Nat) (ps:List (Nat × Lf)) (w:World),KOk w → LvRow w b off ps → ps.length = n → n ≤ cap → (n = 0 ∨ ad = some ⟨b,off,none⟩) → n < 100000 → Fits (ps.map (·.2)) (d + 1) → Calls Tryz.prog 37 #[.slice ad n cap,.int .i64 ((d + 1:Nat):Int)] w fun e w' => ∃ g,e = .returned (.pointer (some ⟨g,0,none⟩)) ∧ TreeIs w' (d + 1) g (ps.map (·.2)) ∧ Below w.heap.size w w') (hK:KOk w) (hR:LvRow w b off ps) (hn:ps.length = n) (hcap:n ≤ cap) (h2:2 ≤ n) (hn2:n < 100000) (hF:Fits (ps.map (·.2)) d) :
    Calls Tryz.prog 37 #[.slice (some ⟨b,off,none⟩) n cap,.int .i64 (d:Int)] w fun e w' => ∃ g,e = .returned (.pointer (some ⟨g,0,none⟩)) ∧ TreeIs w' d g (ps.map (·.2)) ∧ Below w.heap.size w w':=by
  have hd:d < 256:=hF.lt (by rw [List.length_map];omega)
  have HFI:Hid (Fits (ps.map (·.2)) d):=hF
  have HN:Hid (ps.length = n):=hn
  have HIH:Aside _:=IH
  obtain ⟨gl,HGL⟩:∃ g,Hid (g = w.heap.size):=⟨_,rfl⟩
  obtain ⟨wB,HWB⟩:∃ z,Hid (z = (w.alloc (.cells #[.slice (some ⟨b,off,none⟩) n cap] 80)).alloc (.cells #[.int .i64 (d:Int)] 3)):=⟨_,rfl⟩
  have HBW:Hid (Below w.heap.size w wB):=by rw [HWB.out];exact ((Below.refl _ w).alloc (Nat.le_refl _) _).alloc (by simp) _
  have HK:Hid (KOk wB):=hK.below HBW.out hK.lt
  have HR:Hid (LvRow wB b off ps):=hR.next HBW.out
  have c2:wB.cell? ⟨gl,0,none⟩ = some (.slice (some ⟨b,off,none⟩) n cap):=by rw [HWB.out,HGL.out];simp
  have c3:wB.cell? ⟨gl + 1,0,none⟩ = some (.int .i64 (d:Int)):=by rw [HWB.out,HGL.out];simp
  have HC2:Hid (∀ wx,Over wB wx → wx.cell? ⟨gl,0,none⟩ = some (.slice (some ⟨b,off,none⟩) n cap)):=fun wx hx => (hx.out.cell (p:=⟨gl,0,none⟩) (block_lt_of_cell c2)).trans c2
  have HC3:Hid (∀ wx,Over wB wx → wx.cell? ⟨gl + 1,0,none⟩ = some (.int .i64 (d:Int))):=fun wx hx => (hx.out.cell (p:=⟨gl + 1,0,none⟩) (block_lt_of_cell c3)).trans c3
  have HSE:Hid (Calls Tryz.prog 60 #[.int .i64 (n:Int),.func (.func 61) #[] #[.pointer (some ⟨gl,0,none⟩),.pointer (some ⟨gl + 1,0,none⟩)]] wB fun e w' => ∃ k:Nat,e = .returned (.int .i64 (k:Int)) ∧ k ≤ n ∧ (k = 0 ∨ bt (ps.getD (k - 1) default).2.1 d = false) ∧ (k = n ∨ bt (ps.getD k default).2.1 d = true) ∧ Below wB.heap.size wB w'):=
    soSearch_any n 61 _ (fun i => bt (ps.getD i default).2.1 d) wB (enters_of Tryz.func61 (by kernel_rfl) rfl) (by omega) fun W i hW hi => trBelow1_any b off n cap i gl (gl + 1) d ps W (HR.out.next hW.out) HN.out hi hd (HC2.out W hW) (HC3.out W hW)
  have z0:¬ ((n:Int) = 0):=by omega
  have z0':((n:Int) == 0) = false:=by rw [beq_eq_false_iff_ne];omega
  have z1:¬ ((n:Int) = 1):=by omega
  have z1':((n:Int) == 1) = false:=by rw [beq_eq_false_iff_ne];omega
  clear hF hn IH hK hR
  go_enter Tryz.func37,Tryz.ntmps37
  go_upto_region 1 with fail
  rw [← HWB.out]
  have e0:(some ⟨w.heap.size,0,none⟩:Option Addr) = some ⟨gl,0,none⟩:=by rw [HGL.out]
  have e1:(some ⟨w.heap.size + 1,0,none⟩:Option Addr) = some ⟨gl + 1,0,none⟩:=by rw [HGL.out]
  simp only [e0,e1]
  clear e0 e1
  go_upto_region 7 with (go_at_call 60;refine HSE.out.mono ?_;rintro e w1 ⟨k,rfl,hkn,hk1,hk2,hb1⟩
                         have HO:Hid (Over wB w1):=hb1
                         have HK1:Hid (k = 0 ∨ bt (ps.getD (k - 1) default).2.1 d = false):=hk1
                         have HK2:Hid (k = n ∨ bt (ps.getD k default).2.1 d = true):=hk2
                         clear hb1 hk1 hk2 c2 c3 HSE)
  clear z0 z0' z1 z1'
  have HSP:Hid ((ps.take k).map (·.2) = halfL (ps.map (·.2)) d false ∧ (ps.drop k).map (·.2) = halfL (ps.map (·.2)) d true):=search_half HFI.out (by rw [HN.out];exact hkn) HK1.out (by rw [HN.out];exact HK2.out)
  have HO1:Hid (∀ wx,Over w1.drew wx → Over wB wx):=fun wx hx => (HO.out.more (Below.refl _ w1).drew).more hx.out
  have rd:IntKind.i64.wrap ((d:Int) + 1) = ((d + 1:Nat):Int):=by rw [IntKind.wrap_i64];omega
  obtain ⟨o2,HO2⟩:∃ o,Hid (o = if cap = k then off else off + k):=⟨_,rfl⟩
  have hsl:=slLo b off n cap k (by omega)
  have hsh:=slHi b off n cap k hkn
  rw [← HO2.out] at hsh
  obtain ⟨n2,HN2⟩:∃ x,Hid (x = n - k):=⟨_,rfl⟩
  obtain ⟨cap2,HCAP2⟩:∃ x,Hid (x = cap - k):=⟨_,rfl⟩
  rw [← HN2.out,← HCAP2.out] at hsh
  obtain ⟨d1,HD1⟩:∃ x,Hid (x = d + 1):=⟨_,rfl⟩
  rw [← HD1.out] at rd
  have HCA:Hid (∀ wx,Over w1.drew wx → Calls Tryz.prog 37 #[.slice (some ⟨b,off,none⟩) k cap,.int .i64 (d1:Int)] wx fun e w' => ∃ g,e = .returned (.pointer (some ⟨g,0,none⟩)) ∧ TreeIs w' (d + 1) g (halfL (ps.map (·.2)) d false) ∧ Below wx.heap.size wx w'):=fun wx hx => by
    have:=HIH.out (some ⟨b,off,none⟩) b off k cap (ps.take k) wx (HK.out.below (HO1.out wx hx).out HK.out.lt) (HR.out.next (HO1.out wx hx).out).take (by rw [List.length_take,HN.out];omega) (by omega) (Or.inr rfl) (by omega) (by rw [HSP.out.1];exact HFI.out.half _)
    rw [HSP.out.1] at this
    rw [HD1.out]
    exact this
  have HCB:Hid (∀ wx,Over w1.drew wx → Calls Tryz.prog 37 #[.slice (some ⟨b,o2,none⟩) n2 cap2,.int .i64 (d1:Int)] wx fun e w' => ∃ g,e = .returned (.pointer (some ⟨g,0,none⟩)) ∧ TreeIs w' (d + 1) g (halfL (ps.map (·.2)) d true) ∧ Below wx.heap.size wx w'):=fun wx hx => by
    have hrow:LvRow wx b o2 (ps.drop k):=by
      by_cases e:cap = k
      · have h0:ps.drop k = []:=List.drop_eq_nil_of_le (by rw [HN.out];omega)
        rw [h0]
        exact ⟨fun j hj => absurd hj (Nat.not_lt_zero _),fun q hq => by simp at hq⟩
      · rw [HO2.out,if_neg e]
        exact (HR.out.next (HO1.out wx hx).out).drop
    have:=HIH.out (some ⟨b,o2,none⟩) b o2 n2 cap2 (ps.drop k) wx (HK.out.below (HO1.out wx hx).out HK.out.lt) hrow (by rw [List.length_drop,HN.out,HN2.out]) (by rw [HN2.out,HCAP2.out];omega) (Or.inr rfl) (by rw [HN2.out];omega) (by rw [HSP.out.2];exact HFI.out.half _)
    rw [HSP.out.2] at this
    rw [HD1.out]
    exact this
  have k0:(0:Int) ≤ (k:Int):=by omega
  refine wp_region_held_drew (S:=Over w1.drew) (by kernel_rfl) (Over.refl _) ?_
  intro hS
  refine wpAnyH_take (i:=0) (v:=.slice (some ⟨b,off,none⟩) n cap) rfl (by kernel_rfl) (by kernel_rfl) (by kernel_rfl) (fun _ _ _ h => h) (Or.inl ⟨by rfl,fun wx hx => by (have hc:=HC2.out wx (HO1.out wx hx);simp [go_sem,hc])⟩) hS ?_
  simp only [Act.put,List.getElem_toArray,List.getElem_cons_zero,List.setIfInBounds_toArray,List.set_cons_zero,List.set_cons_succ]
  refine wpAnyH_take (i:=1) (v:=.int .i64 (k:Int)) rfl (by kernel_rfl) (by kernel_rfl) (by kernel_rfl) (fun _ _ _ h => h) (Or.inl ⟨by rfl,fun wx hx => by simp [go_sem]⟩) hS ?_
  simp only [Act.put,List.getElem_toArray,List.getElem_cons_succ,List.getElem_cons_zero,List.setIfInBounds_toArray,List.set_cons_zero,List.set_cons_succ]
  refine wpAnyH_take (i:=2) (v:=.slice (some ⟨b,off,none⟩) k cap) rfl (by kernel_rfl) (by kernel_rfl) (by kernel_rfl) (fun _ _ _ h => h) (Or.inl ⟨by rfl,fun wx hx => by simp [execOp,Act.eval,hsl]⟩) hS ?_
  simp only [Act.put,List.getElem_toArray,List.getElem_cons_succ,List.getElem_cons_zero,List.setIfInBounds_toArray,List.set_cons_zero,List.set_cons_succ]
  refine wpAnyH_take (i:=3) (v:=.int .i64 (d:Int)) rfl (by kernel_rfl) (by kernel_rfl) (by kernel_rfl) (fun _ _ _ h => h) (Or.inl ⟨by rfl,fun wx hx => by (have hc:=HC3.out wx (HO1.out wx hx);simp [go_sem,hc])⟩) hS ?_
  simp only [Act.put,List.getElem_toArray,List.getElem_cons_succ,List.getElem_cons_zero,List.setIfInBounds_toArray,List.set_cons_zero,List.set_cons_succ]
  refine wpAnyH_take (i:=4) (v:=.int .i64 (d1:Int)) rfl (by kernel_rfl) (by kernel_rfl) (by kernel_rfl) (fun _ _ _ h => h) (Or.inl ⟨by rfl,fun wx hx => by simp [go_sem,rd]⟩) hS ?_
  simp only [Act.put,List.getElem_toArray,List.getElem_cons_succ,List.getElem_cons_zero,List.setIfInBounds_toArray,List.set_cons_zero,List.set_cons_succ]
  refine wpAnyH_take (i:=6) (v:=.slice (some ⟨b,off,none⟩) n cap) rfl (by kernel_rfl) (by kernel_rfl) (by kernel_rfl) (fun _ _ _ h => h) (Or.inl ⟨by rfl,fun wx hx => by (have hc:=HC2.out wx (HO1.out wx hx);simp [go_sem,hc])⟩) hS ?_
  simp only [Act.put,List.getElem_toArray,List.getElem_cons_succ,List.getElem_cons_zero,List.setIfInBounds_toArray,List.set_cons_zero,List.set_cons_succ]
  refine wpAnyH_take (i:=7) (v:=.int .i64 (k:Int)) rfl (by kernel_rfl) (by kernel_rfl) (by kernel_rfl) (fun _ _ _ h => h) (Or.inl ⟨by rfl,fun wx hx => by simp [go_sem]⟩) hS ?_
  simp only [Act.put,List.getElem_toArray,List.getElem_cons_succ,List.getElem_cons_zero,List.setIfInBounds_toArray,List.set_cons_zero,List.set_cons_succ]
  refine wpAnyH_take (i:=8) (v:=.slice (some ⟨b,o2,none⟩) n2 cap2) rfl (by kernel_rfl) (by kernel_rfl) (by kernel_rfl) (fun _ _ _ h => h) (Or.inl ⟨by rfl,fun wx hx => by simp [execOp,Act.eval,hsh]⟩) hS ?_
  simp only [Act.put,List.getElem_toArray,List.getElem_cons_succ,List.getElem_cons_zero,List.setIfInBounds_toArray,List.set_cons_zero,List.set_cons_succ]
  refine wpAnyH_take (i:=9) (v:=.int .i64 (d:Int)) rfl (by kernel_rfl) (by kernel_rfl) (by kernel_rfl) (fun _ _ _ h => h) (Or.inl ⟨by rfl,fun wx hx => by (have hc:=HC3.out wx (HO1.out wx hx);simp [go_sem,hc])⟩) hS ?_
  simp only [Act.put,List.getElem_toArray,List.getElem_cons_succ,List.getElem_cons_zero,List.setIfInBounds_toArray,List.set_cons_zero,List.set_cons_succ]
  refine wpAnyH_take (i:=10) (v:=.int .i64 (d1:Int)) rfl (by kernel_rfl) (by kernel_rfl) (by kernel_rfl) (fun _ _ _ h => h) (Or.inl ⟨by rfl,fun wx hx => by simp [go_sem,rd]⟩) hS ?_
  simp only [Act.put,List.getElem_toArray,List.getElem_cons_succ,List.getElem_cons_zero,List.setIfInBounds_toArray,List.set_cons_zero,List.set_cons_succ]
  refine wpAnyH_enter 5 (by kernel_rfl) rfl (by rfl) (f:=37) (args:=#[.slice (some ⟨b,off,none⟩) k cap,.int .i64 (d1:Int)]) (by simp [go_sem]) (HCA.out _ hS) ?_
  rintro e wy ⟨g0,rfl,ht0,hbq⟩
  refine ⟨_,rfl,hS.more hbq,?_⟩
  replace hS:=hS.more hbq
  clear hbq
  simp only [Act.put,List.getElem_toArray,List.getElem_cons_succ,List.getElem_cons_zero,List.setIfInBounds_toArray,List.set_cons_zero,List.set_cons_succ]
  refine wpAnyH_enter 11 (by kernel_rfl) rfl (by rfl) (f:=37) (args:=#[.slice (some ⟨b,o2,none⟩) n2 cap2,.int .i64 (d1:Int)]) (by simp [go_sem]) (HCB.out _ hS) ?_
  rintro e wz ⟨g1,rfl,ht1,hbq⟩
  replace ht0:=ht0.next hbq
  refine ⟨_,rfl,hS.more hbq,?_⟩
  replace hS:=hS.more hbq
  clear hbq
  simp only [Act.put,List.getElem_toArray,List.getElem_cons_succ,List.getElem_cons_zero,List.setIfInBounds_toArray,List.set_cons_zero,List.set_cons_succ]
  obtain ⟨ix0,vl0,p0,q0,hc0⟩:=ht0.cells
  obtain ⟨ix1,vl1,p1,q1,hc1⟩:=ht1.cells
  have hlen:(halfL (ps.map (·.2)) d false).length + (halfL (ps.map (·.2)) d true).length = (ps.map (·.2)).length:=(half_len HFI.out).symm
  refine wpAnyH_enter 12 (by kernel_rfl) rfl (by rfl) (f:=63) (args:=#[.pointer (some ⟨g0,0,none⟩),.pointer (some ⟨g1,0,none⟩)]) (by simp [go_sem]) (trJoined_any g0 g1 _ _ _ _ _ _ _ _ _ _ _ _ wz (HK.out.below (HO1.out _ hS).out HK.out.lt) hc0 hc1 (by rw [hlen,List.length_map,HN.out];omega)) ?_
  rintro e wn ⟨g,rfl,hcg,hbq⟩
  replace ht0:=ht0.next hbq
  replace ht1:=ht1.next hbq
  refine ⟨_,rfl,hS.more hbq,?_⟩
  replace hS:=hS.more hbq
  clear hbq
  have HTR:Hid (TreeIs wn d g (ps.map (·.2))):=by
    rw [hlen] at hcg
    refine .node d g g0 g1 _ (by rw [List.length_map,HN.out];exact h2) HFI.out ht0 ht1 ?_
    rw [rootL_two HFI.out (by rw [List.length_map,HN.out];exact h2)]
    exact hcg
  clear ht0 ht1 hc0 hc1 hcg hlen
  simp only [Act.put,List.getElem_toArray,List.getElem_cons_succ,List.getElem_cons_zero,List.setIfInBounds_toArray,List.set_cons_zero,List.set_cons_succ]
  refine wpAnyH_take (i:=13) (v:=.pointer (some ⟨g,0,none⟩)) rfl (by kernel_rfl) (by kernel_rfl) (by kernel_rfl) (fun _ _ _ h => h) (Or.inl ⟨by rfl,fun wx hx => by simp [go_sem]⟩) hS ?_
  simp only [Act.put,List.getElem_toArray,List.getElem_cons_succ,List.getElem_cons_zero,List.setIfInBounds_toArray,List.set_cons_zero,List.set_cons_succ]
  refine wpAnyH_done (by kernel_rfl) ?_ _
  go_wp2_with fail
  go_ret
  exact ⟨g,rfl,HTR.out,((HO1.out _ hS).after HBW.out)⟩
theorem trBelow_any:∀ (f d:Nat) (ad:Option Addr) (b off n cap:Nat) (ps:List (Nat × Lf)) (w:World),256 ≤ d + f → KOk w → LvRow w b off ps → ps.length = n → n ≤ cap → (n = 0 ∨ ad = some ⟨b,off,none⟩) → n < 100000 → Fits (ps.map (·.2)) d → Calls Tryz.prog 37 #[.slice ad n cap,.int .i64 (d:Int)] w fun e w' => ∃ g,e = .returned (.pointer (some ⟨g,0,none⟩)) ∧ TreeIs w' d g (ps.map (·.2)) ∧ Below w.heap.size w w'
  | f,d,ad,b,off,n,cap,ps,w,hf,hK,hR,hn,hcap,had,hn2,hF => by
    match n,had with
    | 0,_ =>
      have:ps = []:=List.length_eq_zero_iff.1 hn
      subst this
      exact trBelow_nil ad cap d w hK
    | 1,had =>
      obtain ⟨q,hq⟩:∃ q,ps = [q]:=List.length_eq_one_iff.1 hn
      subst hq
      have e:ad = some ⟨b,off,none⟩:=by rcases had with h | h;cases h;exact h
      subst e
      exact trBelow_one b off cap d q w hR
    | n + 2,had =>
      have e:ad = some ⟨b,off,none⟩:=by rcases had with h | h;cases h;exact h
      subst e
      have hd:d < 256:=hF.lt (by rw [List.length_map];omega)
      match f with
      | 0 => omega
      | f + 1 => exact trBelow_many b off (n + 2) cap d ps w (fun ad b off n cap ps w h1 h2 h3 h4 h5 h6 h7 => trBelow_any f (d + 1) ad b off n cap ps w (by omega) h1 h2 h3 h4 h5 h6 h7) hK hR hn hcap (by omega) hn2 hF
end Go.Proofs.YtphmmnffgknkcaaGreatDoor
namespace Go.Proofs.YtphmmnffgknkcaaGreatDoor
open Go.Sort
set_option maxRecDepth 100000
variable {α:Type} [Inhabited α] {lt:α → α → Bool} {R:α → α → Prop}
def Ris (R:α → α → Prop) (a b:Nat) (d:Array α):Prop:=∀ i j,a ≤ i → i < j → j < b → R d[i]! d[j]!
structure Keep (lt:α → α → Bool) (R:α → α → Prop):Prop where
  tr:∀ x y z,R x y → R y z → R x z
  lr:∀ x y,lt x y = true → R x y
def Ahead (lt:α → α → Bool) (R:α → α → Prop) (a m b:Nat) (d:Array α):Prop:=∀ i j,a ≤ i → i < m → m ≤ j → j < b → lt d[j]! d[i]! = false → R d[i]! d[j]!
theorem Ahead.mono {a m b a' m' b':Nat} {d:Array α} (h:Ahead lt R a m b d) (h1:a ≤ a') (h2:m' ≤ m) (h3:m ≤ m') (h4:b' ≤ b):Ahead lt R a' m' b' d:=fun i j hi hi2 hj hj2 => h i j (by omega) (by omega) (by omega) (by omega)
theorem Ris.mono {a b a' b':Nat} {d:Array α} (h:Ris R a b d) (h1:a ≤ a') (h2:b' ≤ b):Ris R a' b' d:=fun i j hi hij hj => h i j (by omega) hij (by omega)
theorem Ris.glue {a q b:Nat} {d:Array α} (h1:Ris R a q d) (h2:Ris R q b d) (hc:∀ i j,a ≤ i → i < q → q ≤ j → j < b → R d[i]! d[j]!):Ris R a b d:=by
  intro i j hi hij hj
  by_cases hq:j < q
  · exact h1 i j hi hij hq
  · by_cases hq2:i < q
    · exact hc i j hi hq2 (by omega) hj
    · exact h2 i j (by omega) hij hj
theorem Ris.le (K:Keep lt R) {a b i j:Nat} {d:Array α} {y:α} (h:Ris R a b d) (hi:a ≤ i) (hij:i ≤ j) (hj:j < b) (hy:R d[j]! y):R d[i]! y:=by
  by_cases e:i = j
  · rw [e];exact hy
  · exact K.tr _ _ _ (h i j hi (by omega) hj) hy
theorem Ris.ge (K:Keep lt R) {a b i j:Nat} {d:Array α} {y:α} (h:Ris R a b d) (hi:a ≤ i) (hij:i ≤ j) (hj:j < b) (hy:R y d[i]!):R y d[j]!:=by
  by_cases e:i = j
  · rw [← e];exact hy
  · exact K.tr _ _ _ hy (h i j hi (by omega) hj)
structure Rot (s m e:Nat) (d d':Array α):Prop where
  le1:s ≤ m
  le2:m ≤ e
  hi:e ≤ d.size
  fst:∀ k,s ≤ k → k < s + (e - m) → d'[k]! = d[k + (m - s)]!
  snd:∀ k,s + (e - m) ≤ k → k < e → d'[k]! = d[k - (e - m)]!
  perm:PermIn s e d d'
theorem Rot.size {s m e:Nat} {d d':Array α} (h:Rot s m e d d'):d'.size = d.size:=h.perm.1
theorem Rot.out {s m e:Nat} {d d':Array α} (h:Rot s m e d d') (k:Nat) (hk:k < s ∨ e ≤ k):d'[k]! = d[k]!:=h.perm.2.1 k hk
theorem Rot.none {s m e:Nat} {d:Array α} (h1:s ≤ m) (h2:m ≤ e) (h3:e ≤ d.size) (h:s = m ∨ m = e):Rot s m e d d:=by
  refine ⟨h1,h2,h3,fun k hk hk2 => ?_,fun k hk hk2 => ?_,permIn_refl _ _ _⟩
  · congr 1;omega
  · congr 1;omega
structure Mid (lt:α → α → Bool) (R:α → α → Prop) (a s q e b:Nat) (d:Array α):Prop where
  r1:Ris R a s d
  r2:Ris R s q d
  r3:Ris R q e d
  r4:Ris R e b d
  a1:Ahead lt R a s q d
  a2:Ahead lt R q e b d
  cross:∀ i j,a ≤ i → i < q → q ≤ j → j < b → R d[i]! d[j]!
theorem rot_mid (K:Keep lt R) {a s m e b:Nat} {d d':Array α} (h1:Ris R a m d) (h2:Ris R m b d) (hx:Ahead lt R a m b d) (hr:Rot s m e d d') (has:a ≤ s) (heb:e ≤ b) (hlo:(s = a ∨ e = b) ∨ lt d[e]! d[s - 1]! = false) (hhi:(s = m ∨ e = m) ∨ lt d[e - 1]! d[s]! = true):Mid lt R a s (s + (e - m)) e b d':=by
  have l1:=hr.le1
  have l2:=hr.le2
  refine ⟨?_,?_,?_,?_,?_,?_,?_⟩
  · intro i j hi hij hj
    rw [hr.out i (by omega),hr.out j (by omega)]
    exact h1 i j hi hij (by omega)
  · intro i j hi hij hj
    rw [hr.fst i (by omega) (by omega),hr.fst j (by omega) (by omega)]
    exact h2 _ _ (by omega) (by omega) (by omega)
  · intro i j hi hij hj
    rw [hr.snd i (by omega) (by omega),hr.snd j (by omega) (by omega)]
    exact h1 _ _ (by omega) (by omega) (by omega)
  · intro i j hi hij hj
    rw [hr.out i (by omega),hr.out j (by omega)]
    exact h2 i j (by omega) hij hj
  · intro i j hi hi2 hj hj2
    rw [hr.out i (by omega),hr.fst j (by omega) (by omega)]
    exact hx _ _ hi (by omega) (by omega) (by omega)
  · intro i j hi hi2 hj hj2
    rw [hr.snd i (by omega) (by omega),hr.out j (by omega)]
    exact hx _ _ (by omega) (by omega) (by omega) (by omega)
  · intro i j hi hi2 hj hj2
    by_cases c1:i < s
    · rw [hr.out i (by omega)]
      by_cases c2:j < e
      · rw [hr.snd j (by omega) c2]
        exact h1 _ _ hi (by omega) (by omega)
      · rw [hr.out j (by omega)]
        rcases hlo with h | h
        · omega
        · have:=hx (s - 1) e (by omega) (by omega) (by omega) (by omega) h
          exact Ris.le K h1 hi (show i ≤ s - 1 by omega) (by omega) (Ris.ge K h2 (show m ≤ e by omega) (by omega) hj2 this)
    · rw [hr.fst i (by omega) (by omega)]
      by_cases c2:j < e
      · rw [hr.snd j (by omega) c2]
        rcases hhi with h | h
        · omega
        · have:=K.lr _ _ h
          exact Ris.le K h2 (by omega) (show i + (m - s) ≤ e - 1 by omega) (by omega) (Ris.ge K h1 (show a ≤ s by omega) (by omega) (by omega) this)
      · rw [hr.out j (by omega)]
        exact h2 _ _ (by omega) (by omega) hj2
def Merged (R:α → α → Prop) (a b:Nat) (d d':Array α):Prop:=PermIn a b d d' ∧ Ris R a b d'
theorem PermIn.wide {a b a' b':Nat} {d d':Array α} (h:PermIn a b d d') (h1:a' ≤ a) (h2:b ≤ b') (h3:b' ≤ d.size):PermIn a' b' d d':=permIn_mono d d' a b a' b' h1 h2 h3 h
theorem one_left (K:Keep lt R) {a m b i:Nat} {d d':Array α} (hm:m = a + 1) (h2:Ris R m b d) (hx:Ahead lt R a m b d) (hb:b ≤ d.size) (hi:i ≤ b) (hr:Rot a m i d d') (hlo:i = b ∨ lt d[i]! d[a]! = false) (hhi:i = m ∨ lt d[i - 1]! d[a]! = true):Merged R a b d d':=by
  subst hm
  have l2:=hr.le2
  have h1:Ris R a (a + 1) d:=fun i j h1 h2 h3 => by omega
  have hM:=rot_mid K h1 h2 hx hr (Nat.le_refl _) hi (Or.inl (Or.inl rfl)) (by rcases hhi with h | h;exact Or.inl (Or.inr h);exact Or.inr h)
  refine ⟨PermIn.wide hr.perm (Nat.le_refl _) hi hb,Ris.glue (q:=a + (i - (a + 1))) hM.r2 (Ris.glue (q:=i) hM.r3 hM.r4 ?_) hM.cross⟩
  intro k j hk hk2 hj hj2
  rw [hr.snd k hk hk2,hr.out j (by omega)]
  rcases hlo with h | h
  · omega
  · have e:k - (i - (a + 1)) = a:=by omega
    rw [e]
    exact Ris.ge K h2 (by omega) hj hj2 (hx a i (by omega) (by omega) (by omega) (by omega) h)
theorem one_right (K:Keep lt R) {a m b i:Nat} {d d':Array α} (hm:b = m + 1) (h1:Ris R a m d) (hx:Ahead lt R a m b d) (hb:b ≤ d.size) (hi:a ≤ i) (hr:Rot i m b d d') (hlo:i = a ∨ lt d[m]! d[i - 1]! = false) (hhi:i = m ∨ lt d[m]! d[i]! = true):Merged R a b d d':=by
  subst hm
  have l1:=hr.le1
  have h2:Ris R m (m + 1) d:=fun i j h1 h2 h3 => by omega
  have hM:=rot_mid K h1 h2 hx hr hi (Nat.le_refl _) (Or.inl (Or.inr rfl)) (by rcases hhi with h | h;exact Or.inl (Or.inl h);exact Or.inr h)
  refine ⟨PermIn.wide hr.perm hi (Nat.le_refl _) hb,Ris.glue (q:=i + (m + 1 - m)) (Ris.glue (q:=i) hM.r1 hM.r2 ?_) (Ris.glue (q:=m + 1) hM.r3 hM.r4 (fun _ _ _ _ h3 h4 => by omega)) hM.cross⟩
  intro k j hk hk2 hj hj2
  rw [hr.out k (by omega),hr.fst j (by omega) (by omega)]
  rcases hlo with h | h
  · omega
  · have e:j + (m - i) = m:=by omega
    rw [e]
    exact Ris.le K h1 hk (show k ≤ i - 1 by omega) (by omega) (hx (i - 1) m (by omega) (by omega) (by omega) (by omega) h)
theorem both {a mid b:Nat} {d d1 d2 d3:Array α} (h1:PermIn a b d d1) (hb:b ≤ d.size) (ham:a ≤ mid) (hmb:mid ≤ b) (hc:∀ i j,a ≤ i → i < mid → mid ≤ j → j < b → R d1[i]! d1[j]!) (m1:Merged R a mid d1 d2) (m2:Merged R mid b d2 d3):Merged R a b d d3:=by
  have s1:d1.size = d.size:=h1.1
  have s2:d2.size = d1.size:=m1.1.1
  have p1:PermIn a b d1 d2:=PermIn.wide m1.1 (Nat.le_refl _) hmb (by omega)
  have p2:PermIn a b d2 d3:=PermIn.wide m2.1 ham (Nat.le_refl _) (by omega)
  refine ⟨permIn_trans _ _ _ _ _ (permIn_trans _ _ _ _ _ h1 p1) p2,Ris.glue (q:=mid) ?_ m2.2 ?_⟩
  · intro i j hi hij hj
    rw [m2.1.2.1 i (by omega),m2.1.2.1 j (by omega)]
    exact m1.2 i j hi hij hj
  · intro i j hi hi2 hj hj2
    rw [m2.1.2.1 i (by omega)]
    have A:=permIn_all d1 d2 a mid (fun x => ∀ j,mid ≤ j → j < b → R x d1[j]!) (by omega) m1.1 (fun i hi hi2 j hj hj2 => hc i j hi hi2 hj hj2) i hi hi2
    have B:=permIn_all d2 d3 mid b (fun y => R d2[i]! y) (by omega) m2.1 (fun j hj hj2 => by rw [m1.1.2.1 j (by omega)];exact A j hj hj2) j hj hj2
    exact B
theorem Merged.none {a b:Nat} {d:Array α} (h:Ris R a b d):Merged R a b d d:=⟨permIn_refl _ _ _,h⟩
def Stood (lt:α → α → Bool) (R:α → α → Prop) (a b:Nat) (d:Array α):Prop:=∀ i j,a ≤ i → i < j → j < b → lt d[j]! d[i]! = false → R d[i]! d[j]!
def Cut (lt:α → α → Bool) (R:α → α → Prop) (c n:Nat) (d:Array α):Prop:=Ahead lt R 0 c n d
theorem Cut.perm {c n a b:Nat} {d d':Array α} (h:Cut lt R c n d) (hp:PermIn a b d d') (hb:b ≤ d.size) (hbn:b ≤ n) (hc:b ≤ c ∨ c ≤ a):Cut lt R c n d':=by
  intro i j hi hi2 hj hj2
  rcases hc with hc | hc
  · rw [hp.2.1 j (by omega)]
    by_cases c1:a ≤ i ∧ i < b
    · exact permIn_all d d' a b (fun x => lt d[j]! x = false → R x d[j]!) hb hp (fun k hk hk2 => h k j (by omega) (by omega) hj hj2) i c1.1 c1.2
    · rw [hp.2.1 i (by omega)]
      exact h i j hi hi2 hj hj2
  · rw [hp.2.1 i (by omega)]
    by_cases c1:a ≤ j ∧ j < b
    · exact permIn_all d d' a b (fun y => lt y d[i]! = false → R d[i]! y) hb hp (fun k hk hk2 => h i k (by omega) (by omega) (by omega) (by omega)) j c1.1 c1.2
    · rw [hp.2.1 j (by omega)]
      exact h i j hi hi2 hj hj2
theorem Ris.other {a b a' b':Nat} {d d':Array α} (h:Ris R a' b' d) (hp:PermIn a b d d') (hc:b' ≤ a ∨ b ≤ a'):Ris R a' b' d':=by
  intro i j hi hij hj
  rw [hp.2.1 i (by omega),hp.2.1 j (by omega)]
  exact h i j hi hij hj
end Go.Proofs.YtphmmnffgknkcaaGreatDoor
namespace Go.Proofs.YtphmmnffgknkcaaGreatDoor
open Go.Sort
set_option maxRecDepth 100000
variable {α:Type} [Inhabited α]
def swaps (a b:Nat):Nat → Array α → Array α
  | 0,d => d
  | k + 1,d => swp (swaps a b k d) (a + k) (b + k)
theorem size_swaps (a b k:Nat) (d:Array α):(swaps a b k d).size = d.size:=by
  induction k with
  | zero => rfl
  | succ k ih => rw [swaps,size_swp,ih]
theorem swaps_other (a b k:Nat) (d:Array α) (x:Nat) (h1:x < a ∨ a + k ≤ x) (h2:x < b ∨ b + k ≤ x):(swaps a b k d)[x]! = d[x]!:=by
  induction k with
  | zero => rfl
  | succ k ih => rw [swaps,swp_other _ _ _ _ (by omega) (by omega),ih (by omega) (by omega)]
theorem swaps_fst (a b k:Nat) (d:Array α) (hab:a + k ≤ b) (hb:b + k ≤ d.size) (x:Nat) (h1:a ≤ x) (h2:x < a + k):(swaps a b k d)[x]! = d[x + (b - a)]!:=by
  induction k with
  | zero => omega
  | succ k ih =>
    rw [swaps]
    by_cases e:x = a + k
    · rw [e,swp_left _ _ _ (by rw [size_swaps];omega) (by omega),swaps_other _ _ _ _ _ (by omega) (by omega)]
      congr 1;omega
    · rw [swp_other _ _ _ _ (by omega) (by omega)]
      exact ih (by omega) (by omega) (by omega)
theorem swaps_snd (a b k:Nat) (d:Array α) (hab:a + k ≤ b) (hb:b + k ≤ d.size) (x:Nat) (h1:b ≤ x) (h2:x < b + k):(swaps a b k d)[x]! = d[x - (b - a)]!:=by
  induction k with
  | zero => omega
  | succ k ih =>
    rw [swaps]
    by_cases e:x = b + k
    · rw [e,swp_right _ _ _ (by rw [size_swaps];omega),swaps_other _ _ _ _ _ (by omega) (by omega)]
      congr 1;omega
    · rw [swp_other _ _ _ _ (by omega) (by omega)]
      exact ih (by omega) (by omega) (by omega)
theorem swaps_perm (a b k lo hi:Nat) (d:Array α) (h1:lo ≤ a) (h2:a + k ≤ hi) (h3:lo ≤ b) (h4:b + k ≤ hi) (hh:hi ≤ d.size):PermIn lo hi d (swaps a b k d):=by
  induction k with
  | zero => exact permIn_refl _ _ _
  | succ k ih => exact permIn_trans _ _ _ _ _ (ih (by omega) (by omega)) (swp_permIn _ lo hi (a + k) (b + k) (by omega) (by omega) (by omega) (by omega) (by rw [size_swaps];exact hh))
theorem rot_left {m i j:Nat} {d d':Array α} (him:i ≤ m) (hji:j < i) (hs:m + j ≤ d.size) (h:Rot (m - (i - j)) m (m + j) (swaps (m - i) m j d) d'):Rot (m - i) m (m + j) d d':=by
  have h2:=h.perm
  refine ⟨by omega,by omega,hs,fun k hk hk2 => ?_,fun k hk hk2 => ?_,permIn_trans _ _ _ _ _ (swaps_perm _ _ _ (m - i) (m + j) d (by omega) (by omega) (by omega) (by omega) hs) (PermIn.wide h2 (by omega) (by omega) (by rw [size_swaps];exact hs))⟩
  · rw [h.out k (by omega),swaps_fst _ _ _ _ (by omega) hs k hk (by omega)]
  · by_cases c:k < m
    · by_cases c2:k < m - (i - j) + (m + j - m)
      · rw [h.fst k (by omega) c2,swaps_snd _ _ _ _ (by omega) hs _ (by omega) (by omega)]
        congr 1;omega
      · rw [h.snd k (by omega) (by omega),swaps_other _ _ _ _ _ (by omega) (by omega)]
    · by_cases c2:k < m - (i - j) + (m + j - m)
      · rw [h.fst k (by omega) c2,swaps_snd _ _ _ _ (by omega) hs _ (by omega) (by omega)]
        congr 1;omega
      · rw [h.snd k (by omega) (by omega),swaps_other _ _ _ _ _ (by omega) (by omega)]
theorem rot_right {m i j:Nat} {d d':Array α} (him:i ≤ m) (hij:i < j) (hs:m + j ≤ d.size) (h:Rot (m - i) m (m + (j - i)) (swaps (m - i) (m + j - i) i d) d'):Rot (m - i) m (m + j) d d':=by
  have h2:=h.perm
  refine ⟨by omega,by omega,hs,fun k hk hk2 => ?_,fun k hk hk2 => ?_,permIn_trans _ _ _ _ _ (swaps_perm _ _ _ (m - i) (m + j) d (by omega) (by omega) (by omega) (by omega) hs) (PermIn.wide h2 (by omega) (by omega) (by rw [size_swaps];exact hs))⟩
  · by_cases c2:k < m - i + (m + (j - i) - m)
    · rw [h.fst k (by omega) c2,swaps_other _ _ _ _ _ (by omega) (by omega)]
    · rw [h.snd k (by omega) (by omega),swaps_fst _ _ _ _ (by omega) (by omega) _ (by omega) (by omega)]
      congr 1;omega
  · rw [h.out k (by omega),swaps_snd _ _ _ _ (by omega) (by omega) k (by omega) (by omega)]
    congr 1;omega
theorem rot_even {m i:Nat} {d:Array α} (him:i ≤ m) (hs:m + i ≤ d.size):Rot (m - i) m (m + i) d (swaps (m - i) m i d):=by
  refine ⟨by omega,by omega,hs,fun k hk hk2 => ?_,fun k hk hk2 => ?_,swaps_perm _ _ _ (m - i) (m + i) d (by omega) (by omega) (by omega) (by omega) hs⟩
  · rw [swaps_fst _ _ _ _ (by omega) hs k hk (by omega)]
  · rw [swaps_snd _ _ _ _ (by omega) hs k (by omega) (by omega)]
    congr 1;omega
theorem rot_up {a k:Nat} {d d':Array α} (hs:a + 1 + k < d.size) (h:Rot a (a + 1) (a + 1 + k) d d'):Rot a (a + 1) (a + 1 + (k + 1)) d (swp d' (a + k) (a + k + 1)):=by
  have hz:=h.size
  refine ⟨by omega,by omega,by omega,fun x hx hx2 => ?_,fun x hx hx2 => ?_,?_⟩
  · by_cases e:x = a + k
    · rw [e,swp_left _ _ _ (by omega) (by omega),h.out _ (by omega)]
      congr 1;omega
    · rw [swp_other _ _ _ _ e (by omega),h.fst x hx (by omega)]
  · have e:x = a + k + 1:=by omega
    rw [e,swp_right _ _ _ (by omega),h.snd _ (by omega) (by omega)]
    congr 1;omega
  · exact permIn_trans _ _ _ _ _ (PermIn.wide h.perm (Nat.le_refl _) (by omega) (by omega)) (swp_permIn _ _ _ _ _ (by omega) (by omega) (by omega) (by omega) (by omega))
theorem rot_down {m k:Nat} {d d':Array α} (hk:k < m) (hs:m < d.size) (h:Rot (k + 1) m (m + 1) d d'):Rot k m (m + 1) d (swp d' (k + 1) k):=by
  have hz:=h.size
  refine ⟨by omega,by omega,by omega,fun x hx hx2 => ?_,fun x hx hx2 => ?_,?_⟩
  · have e:x = k:=by omega
    rw [e,swp_right _ _ _ (by omega),h.fst _ (by omega) (by omega)]
    congr 1;omega
  · by_cases e:x = k + 1
    · rw [e,swp_left _ _ _ (by omega) (by omega),h.out _ (by omega)]
      congr 1;omega
    · rw [swp_other _ _ _ _ e (by omega),h.snd x (by omega) hx2]
  · exact permIn_trans _ _ _ _ _ (PermIn.wide h.perm (by omega) (Nat.le_refl _) (by omega)) (swp_permIn _ _ _ _ _ (by omega) (by omega) (by omega) (by omega) (by omega))
end Go.Proofs.YtphmmnffgknkcaaGreatDoor
namespace Go.Proofs.YtphmmnffgknkcaaGreatDoor
open Go.Shelf Go.RowKit Go.Lib Go.Sort
set_option maxRecDepth 100000
variable {α:Type} [Inhabited α]
set_option maxHeartbeats 4000000 in
set_option maxRecDepth 1000000 in
theorem swapRange_any (enc:α → Value) (g:Nat) (cb:Array Value) (blk off L cap a b n:Nat) (d0 d:Array α) (w0 w:World) (R:Row1 enc w0 blk off d0) (hs:d0.size = d.size) (hL:d.size = L) (S:SW enc w0 blk off d w) (hab:a + n ≤ b) (hb:b + n ≤ d.size) (hsz:d.size < 4611686018427387904) :
    Calls Tryz.prog 122 #[.slice (some ⟨blk,off,none⟩) L cap,.int .i64 a,.int .i64 b,.int .i64 n,.func (.func g) #[] cb] w fun e w' => e = .returned (.tuple #[]) ∧ SW enc w0 blk off (swaps a b n d) w':=by
  have mixed:Tryz.prog.follows .mixedOrders = true:=by kernel_rfl
  have hcl0:=R.hO.cells
  simp only [Value.cells] at hcl0
  have hst:=R.hO.store Tryz.prog
  have S0:Aside (SW enc w0 blk off d w):=S
  clear S
  go_enter Tryz.func122,Tryz.ntmps122
  go_wp2
  go_loopg [10] n (fun kx s10 wr => ∃ (i:Nat) (dk:Array α),s10 = .int .i64 i ∧ i ≤ n ∧ n - i ≤ kx ∧ dk.size = d.size ∧ Aside (SW enc w0 blk off dk wr) ∧ Hid (dk = swaps a b i d))
  case atStart => exact ⟨0,d,rfl,by omega,by omega,rfl,S0,rfl⟩
  case round =>
    clear S0
    obtain ⟨i,dk,rfl,hin,hkx,hds,S1,HE⟩:=hrel
    by_cases hlt:i < n
    · have hltz:(i:Int) < (n:Int):=by omega
      go_wp2_with fail
      obtain ⟨iN,hiN⟩:∃ q,q = a + i:=⟨_,rfl⟩
      obtain ⟨jN,hjN⟩:∃ q,q = b + i:=⟨_,rfl⟩
      have ea:((a:Int) + (i:Int)).toNat = iN:=by omega
      have pa:(0:Int) ≤ (a:Int) + (i:Int):=by omega
      have ba:(a:Int) + (i:Int) < (L:Int):=by omega
      have ra:IntKind.i64.wrap ((a:Int) + (i:Int)) = (a:Int) + (i:Int):=by rw [IntKind.wrap_i64];omega
      have ec:((b:Int) + (i:Int)).toNat = jN:=by omega
      have pc:(0:Int) ≤ (b:Int) + (i:Int):=by omega
      have bc:(b:Int) + (i:Int) < (L:Int):=by omega
      have rc:IntKind.i64.wrap ((b:Int) + (i:Int)) = (b:Int) + (i:Int):=by rw [IntKind.wrap_i64];omega
      obtain ⟨x,hx⟩:∃ x,x = dk[a + i]!:=⟨_,rfl⟩
      obtain ⟨y,hy⟩:∃ x,x = dk[b + i]!:=⟨_,rfl⟩
      have S2:Aside (SW enc w0 blk off (swp dk (a + i) (b + i)) ((wr.setCell ⟨blk,off + iN,none⟩ (enc y)).setCell ⟨blk,off + jN,none⟩ (enc x)).drew):=by rw [hiN,hjN,hx,hy];exact S1.out.swapped R (a + i) (b + i) (by omega) (by omega)
      have ca:=S1.out.c1 R (by omega) (a + i) (by omega)
      have cc:=S1.out.c1 R (by omega) (b + i) (by omega)
      have fa:=S1.out.f1 R (by omega) (a + i) (by omega)
      have fb:=S1.out.f1 R (by omega) (b + i) (by omega)
      obtain ⟨u,cu⟩:=S1.out.c2 R (by omega) (a + i) (b + i) (by omega) (by omega) (enc y)
      rw [← hjN,← hiN] at cu
      rw [← hx,← hiN] at ca
      rw [← hy,← hjN] at cc
      rw [← hiN] at fa
      rw [← hjN] at fb
      clear S1 hx hy hiN hjN
      go_wp2_with fail
      go_big_region_o
      clear ca cc cu fa fb
      generalize ((wr.setCell ⟨blk,off + iN,none⟩ (enc y)).setCell ⟨blk,off + jN,none⟩ (enc x)).drew = w2 at S2 ⊢
      clear ea ec
      go_wp2
      go_roundg (n - (i + 1))
      case measure => omega
      case rel => exact ⟨i + 1,swp dk (a + i) (b + i),by go_num,by omega,Nat.le_refl _,by rw [size_swp];exact hds,S2,(show Hid _ from by show _ = _;rw [HE.out];rfl)⟩
    · have e:i = n:=by omega
      subst e
      have hltz:¬ (i:Int) < (i:Int):=by omega
      go_wp2
      go_end0
      exact ⟨rfl,by rw [← HE.out];exact S1.out⟩
set_option maxHeartbeats 4000000 in
set_option maxRecDepth 1000000 in
theorem rotate_any (enc:α → Value) (g:Nat) (cb:Array Value) (blk off L cap a m b:Nat) (d0 d:Array α) (w0 w:World) (R:Row1 enc w0 blk off d0) (hs:d0.size = d.size) (hL:d.size = L) (S:SW enc w0 blk off d w) (ham:a < m) (hmb:m < b) (hb:b ≤ d.size) (hsz:d.size < 4611686018427387904) :
    Calls Tryz.prog 119 #[.slice (some ⟨blk,off,none⟩) L cap,.int .i64 a,.int .i64 m,.int .i64 b,.func (.func g) #[] cb] w fun e w' => e = .returned (.tuple #[]) ∧ ∃ d',Rot a m b d d' ∧ SW enc w0 blk off d' w':=by
  have S0:Aside (SW enc w0 blk off d w):=S
  have HR:Hid (Row1 enc w0 blk off d0):=R
  have CS:Aside (∀ (a b n:Nat) (dk:Array α) (w:World),dk.size = L → SW enc w0 blk off dk w → a + n ≤ b → b + n ≤ L → Calls Tryz.prog 122 #[.slice (some ⟨blk,off,none⟩) L cap,.int .i64 a,.int .i64 b,.int .i64 n,.func (.func g) #[] cb] w fun e w' => e = .returned (.tuple #[]) ∧ SW enc w0 blk off (swaps a b n dk) w'):=fun a b n dk w h1 h2 h3 h4 => swapRange_any enc g cb blk off L cap a b n d0 dk w0 w R (by omega) h1 h2 h3 (by omega) (by omega)
  clear S R
  have r1:IntKind.i64.wrap ((m:Int) - (a:Int)) = (m:Int) - (a:Int):=by rw [IntKind.wrap_i64];omega
  have r2:IntKind.i64.wrap ((b:Int) - (m:Int)) = (b:Int) - (m:Int):=by rw [IntKind.wrap_i64];omega
  go_enter Tryz.func119,Tryz.ntmps119
  go_wp2
  clear r1 r2
  go_loopg [10,11] (b - a) (fun kx s10 s11 wr => ∃ (i j:Nat) (dk:Array α),s10 = .int .i64 i ∧ s11 = .int .i64 j ∧ 0 < i ∧ i ≤ m ∧ 0 < j ∧ m + j ≤ L ∧ i + j ≤ kx ∧ dk.size = d.size ∧ Aside (SW enc w0 blk off dk wr) ∧ Hid (∀ d',Rot (m - i) m (m + j) dk d' → Rot a m b d d'))
  case atStart =>
    refine ⟨m - a,b - m,d,by congr 1;omega,by congr 1;omega,by omega,by omega,by omega,by omega,by omega,rfl,S0,fun d' h => ?_⟩
    rw [show m - (m - a) = a by omega,show m + (b - m) = b by omega] at h
    exact h
  case round =>
    clear S0
    obtain ⟨i,j,dk,rfl,rfl,hi0,him,hj0,hjm,hkx,hds,S1,HE⟩:=hrel
    have rm:IntKind.i64.wrap ((m:Int) - (i:Int)) = ((m - i:Nat):Int):=by rw [IntKind.wrap_i64];omega
    by_cases hij:i = j
    · subst hij
      have HE':Hid (Rot a m b d (swaps (m - i) m i dk)):=HE.out _ (rot_even him (by omega))
      have hd:decide ((i:Int) ≠ (i:Int)) = false:=decide_eq_false fun h => h rfl
      go_wp2_with (go_at_call 122;refine (CS.out (m - i) m i dk _ (by omega) S1.out (by omega) (by omega)).mono ?_;rintro e w2 ⟨rfl,hS⟩)
      go_end0
      exact ⟨rfl,_,HE'.out,hS⟩
    · have hne:(i:Int) ≠ (j:Int):=by omega
      have hd:decide ((i:Int) ≠ (j:Int)) = true:=decide_eq_true hne
      by_cases hgt:j < i
      · have hg:decide ((i:Int) > (j:Int)) = true:=decide_eq_true (by omega)
        have hg':(j:Int) < (i:Int):=by omega
        have ri:IntKind.i64.wrap ((i:Int) - (j:Int)) = ((i - j:Nat):Int):=by rw [IntKind.wrap_i64];omega
        go_wp2_with (go_at_call 122;refine (CS.out (m - i) m j dk _ (by omega) S1.out (by omega) (by omega)).mono ?_;rintro e w2 ⟨rfl,hS⟩)
        go_roundg (i - j + j)
        case measure => omega
        case rel => exact ⟨i - j,j,swaps (m - i) m j dk,rfl,rfl,by omega,by omega,hj0,hjm,by omega,by rw [size_swaps];exact hds,hS,fun d' h => HE.out d' (rot_left him hgt (by omega) h)⟩
      · have hg:decide ((i:Int) > (j:Int)) = false:=decide_eq_false (by omega)
        have hg':¬ (j:Int) < (i:Int):=by omega
        have ri:IntKind.i64.wrap ((j:Int) - (i:Int)) = ((j - i:Nat):Int):=by rw [IntKind.wrap_i64];omega
        have r3:IntKind.i64.wrap ((m:Int) + (j:Int)) = (m:Int) + (j:Int):=by rw [IntKind.wrap_i64];omega
        have r4:IntKind.i64.wrap ((m:Int) + (j:Int) - (i:Int)) = ((m + j - i:Nat):Int):=by rw [IntKind.wrap_i64];omega
        go_wp2_with (go_at_call 122;refine (CS.out (m - i) (m + j - i) i dk _ (by omega) S1.out (by omega) (by omega)).mono ?_;rintro e w2 ⟨rfl,hS⟩)
        go_roundg (i + (j - i))
        case measure => omega
        case rel => exact ⟨i,j - i,swaps (m - i) (m + j - i) i dk,rfl,rfl,hi0,him,by omega,by omega,by omega,by rw [size_swaps];exact hds,hS,fun d' h => HE.out d' (rot_right him (by omega) (by omega) h)⟩
end Go.Proofs.YtphmmnffgknkcaaGreatDoor
namespace Go.Proofs.YtphmmnffgknkcaaGreatDoor
open Go.Shelf Go.RowKit Go.Lib Go.Sort
set_option maxRecDepth 100000
variable {α:Type} [Inhabited α]
set_option maxHeartbeats 8000000 in
set_option maxRecDepth 1000000 in
theorem symLeft_any (enc:α → Value) (cf:α → α → Int) (Rr:α → α → Prop) (K:Keep (ltOf cf) Rr) (g:Nat) (cb:Array Value) (eg:∀ args w,(callFunc g args).run Tryz.prog w = .ok (.enter g args) w) (blk off L cap a m b:Nat) (d0 d:Array α) (w0 w:World) (hcmp:CmpLays1 Tryz.prog g cb enc cf blk off d0.size w0) (R:Row1 enc w0 blk off d0) (hs:d0.size = d.size) (hL:d.size = L) (S:SW enc w0 blk off d w) (ham:m = a + 1) (hmb:m < b) (hb:b ≤ d.size) (hsz:d.size < 1000000000) (h2:Ris Rr m b d) (hx:Ahead (ltOf cf) Rr a m b d) :
    Calls Tryz.prog 111 #[.slice (some ⟨blk,off,none⟩) L cap,.int .i64 a,.int .i64 m,.int .i64 b,.func (.func g) #[] cb] w fun e w' => e = .returned (.tuple #[]) ∧ ∃ d',Merged Rr a b d d' ∧ SW enc w0 blk off d' w':=by
  have mixed:Tryz.prog.follows .mixedOrders = true:=by kernel_rfl
  have hcl0:=R.hO.cells
  simp only [Value.cells] at hcl0
  have hst:=R.hO.store Tryz.prog
  have HC:Aside _:=hcmp
  have HM:Hid (∀ i d',i ≤ b → Rot a m i d d' → (i = b ∨ ltOf cf d[i]! d[a]! = false) → (i = m ∨ ltOf cf d[i - 1]! d[a]! = true) → Merged Rr a b d d'):=fun i d' hi hr hlo hhi => one_left K ham h2 hx hb hi hr hlo hhi
  have HAM:Hid (m = a + 1):=ham
  have hm1:m ≤ a + 1:=Nat.le_of_eq ham
  have hm2:a + 1 ≤ m:=Nat.le_of_eq ham.symm
  clear h2 hx K hcmp ham
  have S0:Aside (SW enc w0 blk off d w):=S
  clear S
  have e0:IntKind.i64.wrap ((m:Int) - (a:Int)) = 1:=by rw [IntKind.wrap_i64];omega
  go_enter Tryz.func111,Tryz.ntmps111
  go_wp2
  clear e0
  go_loopg [10,11] (b - m) (fun kx s10 s11 wr => ∃ (i j:Nat),s10 = .int .i64 i ∧ s11 = .int .i64 j ∧ m ≤ i ∧ i ≤ j ∧ j ≤ b ∧ j - i ≤ kx ∧ Aside (SW enc w0 blk off d wr) ∧ Hid (i = m ∨ ltOf cf d[i - 1]! d[a]! = true) ∧ Hid (j = b ∨ ltOf cf d[j]! d[a]! = false))
  case atStart => exact ⟨m,b,rfl,rfl,by omega,by omega,by omega,by omega,S0,Or.inl rfl,Or.inl rfl⟩
  case round =>
    clear S0
    obtain ⟨i,j,rfl,rfl,hmi,hij,hjb,hkx,S1,H1,H2⟩:=hrel
    by_cases hlt:i < j
    · have hltz:(i:Int) < (j:Int):=by omega
      have rs:IntKind.i64.wrap ((i:Int) + (j:Int)) = (i:Int) + (j:Int):=by rw [IntKind.wrap_i64];omega
      go_wp2_with fail
      obtain ⟨h,hh1,hh2,eh⟩:∃ h:Nat,i ≤ h ∧ h < j ∧ ((i:Int) + (j:Int)) / 2 = (h:Int):=⟨(i + j) / 2,by omega,by omega,by omega⟩
      simp only [eh]
      clear eh rs
      cases hlv:ltOf cf d[h]! d[a]! with
      | true =>
        obtain ⟨iNp,hiNp⟩:∃ q,q = h:=⟨_,rfl⟩
        obtain ⟨jNp,hjNp⟩:∃ q,q = a:=⟨_,rfl⟩
        have eap:((h:Int)).toNat = iNp:=by omega
        have pap:(0:Int) ≤ (h:Int):=by omega
        have bap:(h:Int) < (L:Int):=by omega
        have rap:IntKind.i64.wrap ((h:Int)) = (h:Int):=by rw [IntKind.wrap_i64];omega
        have ecp:((a:Int)).toNat = jNp:=by omega
        have pcp:(0:Int) ≤ (a:Int):=by omega
        have bcp:(a:Int) < (L:Int):=by omega
        obtain ⟨xp,hxp⟩:∃ x,x = d[h]!:=⟨_,rfl⟩
        obtain ⟨yp,hyp⟩:∃ x,x = d[a]!:=⟨_,rfl⟩
        have lap:=S1.out.cl R (by omega) (h) (by omega)
        have lbp:=S1.out.cl R (by omega) (a) (by omega)
        rw [← hxp,← hiNp] at lap
        rw [← hyp,← hjNp] at lbp
        have hcp:=S1.out.cmp HC.out (by omega) xp yp
        have hvp:cf xp yp < 0:=by rw [hxp,hyp];exact of_decide_eq_true hlv
        have hdp:decide (cf xp yp < 0) = true:=decide_eq_true hvp
        clear hxp hyp hiNp hjNp
        go_quiet_grown (first | (go_at_fn g;refine Calls.grown_of (hcp _ _)))
        have S2:Aside (SW enc w0 blk off d (grow (wr.drewN nq) osq)):=S1.out.grown nq osq
        clear lap lbp hcp S1
        generalize grow (wr.drewN nq) osq = wp at S2 ⊢
        clear nq osq
        clear eap ecp
        go_wp2
        go_roundg (j - (h + 1))
        case measure => omega
        case rel => exact ⟨h + 1,j,by first | rfl | go_num,rfl,by omega,by omega,hjb,Nat.le_refl _,S2,Or.inr hlv,H2⟩
      | false =>
        obtain ⟨iNp,hiNp⟩:∃ q,q = h:=⟨_,rfl⟩
        obtain ⟨jNp,hjNp⟩:∃ q,q = a:=⟨_,rfl⟩
        have eap:((h:Int)).toNat = iNp:=by omega
        have pap:(0:Int) ≤ (h:Int):=by omega
        have bap:(h:Int) < (L:Int):=by omega
        have rap:IntKind.i64.wrap ((h:Int)) = (h:Int):=by rw [IntKind.wrap_i64];omega
        have ecp:((a:Int)).toNat = jNp:=by omega
        have pcp:(0:Int) ≤ (a:Int):=by omega
        have bcp:(a:Int) < (L:Int):=by omega
        obtain ⟨xp,hxp⟩:∃ x,x = d[h]!:=⟨_,rfl⟩
        obtain ⟨yp,hyp⟩:∃ x,x = d[a]!:=⟨_,rfl⟩
        have lap:=S1.out.cl R (by omega) (h) (by omega)
        have lbp:=S1.out.cl R (by omega) (a) (by omega)
        rw [← hxp,← hiNp] at lap
        rw [← hyp,← hjNp] at lbp
        have hcp:=S1.out.cmp HC.out (by omega) xp yp
        have hvp:¬ cf xp yp < 0:=by rw [hxp,hyp];exact of_decide_eq_false hlv
        have hdp:decide (cf xp yp < 0) = false:=decide_eq_false hvp
        clear hxp hyp hiNp hjNp
        go_quiet_grown (first | (go_at_fn g;refine Calls.grown_of (hcp _ _)))
        have S2:Aside (SW enc w0 blk off d (grow (wr.drewN nq) osq)):=S1.out.grown nq osq
        clear lap lbp hcp S1
        generalize grow (wr.drewN nq) osq = wp at S2 ⊢
        clear nq osq
        clear eap ecp
        go_wp2
        go_roundg (h - i)
        case measure => omega
        case rel => exact ⟨i,h,rfl,by first | rfl | go_num,hmi,by omega,by omega,Nat.le_refl _,S2,H1,Or.inr hlv⟩
    · have e:j = i:=by omega
      subst e
      have hltz:¬ (j:Int) < (j:Int):=by omega
      have HM2:Hid (∀ d',Rot a m j d d' → Merged Rr a b d d'):=fun d' h => HM.out j d' hjb h H2.out H1.out
      clear HM H1 H2 HC
      have r0:IntKind.i64.wrap ((j:Int) - 1) = (j:Int) - 1:=by rw [IntKind.wrap_i64];omega
      go_wp2
      go_loopg [13] (j - 1 - a) (fun kx s13 wr => ∃ (k:Nat) (dk:Array α),s13 = .int .i64 k ∧ a ≤ k ∧ k ≤ j - 1 ∧ j - 1 - k ≤ kx ∧ dk.size = d.size ∧ Aside (SW enc w0 blk off dk wr) ∧ Hid (Rot a (a + 1) (a + 1 + (k - a)) d dk))
      case atStart => exact ⟨a,d,rfl,Nat.le_refl _,by omega,Nat.le_refl _,rfl,S1,Rot.none (by omega) (by omega) (by omega) (Or.inr (by omega))⟩
      case round =>
        clear S1
        obtain ⟨k,dk,rfl,hak,hkj,hkx2,hds,S2,HE⟩:=hrel
        by_cases hk:k < j - 1
        · have hkz:(k:Int) < (j:Int) - 1:=by omega
          go_wp2_with fail
          obtain ⟨iNq,hiNq⟩:∃ q,q = k:=⟨_,rfl⟩
          obtain ⟨jNq,hjNq⟩:∃ q,q = k + 1:=⟨_,rfl⟩
          have eaq:((k:Int)).toNat = iNq:=by omega
          have paq:(0:Int) ≤ (k:Int):=by omega
          have baq:(k:Int) < (L:Int):=by omega
          have raq:IntKind.i64.wrap ((k:Int)) = (k:Int):=by rw [IntKind.wrap_i64];omega
          have ecq:((k:Int) + 1).toNat = jNq:=by omega
          have pcq:(0:Int) ≤ (k:Int) + 1:=by omega
          have bcq:(k:Int) + 1 < (L:Int):=by omega
          have rcq:IntKind.i64.wrap ((k:Int) + 1) = (k:Int) + 1:=by rw [IntKind.wrap_i64];omega
          obtain ⟨xq,hxq⟩:∃ x,x = dk[k]!:=⟨_,rfl⟩
          obtain ⟨yq,hyq⟩:∃ x,x = dk[k + 1]!:=⟨_,rfl⟩
          have S3:Aside (SW enc w0 blk off (swp dk (k) (k + 1)) ((wr.setCell ⟨blk,off + iNq,none⟩ (enc yq)).setCell ⟨blk,off + jNq,none⟩ (enc xq)).drew):=by rw [hiNq,hjNq,hxq,hyq];exact S2.out.swapped R (k) (k + 1) (by omega) (by omega)
          have caq:=S2.out.c1 R (by omega) (k) (by omega)
          have ccq:=S2.out.c1 R (by omega) (k + 1) (by omega)
          have faq:=S2.out.f1 R (by omega) (k) (by omega)
          have fbq:=S2.out.f1 R (by omega) (k + 1) (by omega)
          obtain ⟨uq,cuq⟩:=S2.out.c2 R (by omega) (k) (k + 1) (by omega) (by omega) (enc yq)
          rw [← hjNq,← hiNq] at cuq
          rw [← hxq,← hiNq] at caq
          rw [← hyq,← hjNq] at ccq
          rw [← hiNq] at faq
          rw [← hjNq] at fbq
          clear S2 hxq hyq hiNq hjNq
          go_wp2_with fail
          go_big_region_o
          clear caq ccq cuq faq fbq
          generalize ((wr.setCell ⟨blk,off + iNq,none⟩ (enc yq)).setCell ⟨blk,off + jNq,none⟩ (enc xq)).drew = wq at S3 ⊢
          clear eaq ecq
          go_wp2
          go_roundg (j - 1 - (k + 1))
          case measure => omega
          case rel =>
            refine ⟨k + 1,swp dk k (k + 1),by go_num,by omega,by omega,Nat.le_refl _,by rw [size_swp];exact hds,S3,?_⟩
            show Rot _ _ _ _ _
            have:=rot_up (by omega) HE.out
            rw [show a + (k - a) = k by omega] at this
            rw [show k + 1 - a = k - a + 1 by omega]
            exact this
        · have hkz:¬ (k:Int) < (j:Int) - 1:=by omega
          have ek:a + 1 + (k - a) = j:=by omega
          go_wp2
          (try simp only [Exit.inBlock,Exit.then]);refine bodyPost_ret (results_none rfl _ _ _) rfl ?_
          refine ⟨rfl,dk,HM2.out dk ?_,S2.out⟩
          have:=HE.out
          rw [ek] at this
          rw [HAM.out]
          exact this
end Go.Proofs.YtphmmnffgknkcaaGreatDoor
namespace Go.Proofs.YtphmmnffgknkcaaGreatDoor
open Go.Shelf Go.RowKit Go.Lib Go.Sort
set_option maxRecDepth 100000
variable {α:Type} [Inhabited α]
set_option maxHeartbeats 8000000 in
set_option maxRecDepth 1000000 in
theorem symRight_any (enc:α → Value) (cf:α → α → Int) (Rr:α → α → Prop) (K:Keep (ltOf cf) Rr) (g:Nat) (cb:Array Value) (eg:∀ args w,(callFunc g args).run Tryz.prog w = .ok (.enter g args) w) (blk off L cap a m b:Nat) (d0 d:Array α) (w0 w:World) (hcmp:CmpLays1 Tryz.prog g cb enc cf blk off d0.size w0) (R:Row1 enc w0 blk off d0) (hs:d0.size = d.size) (hL:d.size = L) (S:SW enc w0 blk off d w) (ham:a < m) (ham1:m ≠ a + 1) (hmb:b = m + 1) (hb:b ≤ d.size) (hsz:d.size < 1000000000) (h1:Ris Rr a m d) (hx:Ahead (ltOf cf) Rr a m b d) :
    Calls Tryz.prog 111 #[.slice (some ⟨blk,off,none⟩) L cap,.int .i64 a,.int .i64 m,.int .i64 b,.func (.func g) #[] cb] w fun e w' => e = .returned (.tuple #[]) ∧ ∃ d',Merged Rr a b d d' ∧ SW enc w0 blk off d' w':=by
  have mixed:Tryz.prog.follows .mixedOrders = true:=by kernel_rfl
  have hcl0:=R.hO.cells
  simp only [Value.cells] at hcl0
  have hst:=R.hO.store Tryz.prog
  have HC:Aside _:=hcmp
  have HM:Hid (∀ i d',a ≤ i → Rot i m b d d' → (i = a ∨ ltOf cf d[m]! d[i - 1]! = false) → (i = m ∨ ltOf cf d[m]! d[i]! = true) → Merged Rr a b d d'):=fun i d' hi hr hlo hhi => one_right K hmb h1 hx hb hi hr hlo hhi
  have HAM:Hid (b = m + 1):=hmb
  have hm1:b ≤ m + 1:=Nat.le_of_eq hmb
  have hm2:m + 1 ≤ b:=Nat.le_of_eq hmb.symm
  clear h1 hx K hcmp hmb
  have S0:Aside (SW enc w0 blk off d w):=S
  clear S
  have e0:IntKind.i64.wrap ((m:Int) - (a:Int)) = (m:Int) - (a:Int):=by rw [IntKind.wrap_i64];omega
  have e1:((m:Int) - (a:Int) == 1) = false:=by rw [beq_eq_false_iff_ne];omega
  have e1':¬ ((m:Int) - (a:Int) = 1):=by omega
  have e2:IntKind.i64.wrap ((b:Int) - (m:Int)) = 1:=by rw [IntKind.wrap_i64];omega
  go_enter Tryz.func111,Tryz.ntmps111
  go_wp2
  clear e0 e1 e2
  go_loopg [14,15] (m - a) (fun kx s10 s11 wr => ∃ (i j:Nat),s10 = .int .i64 i ∧ s11 = .int .i64 j ∧ a ≤ i ∧ i ≤ j ∧ j ≤ m ∧ j - i ≤ kx ∧ Aside (SW enc w0 blk off d wr) ∧ Hid (i = a ∨ ltOf cf d[m]! d[i - 1]! = false) ∧ Hid (j = m ∨ ltOf cf d[m]! d[j]! = true))
  case atStart => exact ⟨a,m,rfl,rfl,by omega,by omega,by omega,by omega,S0,Or.inl rfl,Or.inl rfl⟩
  case round =>
    clear S0
    obtain ⟨i,j,rfl,rfl,hmi,hij,hjb,hkx,S1,H1,H2⟩:=hrel
    by_cases hlt:i < j
    · have hltz:(i:Int) < (j:Int):=by omega
      have rs:IntKind.i64.wrap ((i:Int) + (j:Int)) = (i:Int) + (j:Int):=by rw [IntKind.wrap_i64];omega
      go_wp2_with fail
      obtain ⟨h,hh1,hh2,eh⟩:∃ h:Nat,i ≤ h ∧ h < j ∧ ((i:Int) + (j:Int)) / 2 = (h:Int):=⟨(i + j) / 2,by omega,by omega,by omega⟩
      simp only [eh]
      clear eh rs
      cases hlv:ltOf cf d[m]! d[h]! with
      | false =>
        obtain ⟨iNp,hiNp⟩:∃ q,q = m:=⟨_,rfl⟩
        obtain ⟨jNp,hjNp⟩:∃ q,q = h:=⟨_,rfl⟩
        have eap:((m:Int)).toNat = iNp:=by omega
        have pap:(0:Int) ≤ (m:Int):=by omega
        have bap:(m:Int) < (L:Int):=by omega
        have rap:IntKind.i64.wrap ((m:Int)) = (m:Int):=by rw [IntKind.wrap_i64];omega
        have ecp:((h:Int)).toNat = jNp:=by omega
        have pcp:(0:Int) ≤ (h:Int):=by omega
        have bcp:(h:Int) < (L:Int):=by omega
        obtain ⟨xp,hxp⟩:∃ x,x = d[m]!:=⟨_,rfl⟩
        obtain ⟨yp,hyp⟩:∃ x,x = d[h]!:=⟨_,rfl⟩
        have lap:=S1.out.cl R (by omega) (m) (by omega)
        have lbp:=S1.out.cl R (by omega) (h) (by omega)
        rw [← hxp,← hiNp] at lap
        rw [← hyp,← hjNp] at lbp
        have hcp:=S1.out.cmp HC.out (by omega) xp yp
        have hvp:¬ cf xp yp < 0:=by rw [hxp,hyp];exact of_decide_eq_false hlv
        have hdp:decide (cf xp yp < 0) = false:=decide_eq_false hvp
        clear hxp hyp hiNp hjNp
        go_quiet_grown (first | (go_at_fn g;refine Calls.grown_of (hcp _ _)))
        have S2:Aside (SW enc w0 blk off d (grow (wr.drewN nq) osq)):=S1.out.grown nq osq
        clear lap lbp hcp S1
        generalize grow (wr.drewN nq) osq = wp at S2 ⊢
        clear nq osq
        clear eap ecp
        go_wp2
        go_roundg (j - (h + 1))
        case measure => omega
        case rel => exact ⟨h + 1,j,by first | rfl | go_num,rfl,by omega,by omega,hjb,Nat.le_refl _,S2,Or.inr hlv,H2⟩
      | true =>
        obtain ⟨iNp,hiNp⟩:∃ q,q = m:=⟨_,rfl⟩
        obtain ⟨jNp,hjNp⟩:∃ q,q = h:=⟨_,rfl⟩
        have eap:((m:Int)).toNat = iNp:=by omega
        have pap:(0:Int) ≤ (m:Int):=by omega
        have bap:(m:Int) < (L:Int):=by omega
        have rap:IntKind.i64.wrap ((m:Int)) = (m:Int):=by rw [IntKind.wrap_i64];omega
        have ecp:((h:Int)).toNat = jNp:=by omega
        have pcp:(0:Int) ≤ (h:Int):=by omega
        have bcp:(h:Int) < (L:Int):=by omega
        obtain ⟨xp,hxp⟩:∃ x,x = d[m]!:=⟨_,rfl⟩
        obtain ⟨yp,hyp⟩:∃ x,x = d[h]!:=⟨_,rfl⟩
        have lap:=S1.out.cl R (by omega) (m) (by omega)
        have lbp:=S1.out.cl R (by omega) (h) (by omega)
        rw [← hxp,← hiNp] at lap
        rw [← hyp,← hjNp] at lbp
        have hcp:=S1.out.cmp HC.out (by omega) xp yp
        have hvp:cf xp yp < 0:=by rw [hxp,hyp];exact of_decide_eq_true hlv
        have hdp:decide (cf xp yp < 0) = true:=decide_eq_true hvp
        clear hxp hyp hiNp hjNp
        go_quiet_grown (first | (go_at_fn g;refine Calls.grown_of (hcp _ _)))
        have S2:Aside (SW enc w0 blk off d (grow (wr.drewN nq) osq)):=S1.out.grown nq osq
        clear lap lbp hcp S1
        generalize grow (wr.drewN nq) osq = wp at S2 ⊢
        clear nq osq
        clear eap ecp
        go_wp2
        go_roundg (h - i)
        case measure => omega
        case rel => exact ⟨i,h,rfl,by first | rfl | go_num,hmi,by omega,by omega,Nat.le_refl _,S2,H1,Or.inr hlv⟩
    · have e:j = i:=by omega
      subst e
      have hltz:¬ (j:Int) < (j:Int):=by omega
      have HM2:Hid (∀ d',Rot j m b d d' → Merged Rr a b d d'):=fun d' h => HM.out j d' hmi h H1.out H2.out
      clear HM H1 H2 HC
      go_wp2
      go_loopg [17] (m - j) (fun kx s13 wr => ∃ (k:Nat) (dk:Array α),s13 = .int .i64 k ∧ j ≤ k ∧ k ≤ m ∧ k - j ≤ kx ∧ dk.size = d.size ∧ Aside (SW enc w0 blk off dk wr) ∧ Hid (Rot k m (m + 1) d dk))
      case atStart => exact ⟨m,d,rfl,by omega,by omega,Nat.le_refl _,rfl,S1,Rot.none (by omega) (by omega) (by omega) (Or.inl rfl)⟩
      case round =>
        clear S1
        obtain ⟨k,dk,rfl,hak,hkj,hkx2,hds,S2,HE⟩:=hrel
        by_cases hk:j < k
        · have hkz:(j:Int) < (k:Int):=by omega
          obtain ⟨kp,rfl⟩:∃ q,k = q + 1:=⟨k - 1,by omega⟩
          have hkz2:(j:Int) < (kp:Int) + 1:=by omega
          have rk:IntKind.i64.wrap ((kp:Int) + 1 - 1) = (kp:Int):=by rw [IntKind.wrap_i64];omega
          go_wp2_with fail
          obtain ⟨iNq,hiNq⟩:∃ q,q = kp + 1:=⟨_,rfl⟩
          obtain ⟨jNq,hjNq⟩:∃ q,q = kp:=⟨_,rfl⟩
          have eaq:((kp:Int) + 1).toNat = iNq:=by omega
          have paq:(0:Int) ≤ (kp:Int) + 1:=by omega
          have baq:(kp:Int) + 1 < (L:Int):=by omega
          have raq:IntKind.i64.wrap ((kp:Int) + 1) = (kp:Int) + 1:=by rw [IntKind.wrap_i64];omega
          have ecq:((kp:Int)).toNat = jNq:=by omega
          have pcq:(0:Int) ≤ (kp:Int):=by omega
          have bcq:(kp:Int) < (L:Int):=by omega
          have rcq:IntKind.i64.wrap ((kp:Int)) = (kp:Int):=by rw [IntKind.wrap_i64];omega
          obtain ⟨xq,hxq⟩:∃ x,x = dk[kp + 1]!:=⟨_,rfl⟩
          obtain ⟨yq,hyq⟩:∃ x,x = dk[kp]!:=⟨_,rfl⟩
          have S3:Aside (SW enc w0 blk off (swp dk (kp + 1) (kp)) ((wr.setCell ⟨blk,off + iNq,none⟩ (enc yq)).setCell ⟨blk,off + jNq,none⟩ (enc xq)).drew):=by rw [hiNq,hjNq,hxq,hyq];exact S2.out.swapped R (kp + 1) (kp) (by omega) (by omega)
          have caq:=S2.out.c1 R (by omega) (kp + 1) (by omega)
          have ccq:=S2.out.c1 R (by omega) (kp) (by omega)
          have faq:=S2.out.f1 R (by omega) (kp + 1) (by omega)
          have fbq:=S2.out.f1 R (by omega) (kp) (by omega)
          obtain ⟨uq,cuq⟩:=S2.out.c2 R (by omega) (kp + 1) (kp) (by omega) (by omega) (enc yq)
          rw [← hiNq,← hjNq] at cuq
          rw [← hxq,← hiNq] at caq
          rw [← hyq,← hjNq] at ccq
          rw [← hiNq] at faq
          rw [← hjNq] at fbq
          clear S2 hxq hyq hiNq hjNq
          go_wp2_with fail
          go_big_region_o
          clear caq ccq cuq faq fbq
          generalize ((wr.setCell ⟨blk,off + iNq,none⟩ (enc yq)).setCell ⟨blk,off + jNq,none⟩ (enc xq)).drew = wq at S3 ⊢
          clear eaq ecq
          go_wp2
          go_roundg (kp - j)
          case measure => omega
          case rel => exact ⟨kp,swp dk (kp + 1) kp,by first | rfl | go_num,by omega,by omega,Nat.le_refl _,by rw [size_swp];exact hds,S3,rot_down (by omega) (by omega) HE.out⟩
        · have hkz:¬ (j:Int) < (k:Int):=by omega
          have ek:k = j:=by omega
          go_wp2
          (try simp only [Exit.inBlock,Exit.then]);refine bodyPost_ret (results_none rfl _ _ _) rfl ?_
          refine ⟨rfl,dk,HM2.out dk ?_,S2.out⟩
          have:=HE.out
          rw [ek,← HAM.out] at this
          exact this
end Go.Proofs.YtphmmnffgknkcaaGreatDoor
namespace Go.Proofs.YtphmmnffgknkcaaGreatDoor
open Go.Sort
set_option maxRecDepth 100000
variable {α:Type} [Inhabited α] {lt:α → α → Bool} {R:α → α → Prop}
theorem mid_left {a s mid e b:Nat} {d:Array α} (M:Mid lt R a s mid e b d) (h1:a ≤ s) (h2:s ≤ mid) (h:¬ (a < s ∧ s < mid)):Ris R a mid d:=by
  by_cases e1:s = a
  · subst e1;exact M.r2
  · have e2:s = mid:=by omega
    subst e2;exact M.r1
theorem mid_right {a s mid e b:Nat} {d d2:Array α} (M:Mid lt R a s mid e b d) (h1:mid ≤ e) (h2:e ≤ b) (hp:PermIn a mid d d2) (h:¬ (mid < e ∧ e < b)):Ris R mid b d2:=by
  refine Ris.other ?_ hp (Or.inr (Nat.le_refl _))
  by_cases e1:e = mid
  · subst e1;exact M.r4
  · have e2:e = b:=by omega
    subst e2;exact M.r3
theorem mid_ahead {a s mid e b:Nat} {d d2:Array α} (M:Mid lt R a s mid e b d) (h1:mid ≤ e) (hp:PermIn a mid d d2):Ris R mid e d2 ∧ Ris R e b d2 ∧ Ahead lt R mid e b d2:=by
  refine ⟨M.r3.other hp (Or.inr (Nat.le_refl _)),M.r4.other hp (Or.inr h1),fun i j hi hi2 hj hj2 => ?_⟩
  rw [hp.2.1 i (by omega),hp.2.1 j (by omega)]
  exact M.a2 i j hi hi2 hj hj2
theorem mid_of (K:Keep lt R) {a m b s e mid n p lo hi:Nat} {d d1:Array α} (h1:Ris R a m d) (h2:Ris R m b d) (hx:Ahead lt R a m b d) (hr:Rot s m e d d1) (hn:n = mid + m) (hp:p + 1 = n) (he:e = n - s) (hm:2 * mid ≤ a + b ∧ a + b ≤ 2 * mid + 1) (ham:a < m) (hmb:m < b) (hlh:(mid < m ∧ lo = n - b ∧ hi = mid) ∨ (m ≤ mid ∧ lo = a ∧ hi = m)) (hs1:lo ≤ s) (hs2:s ≤ hi) (i1:s = lo ∨ lt d[p - (s - 1)]! d[s - 1]! = false) (i2:s = hi ∨ lt d[p - s]! d[s]! = true):Mid lt R a s mid e b d1:=by
  have:=rot_mid (s:=s) (e:=e) K h1 h2 hx hr (by omega) (by omega) ?_ ?_
  · rw [show s + (e - m) = mid by omega] at this
    exact this
  · rcases i1 with h | h
    · exact Or.inl (by omega)
    · by_cases c:s = lo
      · exact Or.inl (by omega)
      · rw [show p - (s - 1) = e by omega] at h
        exact Or.inr h
  · rcases i2 with h | h
    · exact Or.inl (by omega)
    · by_cases c:s = hi
      · exact Or.inl (by omega)
      · rw [show p - s = e - 1 by omega] at h
        exact Or.inr h
end Go.Proofs.YtphmmnffgknkcaaGreatDoor
namespace Go.Proofs.YtphmmnffgknkcaaGreatDoor
open Go.Shelf Go.RowKit Go.Lib Go.Sort
set_option maxRecDepth 100000
variable {α:Type} [Inhabited α]
set_option maxHeartbeats 8000000 in
set_option maxRecDepth 1000000 in
theorem symMidA_any (enc:α → Value) (cf:α → α → Int) (Rr:α → α → Prop) (K:Keep (ltOf cf) Rr) (g:Nat) (cb:Array Value) (eg:∀ args w,(callFunc g args).run Tryz.prog w = .ok (.enter g args) w) (blk off L cap a m b:Nat) (d0 d:Array α) (w0 w:World) (hcmp:CmpLays1 Tryz.prog g cb enc cf blk off d0.size w0) (R:Row1 enc w0 blk off d0) (hs:d0.size = d.size) (hL:d.size = L) (S:SW enc w0 blk off d w) (NN:Nat) (hNN:b - a ≤ NN) (IH:(∀ (a m b:Nat) (d:Array α) (w:World),b - a < NN → d0.size = d.size → SW enc w0 blk off d w → a < m → m < b → b ≤ d.size → Ris Rr a m d → Ris Rr m b d → Ahead (ltOf cf) Rr a m b d → Calls Tryz.prog 111 #[.slice (some ⟨blk,off,none⟩) L cap,.int .i64 a,.int .i64 m,.int .i64 b,.func (.func g) #[] cb] w fun e w' => e = .returned (.tuple #[]) ∧ ∃ d',Merged Rr a b d d' ∧ SW enc w0 blk off d' w')) (ham:a < m) (ham1:m ≠ a + 1) (hmb:m < b) (hmb1:b ≠ m + 1) (mid:Nat) (hmid:2 * mid ≤ a + b ∧ a + b ≤ 2 * mid + 1) (hcase:mid < m) (hb:b ≤ d.size) (hsz:d.size < 1000000000) (h1:Ris Rr a m d) (h2:Ris Rr m b d) (hx:Ahead (ltOf cf) Rr a m b d) :
    Calls Tryz.prog 111 #[.slice (some ⟨blk,off,none⟩) L cap,.int .i64 a,.int .i64 m,.int .i64 b,.func (.func g) #[] cb] w fun e w' => e = .returned (.tuple #[]) ∧ ∃ d',Merged Rr a b d d' ∧ SW enc w0 blk off d' w':=by
  have mixed:Tryz.prog.follows .mixedOrders = true:=by kernel_rfl
  have hcl0:=R.hO.cells
  simp only [Value.cells] at hcl0
  have hst:=R.hO.store Tryz.prog
  have HC:Aside _:=hcmp
  obtain ⟨n,hn⟩:∃ n,n = mid + m:=⟨_,rfl⟩
  obtain ⟨p,hp⟩:∃ p,p + 1 = n:=⟨n - 1,by omega⟩
  obtain ⟨lo,hlo⟩:∃ x,x = n - b:=⟨_,rfl⟩
  obtain ⟨hi,hhi⟩:∃ x,x = mid:=⟨_,rfl⟩
  have HLO:Hid (lo = n - b):=hlo
  have HHI:Hid (hi = mid):=hhi
  have HMo:Hid (∀ s e d1,Rot s m e d d1 → e = n - s → lo ≤ s → s ≤ hi → (s = lo ∨ ltOf cf d[p - (s - 1)]! d[s - 1]! = false) → (s = hi ∨ ltOf cf d[p - s]! d[s]! = true) → Mid (ltOf cf) Rr a s mid e b d1):=fun s e d1 hr he hs1 hs2 i1 i2 => mid_of K h1 h2 hx hr hn hp he hmid ham hmb (Or.inl ⟨hcase,HLO.out,HHI.out⟩) hs1 hs2 i1 i2
  have HIH:Aside _:=IH
  have CR:Aside (∀ (s e:Nat) (w:World),SW enc w0 blk off d w → s < m → m < e → e ≤ d.size → Calls Tryz.prog 119 #[.slice (some ⟨blk,off,none⟩) L cap,.int .i64 s,.int .i64 m,.int .i64 e,.func (.func g) #[] cb] w fun e' w' => e' = .returned (.tuple #[]) ∧ ∃ d',Rot s m e d d' ∧ SW enc w0 blk off d' w'):=fun s e w h1 h2 h3 h4 => rotate_any enc g cb blk off L cap s m e d0 d w0 w R hs hL h1 h2 h3 h4 (by omega)
  clear IH h1 h2 hx K hcmp
  have n1:n ≤ mid + m:=Nat.le_of_eq hn
  have n2:mid + m ≤ n:=Nat.le_of_eq hn.symm
  have p1:p + 1 ≤ n:=Nat.le_of_eq hp
  have p2:n ≤ p + 1:=Nat.le_of_eq hp.symm
  have lo1:lo ≤ n - b:=Nat.le_of_eq hlo
  have lo2:n - b ≤ lo:=Nat.le_of_eq hlo.symm
  have hi1:hi ≤ mid:=Nat.le_of_eq hhi
  have hi2:mid ≤ hi:=Nat.le_of_eq hhi.symm
  have S0:Aside (SW enc w0 blk off d w):=S
  clear S hn hp hlo hhi
  have e0:IntKind.i64.wrap ((m:Int) - (a:Int)) = (m:Int) - (a:Int):=by rw [IntKind.wrap_i64];omega
  have e1:((m:Int) - (a:Int) == 1) = false:=by rw [beq_eq_false_iff_ne];omega
  have e1':¬ ((m:Int) - (a:Int) = 1):=by omega
  have e2:IntKind.i64.wrap ((b:Int) - (m:Int)) = (b:Int) - (m:Int):=by rw [IntKind.wrap_i64];omega
  have e3:((b:Int) - (m:Int) == 1) = false:=by rw [beq_eq_false_iff_ne];omega
  have e3':¬ ((b:Int) - (m:Int) = 1):=by omega
  have rs:IntKind.i64.wrap ((a:Int) + (b:Int)) = (a:Int) + (b:Int):=by rw [IntKind.wrap_i64];omega
  go_enter Tryz.func111,Tryz.ntmps111
  go_upto_region 25 with (fail)
  clear e0 e1 e1' e2 e3 e3' rs
  have em:((a:Int) + (b:Int)) / 2 = (mid:Int):=by omega
  simp only [em]
  clear em
  have rn:IntKind.i64.wrap ((mid:Int) + (m:Int)) = (n:Int):=by rw [IntKind.wrap_i64];omega
  have rp:IntKind.i64.wrap ((n:Int) - 1) = (p:Int):=by rw [IntKind.wrap_i64];omega
  have rl:IntKind.i64.wrap ((n:Int) - (b:Int)) = (lo:Int):=by rw [IntKind.wrap_i64];omega
  have gt:decide ((m:Int) > (mid:Int)) = true:=decide_eq_true (by omega)
  have gt2:(mid:Int) < (m:Int):=by omega
  go_wp2
  clear rn rp gt gt2
  go_loopg [20,21] (b - a) (fun kx s20 s21 wr => ∃ (i j:Nat),s20 = .int .i64 i ∧ s21 = .int .i64 j ∧ lo ≤ i ∧ i ≤ j ∧ j ≤ hi ∧ j - i ≤ kx ∧ Aside (SW enc w0 blk off d wr) ∧ Hid (i = lo ∨ ltOf cf d[p - (i - 1)]! d[i - 1]! = false) ∧ Hid (j = hi ∨ ltOf cf d[p - j]! d[j]! = true))
  case atStart => exact ⟨lo,hi,by first | rfl | (congr 1;omega),by first | rfl | (congr 1;omega),by omega,by omega,by omega,by omega,S0,Or.inl rfl,Or.inl rfl⟩
  case round =>
    clear S0
    obtain ⟨i,j,rfl,rfl,hmi,hij,hjb,hkx,S1,H1,H2⟩:=hrel
    by_cases hlt:i < j
    · have hltz:(i:Int) < (j:Int):=by omega
      have rs:IntKind.i64.wrap ((i:Int) + (j:Int)) = (i:Int) + (j:Int):=by rw [IntKind.wrap_i64];omega
      go_wp2_with fail
      obtain ⟨h,hh1,hh2,eh⟩:∃ h:Nat,i ≤ h ∧ h < j ∧ ((i:Int) + (j:Int)) / 2 = (h:Int):=⟨(i + j) / 2,by omega,by omega,by omega⟩
      simp only [eh]
      clear eh rs
      obtain ⟨qn,hq⟩:∃ q,q = p - h:=⟨_,rfl⟩
      have HQ:Hid (qn = p - h):=hq
      have q1:qn ≤ p - h:=Nat.le_of_eq hq
      have q2:p - h ≤ qn:=Nat.le_of_eq hq.symm
      clear hq
      have rq:IntKind.i64.wrap ((p:Int) - (h:Int)) = (qn:Int):=by rw [IntKind.wrap_i64];omega
      cases hlv:ltOf cf d[qn]! d[h]! with
      | false =>
        obtain ⟨iNp,hiNp⟩:∃ q,q = qn:=⟨_,rfl⟩
        obtain ⟨jNp,hjNp⟩:∃ q,q = h:=⟨_,rfl⟩
        have eap:((qn:Int)).toNat = iNp:=by omega
        have pap:(0:Int) ≤ (qn:Int):=by omega
        have bap:(qn:Int) < (L:Int):=by omega
        have rap:IntKind.i64.wrap ((qn:Int)) = (qn:Int):=by rw [IntKind.wrap_i64];omega
        have ecp:((h:Int)).toNat = jNp:=by omega
        have pcp:(0:Int) ≤ (h:Int):=by omega
        have bcp:(h:Int) < (L:Int):=by omega
        obtain ⟨xp,hxp⟩:∃ x,x = d[qn]!:=⟨_,rfl⟩
        obtain ⟨yp,hyp⟩:∃ x,x = d[h]!:=⟨_,rfl⟩
        have lap:=S1.out.cl R (by omega) (qn) (by omega)
        have lbp:=S1.out.cl R (by omega) (h) (by omega)
        rw [← hxp,← hiNp] at lap
        rw [← hyp,← hjNp] at lbp
        have hcp:=S1.out.cmp HC.out (by omega) xp yp
        have hvp:¬ cf xp yp < 0:=by rw [hxp,hyp];exact of_decide_eq_false hlv
        have hdp:decide (cf xp yp < 0) = false:=decide_eq_false hvp
        clear hxp hyp hiNp hjNp
        go_quiet_grown (first | (go_at_fn g;refine Calls.grown_of (hcp _ _)))
        have S2:Aside (SW enc w0 blk off d (grow (wr.drewN nq) osq)):=S1.out.grown nq osq
        clear lap lbp hcp S1
        generalize grow (wr.drewN nq) osq = wp at S2 ⊢
        clear nq osq
        clear eap ecp
        go_wp2
        go_roundg (j - (h + 1))
        case measure => omega
        case rel => exact ⟨h + 1,j,by first | rfl | go_num,rfl,by omega,by omega,hjb,Nat.le_refl _,S2,Or.inr (by rw [HQ.out] at hlv;exact hlv),H2⟩
      | true =>
        obtain ⟨iNp,hiNp⟩:∃ q,q = qn:=⟨_,rfl⟩
        obtain ⟨jNp,hjNp⟩:∃ q,q = h:=⟨_,rfl⟩
        have eap:((qn:Int)).toNat = iNp:=by omega
        have pap:(0:Int) ≤ (qn:Int):=by omega
        have bap:(qn:Int) < (L:Int):=by omega
        have rap:IntKind.i64.wrap ((qn:Int)) = (qn:Int):=by rw [IntKind.wrap_i64];omega
        have ecp:((h:Int)).toNat = jNp:=by omega
        have pcp:(0:Int) ≤ (h:Int):=by omega
        have bcp:(h:Int) < (L:Int):=by omega
        obtain ⟨xp,hxp⟩:∃ x,x = d[qn]!:=⟨_,rfl⟩
        obtain ⟨yp,hyp⟩:∃ x,x = d[h]!:=⟨_,rfl⟩
        have lap:=S1.out.cl R (by omega) (qn) (by omega)
        have lbp:=S1.out.cl R (by omega) (h) (by omega)
        rw [← hxp,← hiNp] at lap
        rw [← hyp,← hjNp] at lbp
        have hcp:=S1.out.cmp HC.out (by omega) xp yp
        have hvp:cf xp yp < 0:=by rw [hxp,hyp];exact of_decide_eq_true hlv
        have hdp:decide (cf xp yp < 0) = true:=decide_eq_true hvp
        clear hxp hyp hiNp hjNp
        go_quiet_grown (first | (go_at_fn g;refine Calls.grown_of (hcp _ _)))
        have S2:Aside (SW enc w0 blk off d (grow (wr.drewN nq) osq)):=S1.out.grown nq osq
        clear lap lbp hcp S1
        generalize grow (wr.drewN nq) osq = wp at S2 ⊢
        clear nq osq
        clear eap ecp
        go_wp2
        go_roundg (h - i)
        case measure => omega
        case rel => exact ⟨i,h,rfl,by first | rfl | go_num,hmi,by omega,by omega,Nat.le_refl _,S2,H1,Or.inr (by rw [HQ.out] at hlv;exact hlv)⟩
    · have e:j = i:=by omega
      subst e
      have hltz:¬ (j:Int) < (j:Int):=by omega
      clear HC hcl0 hst mixed
      obtain ⟨ee,hee⟩:∃ x,x = n - j:=⟨_,rfl⟩
      have HM2:Hid (∀ d1,Rot j m ee d d1 → Mid (ltOf cf) Rr a j mid ee b d1):=fun d1 hr => HMo.out j ee d1 hr hee hmi hjb H1.out H2.out
      clear HMo H1 H2
      have re:IntKind.i64.wrap ((n:Int) - (j:Int)) = (ee:Int):=by rw [IntKind.wrap_i64];omega
      have ee1:ee ≤ n - j:=Nat.le_of_eq hee
      have ee2:n - j ≤ ee:=Nat.le_of_eq hee.symm
      clear hee
      have hje:j ≤ m:=by omega
      have hme:m ≤ ee:=by omega
      have heb:ee ≤ b:=by omega
      have haj:a ≤ j:=by omega
      have hjm:j ≤ mid:=by omega
      have hmide:mid ≤ ee:=by omega
      have hmidb:mid < b:=by omega
      have hamid:a < mid:=by omega
      clear lo1 lo2 hi1 hi2 hmi hjb HLO HHI n1 n2 p1 p2 ee1 ee2
      go_upto_region 39 with (fail)
      obtain ⟨c39,hc39⟩:∃ c:Bool,Hid (c = (decide (j < m) && decide (m < ee))):=⟨_,rfl⟩
      go_cut [185] from 178 to 185 (fun b W => b = .bool c39 ∧ W = wr)
      case first =>
        by_cases k1:j < m
        · have k1z:((j:Nat):Int) < ((m:Nat):Int):=by omega
          by_cases k2:m < ee
          · have k2z:((m:Nat):Int) < ((ee:Nat):Int):=by omega
            go_wp2_with fail
            go_meet
            case rel => exact ⟨by rw [hc39.out,decide_eq_true k1,decide_eq_true k2];rfl,rfl⟩
          · have k2z:¬ ((m:Nat):Int) < ((ee:Nat):Int):=by omega
            go_wp2_with fail
            go_meet
            case rel => exact ⟨by rw [hc39.out,decide_eq_true k1,decide_eq_false k2];rfl,rfl⟩
        · have k1z:¬ ((j:Nat):Int) < ((m:Nat):Int):=by omega
          go_wp2_with fail
          go_meet
          case rel => exact ⟨by rw [hc39.out,decide_eq_false k1];rfl,rfl⟩
      case rest =>
        obtain ⟨rfl,rfl⟩:=hcut
        go_upto_if 185 with (fail)
        go_cut [191] from 185 to 191 (fun _ W => ∃ d1:Array α,Hid (Rot j m ee d d1) ∧ Aside (SW enc w0 blk off d1 W))
        case first =>
          cases hcc:c39 with
          | true =>
            have k:=hc39.out.symm.trans hcc
            rw [Bool.and_eq_true] at k
            have k1:=of_decide_eq_true k.1
            have k2:=of_decide_eq_true k.2
            clear k
            go_wp2_with (go_at_call 119;refine (CR.out j ee _ S1.out k1 k2 (by omega)).mono ?_;rintro e w2 ⟨rfl,d1,hrot,hS1⟩)
            go_meet
            case rel => exact ⟨d1,hrot,hS1⟩
          | false =>
            have k:¬ (j < m ∧ m < ee):=fun h => by
              have:=hc39.out.symm.trans hcc
              rw [decide_eq_true h.1,decide_eq_true h.2] at this
              cases this
            go_wp2_with fail
            go_meet
            case rel => exact ⟨d,Rot.none hje hme (by omega) (by omega),S1⟩
        case rest =>
          clear hc39
          obtain ⟨d1,HRO,S2⟩:=hcut
          have HMM:Hid (Mid (ltOf cf) Rr a j mid ee b d1):=HM2.out d1 HRO.out
          have hz1:d1.size = d.size:=HRO.out.size
          clear CR HM2 S1
          go_upto_region 41 with (fail)
          obtain ⟨c41,hc41⟩:∃ c:Bool,Hid (c = (decide (a < j) && decide (j < mid))):=⟨_,rfl⟩
          go_cut [199] from 192 to 199 (fun b W => b = .bool c41 ∧ W = wc)
          case first =>
            by_cases k1:a < j
            · have k1z:((a:Nat):Int) < ((j:Nat):Int):=by omega
              by_cases k2:j < mid
              · have k2z:((j:Nat):Int) < ((mid:Nat):Int):=by omega
                go_wp2_with fail
                go_meet
                case rel => exact ⟨by rw [hc41.out,decide_eq_true k1,decide_eq_true k2];rfl,rfl⟩
              · have k2z:¬ ((j:Nat):Int) < ((mid:Nat):Int):=by omega
                go_wp2_with fail
                go_meet
                case rel => exact ⟨by rw [hc41.out,decide_eq_true k1,decide_eq_false k2];rfl,rfl⟩
            · have k1z:¬ ((a:Nat):Int) < ((j:Nat):Int):=by omega
              go_wp2_with fail
              go_meet
              case rel => exact ⟨by rw [hc41.out,decide_eq_false k1];rfl,rfl⟩
          case rest =>
            obtain ⟨rfl,rfl⟩:=hcut
            go_upto_if 199 with (fail)
            go_cut [205] from 199 to 205 (fun _ W => ∃ d2:Array α,Hid (Merged Rr a mid d1 d2) ∧ Aside (SW enc w0 blk off d2 W))
            case first =>
              cases hcc:c41 with
              | true =>
                have k:=hc41.out.symm.trans hcc
                rw [Bool.and_eq_true] at k
                have k1:=of_decide_eq_true k.1
                have k2:=of_decide_eq_true k.2
                clear k
                go_wp2_with (go_at_call 111;refine (HIH.out a j mid d1 _ (by omega) (by omega) S2.out k1 k2 (by omega) HMM.out.r1 HMM.out.r2 HMM.out.a1).mono ?_;rintro e w2 ⟨rfl,d2,hmg,hS1⟩)
                go_meet
                case rel => exact ⟨d2,hmg,hS1⟩
              | false =>
                have k:¬ (a < j ∧ j < mid):=fun h => by
                  have:=hc41.out.symm.trans hcc
                  rw [decide_eq_true h.1,decide_eq_true h.2] at this
                  cases this
                go_wp2_with fail
                go_meet
                case rel => exact ⟨d1,Merged.none (mid_left HMM.out haj hjm k),S2⟩
            case rest =>
              clear hc41
              obtain ⟨d2,HG1,S3⟩:=hcut
              have hz2:d2.size = d1.size:=HG1.out.1.1
              clear S2
              go_upto_region 43 with (fail)
              obtain ⟨c43,hc43⟩:∃ c:Bool,Hid (c = (decide (mid < ee) && decide (ee < b))):=⟨_,rfl⟩
              go_cut [213] from 206 to 213 (fun b W => b = .bool c43 ∧ W = wc)
              case first =>
                by_cases k1:mid < ee
                · have k1z:((mid:Nat):Int) < ((ee:Nat):Int):=by omega
                  by_cases k2:ee < b
                  · have k2z:((ee:Nat):Int) < ((b:Nat):Int):=by omega
                    go_wp2_with fail
                    go_meet
                    case rel => exact ⟨by rw [hc43.out,decide_eq_true k1,decide_eq_true k2];rfl,rfl⟩
                  · have k2z:¬ ((ee:Nat):Int) < ((b:Nat):Int):=by omega
                    go_wp2_with fail
                    go_meet
                    case rel => exact ⟨by rw [hc43.out,decide_eq_true k1,decide_eq_false k2];rfl,rfl⟩
                · have k1z:¬ ((mid:Nat):Int) < ((ee:Nat):Int):=by omega
                  go_wp2_with fail
                  go_meet
                  case rel => exact ⟨by rw [hc43.out,decide_eq_false k1];rfl,rfl⟩
              case rest =>
                obtain ⟨rfl,rfl⟩:=hcut
                go_upto_if 213 with (fail)
                cases hcc:c43 with
                | true =>
                  have k:=hc43.out.symm.trans hcc
                  rw [Bool.and_eq_true] at k
                  have k1:=of_decide_eq_true k.1
                  have k2:=of_decide_eq_true k.2
                  clear k
                  go_wp2_with (go_at_call 111;refine (HIH.out mid ee b d2 _ (by omega) (by omega) S3.out k1 k2 (by omega) (mid_ahead HMM.out hmide HG1.out.1).1 (mid_ahead HMM.out hmide HG1.out.1).2.1 (mid_ahead HMM.out hmide HG1.out.1).2.2).mono ?_;rintro e w2 ⟨rfl,d3,hmg,hS1⟩)
                  go_end0
                  exact ⟨rfl,d3,both (PermIn.wide HRO.out.perm haj heb hb) hb (Nat.le_of_lt hamid) (Nat.le_of_lt hmidb) HMM.out.cross HG1.out hmg,hS1⟩
                | false =>
                  have k:¬ (mid < ee ∧ ee < b):=fun h => by
                    have:=hc43.out.symm.trans hcc
                    rw [decide_eq_true h.1,decide_eq_true h.2] at this
                    cases this
                  go_wp2_with fail
                  go_end0
                  exact ⟨rfl,d2,both (PermIn.wide HRO.out.perm haj heb hb) hb (Nat.le_of_lt hamid) (Nat.le_of_lt hmidb) HMM.out.cross HG1.out (Merged.none (mid_right HMM.out hmide heb HG1.out.1 k)),S3.out⟩
end Go.Proofs.YtphmmnffgknkcaaGreatDoor
namespace Go.Proofs.YtphmmnffgknkcaaGreatDoor
open Go.Shelf Go.RowKit Go.Lib Go.Sort
set_option maxRecDepth 100000
variable {α:Type} [Inhabited α]
set_option maxHeartbeats 8000000 in
set_option maxRecDepth 1000000 in
theorem symMidB_any (enc:α → Value) (cf:α → α → Int) (Rr:α → α → Prop) (K:Keep (ltOf cf) Rr) (g:Nat) (cb:Array Value) (eg:∀ args w,(callFunc g args).run Tryz.prog w = .ok (.enter g args) w) (blk off L cap a m b:Nat) (d0 d:Array α) (w0 w:World) (hcmp:CmpLays1 Tryz.prog g cb enc cf blk off d0.size w0) (R:Row1 enc w0 blk off d0) (hs:d0.size = d.size) (hL:d.size = L) (S:SW enc w0 blk off d w) (NN:Nat) (hNN:b - a ≤ NN) (IH:(∀ (a m b:Nat) (d:Array α) (w:World),b - a < NN → d0.size = d.size → SW enc w0 blk off d w → a < m → m < b → b ≤ d.size → Ris Rr a m d → Ris Rr m b d → Ahead (ltOf cf) Rr a m b d → Calls Tryz.prog 111 #[.slice (some ⟨blk,off,none⟩) L cap,.int .i64 a,.int .i64 m,.int .i64 b,.func (.func g) #[] cb] w fun e w' => e = .returned (.tuple #[]) ∧ ∃ d',Merged Rr a b d d' ∧ SW enc w0 blk off d' w')) (ham:a < m) (ham1:m ≠ a + 1) (hmb:m < b) (hmb1:b ≠ m + 1) (mid:Nat) (hmid:2 * mid ≤ a + b ∧ a + b ≤ 2 * mid + 1) (hcase:m ≤ mid) (hb:b ≤ d.size) (hsz:d.size < 1000000000) (h1:Ris Rr a m d) (h2:Ris Rr m b d) (hx:Ahead (ltOf cf) Rr a m b d) :
    Calls Tryz.prog 111 #[.slice (some ⟨blk,off,none⟩) L cap,.int .i64 a,.int .i64 m,.int .i64 b,.func (.func g) #[] cb] w fun e w' => e = .returned (.tuple #[]) ∧ ∃ d',Merged Rr a b d d' ∧ SW enc w0 blk off d' w':=by
  have mixed:Tryz.prog.follows .mixedOrders = true:=by kernel_rfl
  have hcl0:=R.hO.cells
  simp only [Value.cells] at hcl0
  have hst:=R.hO.store Tryz.prog
  have HC:Aside _:=hcmp
  obtain ⟨n,hn⟩:∃ n,n = mid + m:=⟨_,rfl⟩
  obtain ⟨p,hp⟩:∃ p,p + 1 = n:=⟨n - 1,by omega⟩
  obtain ⟨lo,hlo⟩:∃ x,x = a:=⟨_,rfl⟩
  obtain ⟨hi,hhi⟩:∃ x,x = m:=⟨_,rfl⟩
  have HLO:Hid (lo = a):=hlo
  have HHI:Hid (hi = m):=hhi
  have HMo:Hid (∀ s e d1,Rot s m e d d1 → e = n - s → lo ≤ s → s ≤ hi → (s = lo ∨ ltOf cf d[p - (s - 1)]! d[s - 1]! = false) → (s = hi ∨ ltOf cf d[p - s]! d[s]! = true) → Mid (ltOf cf) Rr a s mid e b d1):=fun s e d1 hr he hs1 hs2 i1 i2 => mid_of K h1 h2 hx hr hn hp he hmid ham hmb (Or.inr ⟨hcase,HLO.out,HHI.out⟩) hs1 hs2 i1 i2
  have HIH:Aside _:=IH
  have CR:Aside (∀ (s e:Nat) (w:World),SW enc w0 blk off d w → s < m → m < e → e ≤ d.size → Calls Tryz.prog 119 #[.slice (some ⟨blk,off,none⟩) L cap,.int .i64 s,.int .i64 m,.int .i64 e,.func (.func g) #[] cb] w fun e' w' => e' = .returned (.tuple #[]) ∧ ∃ d',Rot s m e d d' ∧ SW enc w0 blk off d' w'):=fun s e w h1 h2 h3 h4 => rotate_any enc g cb blk off L cap s m e d0 d w0 w R hs hL h1 h2 h3 h4 (by omega)
  clear IH h1 h2 hx K hcmp
  have n1:n ≤ mid + m:=Nat.le_of_eq hn
  have n2:mid + m ≤ n:=Nat.le_of_eq hn.symm
  have p1:p + 1 ≤ n:=Nat.le_of_eq hp
  have p2:n ≤ p + 1:=Nat.le_of_eq hp.symm
  have lo1:lo ≤ a:=Nat.le_of_eq hlo
  have lo2:a ≤ lo:=Nat.le_of_eq hlo.symm
  have hi1:hi ≤ m:=Nat.le_of_eq hhi
  have hi2:m ≤ hi:=Nat.le_of_eq hhi.symm
  have S0:Aside (SW enc w0 blk off d w):=S
  clear S hn hp hlo hhi
  have e0:IntKind.i64.wrap ((m:Int) - (a:Int)) = (m:Int) - (a:Int):=by rw [IntKind.wrap_i64];omega
  have e1:((m:Int) - (a:Int) == 1) = false:=by rw [beq_eq_false_iff_ne];omega
  have e1':¬ ((m:Int) - (a:Int) = 1):=by omega
  have e2:IntKind.i64.wrap ((b:Int) - (m:Int)) = (b:Int) - (m:Int):=by rw [IntKind.wrap_i64];omega
  have e3:((b:Int) - (m:Int) == 1) = false:=by rw [beq_eq_false_iff_ne];omega
  have e3':¬ ((b:Int) - (m:Int) = 1):=by omega
  have rs:IntKind.i64.wrap ((a:Int) + (b:Int)) = (a:Int) + (b:Int):=by rw [IntKind.wrap_i64];omega
  go_enter Tryz.func111,Tryz.ntmps111
  go_upto_region 25 with (fail)
  clear e0 e1 e1' e2 e3 e3' rs
  have em:((a:Int) + (b:Int)) / 2 = (mid:Int):=by omega
  simp only [em]
  clear em
  have rn:IntKind.i64.wrap ((mid:Int) + (m:Int)) = (n:Int):=by rw [IntKind.wrap_i64];omega
  have rp:IntKind.i64.wrap ((n:Int) - 1) = (p:Int):=by rw [IntKind.wrap_i64];omega
  have gt:decide ((m:Int) > (mid:Int)) = false:=decide_eq_false (by omega)
  have gt2:¬ (mid:Int) < (m:Int):=by omega
  go_wp2
  clear rn rp gt gt2
  go_loopg [20,21] (b - a) (fun kx s20 s21 wr => ∃ (i j:Nat),s20 = .int .i64 i ∧ s21 = .int .i64 j ∧ lo ≤ i ∧ i ≤ j ∧ j ≤ hi ∧ j - i ≤ kx ∧ Aside (SW enc w0 blk off d wr) ∧ Hid (i = lo ∨ ltOf cf d[p - (i - 1)]! d[i - 1]! = false) ∧ Hid (j = hi ∨ ltOf cf d[p - j]! d[j]! = true))
  case atStart => exact ⟨lo,hi,by first | rfl | (congr 1;omega),by first | rfl | (congr 1;omega),by omega,by omega,by omega,by omega,S0,Or.inl rfl,Or.inl rfl⟩
  case round =>
    clear S0
    obtain ⟨i,j,rfl,rfl,hmi,hij,hjb,hkx,S1,H1,H2⟩:=hrel
    by_cases hlt:i < j
    · have hltz:(i:Int) < (j:Int):=by omega
      have rs:IntKind.i64.wrap ((i:Int) + (j:Int)) = (i:Int) + (j:Int):=by rw [IntKind.wrap_i64];omega
      go_wp2_with fail
      obtain ⟨h,hh1,hh2,eh⟩:∃ h:Nat,i ≤ h ∧ h < j ∧ ((i:Int) + (j:Int)) / 2 = (h:Int):=⟨(i + j) / 2,by omega,by omega,by omega⟩
      simp only [eh]
      clear eh rs
      obtain ⟨qn,hq⟩:∃ q,q = p - h:=⟨_,rfl⟩
      have HQ:Hid (qn = p - h):=hq
      have q1:qn ≤ p - h:=Nat.le_of_eq hq
      have q2:p - h ≤ qn:=Nat.le_of_eq hq.symm
      clear hq
      have rq:IntKind.i64.wrap ((p:Int) - (h:Int)) = (qn:Int):=by rw [IntKind.wrap_i64];omega
      cases hlv:ltOf cf d[qn]! d[h]! with
      | false =>
        obtain ⟨iNp,hiNp⟩:∃ q,q = qn:=⟨_,rfl⟩
        obtain ⟨jNp,hjNp⟩:∃ q,q = h:=⟨_,rfl⟩
        have eap:((qn:Int)).toNat = iNp:=by omega
        have pap:(0:Int) ≤ (qn:Int):=by omega
        have bap:(qn:Int) < (L:Int):=by omega
        have rap:IntKind.i64.wrap ((qn:Int)) = (qn:Int):=by rw [IntKind.wrap_i64];omega
        have ecp:((h:Int)).toNat = jNp:=by omega
        have pcp:(0:Int) ≤ (h:Int):=by omega
        have bcp:(h:Int) < (L:Int):=by omega
        obtain ⟨xp,hxp⟩:∃ x,x = d[qn]!:=⟨_,rfl⟩
        obtain ⟨yp,hyp⟩:∃ x,x = d[h]!:=⟨_,rfl⟩
        have lap:=S1.out.cl R (by omega) (qn) (by omega)
        have lbp:=S1.out.cl R (by omega) (h) (by omega)
        rw [← hxp,← hiNp] at lap
        rw [← hyp,← hjNp] at lbp
        have hcp:=S1.out.cmp HC.out (by omega) xp yp
        have hvp:¬ cf xp yp < 0:=by rw [hxp,hyp];exact of_decide_eq_false hlv
        have hdp:decide (cf xp yp < 0) = false:=decide_eq_false hvp
        clear hxp hyp hiNp hjNp
        go_quiet_grown (first | (go_at_fn g;refine Calls.grown_of (hcp _ _)))
        have S2:Aside (SW enc w0 blk off d (grow (wr.drewN nq) osq)):=S1.out.grown nq osq
        clear lap lbp hcp S1
        generalize grow (wr.drewN nq) osq = wp at S2 ⊢
        clear nq osq
        clear eap ecp
        go_wp2
        go_roundg (j - (h + 1))
        case measure => omega
        case rel => exact ⟨h + 1,j,by first | rfl | go_num,rfl,by omega,by omega,hjb,Nat.le_refl _,S2,Or.inr (by rw [HQ.out] at hlv;exact hlv),H2⟩
      | true =>
        obtain ⟨iNp,hiNp⟩:∃ q,q = qn:=⟨_,rfl⟩
        obtain ⟨jNp,hjNp⟩:∃ q,q = h:=⟨_,rfl⟩
        have eap:((qn:Int)).toNat = iNp:=by omega
        have pap:(0:Int) ≤ (qn:Int):=by omega
        have bap:(qn:Int) < (L:Int):=by omega
        have rap:IntKind.i64.wrap ((qn:Int)) = (qn:Int):=by rw [IntKind.wrap_i64];omega
        have ecp:((h:Int)).toNat = jNp:=by omega
        have pcp:(0:Int) ≤ (h:Int):=by omega
        have bcp:(h:Int) < (L:Int):=by omega
        obtain ⟨xp,hxp⟩:∃ x,x = d[qn]!:=⟨_,rfl⟩
        obtain ⟨yp,hyp⟩:∃ x,x = d[h]!:=⟨_,rfl⟩
        have lap:=S1.out.cl R (by omega) (qn) (by omega)
        have lbp:=S1.out.cl R (by omega) (h) (by omega)
        rw [← hxp,← hiNp] at lap
        rw [← hyp,← hjNp] at lbp
        have hcp:=S1.out.cmp HC.out (by omega) xp yp
        have hvp:cf xp yp < 0:=by rw [hxp,hyp];exact of_decide_eq_true hlv
        have hdp:decide (cf xp yp < 0) = true:=decide_eq_true hvp
        clear hxp hyp hiNp hjNp
        go_quiet_grown (first | (go_at_fn g;refine Calls.grown_of (hcp _ _)))
        have S2:Aside (SW enc w0 blk off d (grow (wr.drewN nq) osq)):=S1.out.grown nq osq
        clear lap lbp hcp S1
        generalize grow (wr.drewN nq) osq = wp at S2 ⊢
        clear nq osq
        clear eap ecp
        go_wp2
        go_roundg (h - i)
        case measure => omega
        case rel => exact ⟨i,h,rfl,by first | rfl | go_num,hmi,by omega,by omega,Nat.le_refl _,S2,H1,Or.inr (by rw [HQ.out] at hlv;exact hlv)⟩
    · have e:j = i:=by omega
      subst e
      have hltz:¬ (j:Int) < (j:Int):=by omega
      clear HC hcl0 hst mixed
      obtain ⟨ee,hee⟩:∃ x,x = n - j:=⟨_,rfl⟩
      have HM2:Hid (∀ d1,Rot j m ee d d1 → Mid (ltOf cf) Rr a j mid ee b d1):=fun d1 hr => HMo.out j ee d1 hr hee hmi hjb H1.out H2.out
      clear HMo H1 H2
      have re:IntKind.i64.wrap ((n:Int) - (j:Int)) = (ee:Int):=by rw [IntKind.wrap_i64];omega
      have ee1:ee ≤ n - j:=Nat.le_of_eq hee
      have ee2:n - j ≤ ee:=Nat.le_of_eq hee.symm
      clear hee
      have hje:j ≤ m:=by omega
      have hme:m ≤ ee:=by omega
      have heb:ee ≤ b:=by omega
      have haj:a ≤ j:=by omega
      have hjm:j ≤ mid:=by omega
      have hmide:mid ≤ ee:=by omega
      have hmidb:mid < b:=by omega
      have hamid:a < mid:=by omega
      clear lo1 lo2 hi1 hi2 hmi hjb HLO HHI n1 n2 p1 p2 ee1 ee2
      go_upto_region 39 with (fail)
      obtain ⟨c39,hc39⟩:∃ c:Bool,Hid (c = (decide (j < m) && decide (m < ee))):=⟨_,rfl⟩
      go_cut [185] from 178 to 185 (fun b W => b = .bool c39 ∧ W = wr)
      case first =>
        by_cases k1:j < m
        · have k1z:((j:Nat):Int) < ((m:Nat):Int):=by omega
          by_cases k2:m < ee
          · have k2z:((m:Nat):Int) < ((ee:Nat):Int):=by omega
            go_wp2_with fail
            go_meet
            case rel => exact ⟨by rw [hc39.out,decide_eq_true k1,decide_eq_true k2];rfl,rfl⟩
          · have k2z:¬ ((m:Nat):Int) < ((ee:Nat):Int):=by omega
            go_wp2_with fail
            go_meet
            case rel => exact ⟨by rw [hc39.out,decide_eq_true k1,decide_eq_false k2];rfl,rfl⟩
        · have k1z:¬ ((j:Nat):Int) < ((m:Nat):Int):=by omega
          go_wp2_with fail
          go_meet
          case rel => exact ⟨by rw [hc39.out,decide_eq_false k1];rfl,rfl⟩
      case rest =>
        obtain ⟨rfl,rfl⟩:=hcut
        go_upto_if 185 with (fail)
        go_cut [191] from 185 to 191 (fun _ W => ∃ d1:Array α,Hid (Rot j m ee d d1) ∧ Aside (SW enc w0 blk off d1 W))
        case first =>
          cases hcc:c39 with
          | true =>
            have k:=hc39.out.symm.trans hcc
            rw [Bool.and_eq_true] at k
            have k1:=of_decide_eq_true k.1
            have k2:=of_decide_eq_true k.2
            clear k
            go_wp2_with (go_at_call 119;refine (CR.out j ee _ S1.out k1 k2 (by omega)).mono ?_;rintro e w2 ⟨rfl,d1,hrot,hS1⟩)
            go_meet
            case rel => exact ⟨d1,hrot,hS1⟩
          | false =>
            have k:¬ (j < m ∧ m < ee):=fun h => by
              have:=hc39.out.symm.trans hcc
              rw [decide_eq_true h.1,decide_eq_true h.2] at this
              cases this
            go_wp2_with fail
            go_meet
            case rel => exact ⟨d,Rot.none hje hme (by omega) (by omega),S1⟩
        case rest =>
          clear hc39
          obtain ⟨d1,HRO,S2⟩:=hcut
          have HMM:Hid (Mid (ltOf cf) Rr a j mid ee b d1):=HM2.out d1 HRO.out
          have hz1:d1.size = d.size:=HRO.out.size
          clear CR HM2 S1
          go_upto_region 41 with (fail)
          obtain ⟨c41,hc41⟩:∃ c:Bool,Hid (c = (decide (a < j) && decide (j < mid))):=⟨_,rfl⟩
          go_cut [199] from 192 to 199 (fun b W => b = .bool c41 ∧ W = wc)
          case first =>
            by_cases k1:a < j
            · have k1z:((a:Nat):Int) < ((j:Nat):Int):=by omega
              by_cases k2:j < mid
              · have k2z:((j:Nat):Int) < ((mid:Nat):Int):=by omega
                go_wp2_with fail
                go_meet
                case rel => exact ⟨by rw [hc41.out,decide_eq_true k1,decide_eq_true k2];rfl,rfl⟩
              · have k2z:¬ ((j:Nat):Int) < ((mid:Nat):Int):=by omega
                go_wp2_with fail
                go_meet
                case rel => exact ⟨by rw [hc41.out,decide_eq_true k1,decide_eq_false k2];rfl,rfl⟩
            · have k1z:¬ ((a:Nat):Int) < ((j:Nat):Int):=by omega
              go_wp2_with fail
              go_meet
              case rel => exact ⟨by rw [hc41.out,decide_eq_false k1];rfl,rfl⟩
          case rest =>
            obtain ⟨rfl,rfl⟩:=hcut
            go_upto_if 199 with (fail)
            go_cut [205] from 199 to 205 (fun _ W => ∃ d2:Array α,Hid (Merged Rr a mid d1 d2) ∧ Aside (SW enc w0 blk off d2 W))
            case first =>
              cases hcc:c41 with
              | true =>
                have k:=hc41.out.symm.trans hcc
                rw [Bool.and_eq_true] at k
                have k1:=of_decide_eq_true k.1
                have k2:=of_decide_eq_true k.2
                clear k
                go_wp2_with (go_at_call 111;refine (HIH.out a j mid d1 _ (by omega) (by omega) S2.out k1 k2 (by omega) HMM.out.r1 HMM.out.r2 HMM.out.a1).mono ?_;rintro e w2 ⟨rfl,d2,hmg,hS1⟩)
                go_meet
                case rel => exact ⟨d2,hmg,hS1⟩
              | false =>
                have k:¬ (a < j ∧ j < mid):=fun h => by
                  have:=hc41.out.symm.trans hcc
                  rw [decide_eq_true h.1,decide_eq_true h.2] at this
                  cases this
                go_wp2_with fail
                go_meet
                case rel => exact ⟨d1,Merged.none (mid_left HMM.out haj hjm k),S2⟩
            case rest =>
              clear hc41
              obtain ⟨d2,HG1,S3⟩:=hcut
              have hz2:d2.size = d1.size:=HG1.out.1.1
              clear S2
              go_upto_region 43 with (fail)
              obtain ⟨c43,hc43⟩:∃ c:Bool,Hid (c = (decide (mid < ee) && decide (ee < b))):=⟨_,rfl⟩
              go_cut [213] from 206 to 213 (fun b W => b = .bool c43 ∧ W = wc)
              case first =>
                by_cases k1:mid < ee
                · have k1z:((mid:Nat):Int) < ((ee:Nat):Int):=by omega
                  by_cases k2:ee < b
                  · have k2z:((ee:Nat):Int) < ((b:Nat):Int):=by omega
                    go_wp2_with fail
                    go_meet
                    case rel => exact ⟨by rw [hc43.out,decide_eq_true k1,decide_eq_true k2];rfl,rfl⟩
                  · have k2z:¬ ((ee:Nat):Int) < ((b:Nat):Int):=by omega
                    go_wp2_with fail
                    go_meet
                    case rel => exact ⟨by rw [hc43.out,decide_eq_true k1,decide_eq_false k2];rfl,rfl⟩
                · have k1z:¬ ((mid:Nat):Int) < ((ee:Nat):Int):=by omega
                  go_wp2_with fail
                  go_meet
                  case rel => exact ⟨by rw [hc43.out,decide_eq_false k1];rfl,rfl⟩
              case rest =>
                obtain ⟨rfl,rfl⟩:=hcut
                go_upto_if 213 with (fail)
                cases hcc:c43 with
                | true =>
                  have k:=hc43.out.symm.trans hcc
                  rw [Bool.and_eq_true] at k
                  have k1:=of_decide_eq_true k.1
                  have k2:=of_decide_eq_true k.2
                  clear k
                  go_wp2_with (go_at_call 111;refine (HIH.out mid ee b d2 _ (by omega) (by omega) S3.out k1 k2 (by omega) (mid_ahead HMM.out hmide HG1.out.1).1 (mid_ahead HMM.out hmide HG1.out.1).2.1 (mid_ahead HMM.out hmide HG1.out.1).2.2).mono ?_;rintro e w2 ⟨rfl,d3,hmg,hS1⟩)
                  go_end0
                  exact ⟨rfl,d3,both (PermIn.wide HRO.out.perm haj heb hb) hb (Nat.le_of_lt hamid) (Nat.le_of_lt hmidb) HMM.out.cross HG1.out hmg,hS1⟩
                | false =>
                  have k:¬ (mid < ee ∧ ee < b):=fun h => by
                    have:=hc43.out.symm.trans hcc
                    rw [decide_eq_true h.1,decide_eq_true h.2] at this
                    cases this
                  go_wp2_with fail
                  go_end0
                  exact ⟨rfl,d2,both (PermIn.wide HRO.out.perm haj heb hb) hb (Nat.le_of_lt hamid) (Nat.le_of_lt hmidb) HMM.out.cross HG1.out (Merged.none (mid_right HMM.out hmide heb HG1.out.1 k)),S3.out⟩
end Go.Proofs.YtphmmnffgknkcaaGreatDoor
namespace Go.Proofs.YtphmmnffgknkcaaGreatDoor
open Go.Shelf Go.RowKit Go.Lib Go.Sort
set_option maxRecDepth 100000
variable {α:Type} [Inhabited α]
structure Ins (lt:α → α → Bool) (R:α → α → Prop) (a i j:Nat) (dk dj:Array α):Prop where
  r1:Ris R a j dj
  r2:Ris R j (i + 1) dj
  cr:∀ p q,a ≤ p → p < j → j < q → q ≤ i → R dj[p]! dj[q]!
  tie:∀ p,a ≤ p → p < j → lt dj[j]! dj[p]! = false → R dj[p]! dj[j]!
  perm:PermIn a (i + 1) dk dj
theorem Ins.start {lt:α → α → Bool} {R:α → α → Prop} {a i:Nat} {dk:Array α} (h:Ris R a i dk) (ht:∀ p,a ≤ p → p < i → lt dk[i]! dk[p]! = false → R dk[p]! dk[i]!):Ins lt R a i i dk dk:=
  ⟨h,fun _ _ _ _ _ => by omega,fun _ _ _ _ _ _ => by omega,ht,permIn_refl _ _ _⟩
theorem Ins.step {lt:α → α → Bool} {R:α → α → Prop} (K:Keep lt R) {a i j:Nat} {dk dj:Array α} (h:Ins lt R a i (j + 1) dk dj) (haj:a ≤ j) (hji:j + 1 ≤ i) (hi:i < dk.size) (hl:lt dj[j + 1]! dj[j]! = true):Ins lt R a i j dk (swp dj (j + 1) j):=by
  have hz:dj.size = dk.size:=h.perm.1
  have hR:=K.lr _ _ hl
  have sl:(swp dj (j + 1) j)[j + 1]! = dj[j]!:=swp_left dj (j + 1) j (by omega) (by omega)
  have sr:(swp dj (j + 1) j)[j]! = dj[j + 1]!:=swp_right dj (j + 1) j (by omega)
  have so:∀ k,k ≠ j → k ≠ j + 1 → (swp dj (j + 1) j)[k]! = dj[k]!:=fun k h1 h2 => swp_other dj (j + 1) j k h2 h1
  refine ⟨?_,?_,?_,?_,permIn_trans _ _ _ _ _ h.perm (swp_permIn dj a (i + 1) (j + 1) j (by omega) (by omega) (by omega) (by omega) (by omega))⟩
  · intro p q hp hpq hq
    rw [so p (by omega) (by omega),so q (by omega) (by omega)]
    exact h.r1 p q hp hpq (by omega)
  · intro p q hp hpq hq
    by_cases ep:p = j
    · rw [ep,sr]
      by_cases eq:q = j + 1
      · rw [eq,sl];exact hR
      · rw [so q (by omega) eq]
        exact h.r2 (j + 1) q (by omega) (by omega) hq
    · by_cases ep2:p = j + 1
      · rw [ep2,sl,so q (by omega) (by omega)]
        exact h.cr j q (by omega) (by omega) (by omega) (by omega)
      · rw [so p ep ep2,so q (by omega) (by omega)]
        exact h.r2 p q (by omega) hpq hq
  · intro p q hp hp2 hq hq2
    rw [so p (by omega) (by omega)]
    by_cases eq:q = j + 1
    · rw [eq,sl]
      exact h.r1 p j hp hp2 (by omega)
    · rw [so q (by omega) eq]
      exact h.cr p q hp (by omega) (by omega) hq2
  · intro p hp hp2
    rw [sr,so p (by omega) (by omega)]
    exact h.tie p hp (by omega)
theorem Ins.stop {lt:α → α → Bool} {R:α → α → Prop} (K:Keep lt R) {a i j:Nat} {dk dj:Array α} (h:Ins lt R a i j dk dj) (haj:a ≤ j) (hs:j = a ∨ lt dj[j]! dj[j - 1]! = false):Merged R a (i + 1) dk dj:=by
  refine ⟨h.perm,Ris.glue (q:=j) h.r1 h.r2 fun p q hp hp2 hq hq2 => ?_⟩
  rcases hs with hs | hs
  · omega
  · have:=h.tie (j - 1) (by omega) (by omega) hs
    by_cases e:q = j
    · rw [e]
      exact Ris.le K h.r1 hp (show p ≤ j - 1 by omega) (by omega) this
    · exact h.cr p q hp hp2 (by omega) (by omega)
structure InsO (lt:α → α → Bool) (R:α → α → Prop) (a b i:Nat) (d dk:Array α):Prop where
  mg:Merged R a i d dk
  tie:∀ p q,a ≤ p → p < q → i ≤ q → q < b → lt dk[q]! dk[p]! = false → R dk[p]! dk[q]!
theorem InsO.next {lt:α → α → Bool} {R:α → α → Prop} {a b i:Nat} {d dk dj:Array α} (h:InsO lt R a b i d dk) (hib:i < b) (hb:b ≤ d.size) (hm:Merged R a (i + 1) dk dj):InsO lt R a b (i + 1) d dj:=by
  have hz:dk.size = d.size:=h.mg.1.1
  refine ⟨⟨permIn_trans _ _ _ _ _ (PermIn.wide h.mg.1 (Nat.le_refl _) (by omega) (by omega)) hm.1,hm.2⟩,fun p q hp hpq hq hqb => ?_⟩
  rw [hm.1.2.1 q (by omega)]
  by_cases hpi:p < i + 1
  · exact permIn_all dk dj a (i + 1) (fun x => lt dk[q]! x = false → R x dk[q]!) (by omega) hm.1 (fun k hk hk2 => h.tie k q hk (by omega) (by omega) hqb) p hp hpi
  · rw [hm.1.2.1 p (by omega)]
    exact h.tie p q hp hpq (by omega) hqb
set_option maxHeartbeats 8000000 in
set_option maxRecDepth 1000000 in
theorem insertion_any (enc:α → Value) (cf:α → α → Int) (Rr:α → α → Prop) (K:Keep (ltOf cf) Rr) (g:Nat) (cb:Array Value) (eg:∀ args w,(callFunc g args).run Tryz.prog w = .ok (.enter g args) w) (blk off L cap a b:Nat) (d0 d:Array α) (w0 w:World) (hcmp:CmpLays1 Tryz.prog g cb enc cf blk off d0.size w0) (R:Row1 enc w0 blk off d0) (hs:d0.size = d.size) (hL:d.size = L) (S:SW enc w0 blk off d w) (hab:a ≤ b) (hb:b ≤ d.size) (hsz:d.size < 1000000000) (hS:Stood (ltOf cf) Rr a b d) :
    Calls Tryz.prog 110 #[.slice (some ⟨blk,off,none⟩) L cap,.int .i64 a,.int .i64 b,.func (.func g) #[] cb] w fun e w' => e = .returned (.tuple #[]) ∧ ∃ d',Merged Rr a b d d' ∧ SW enc w0 blk off d' w':=by
  have mixed:Tryz.prog.follows .mixedOrders = true:=by kernel_rfl
  have hcl0:=R.hO.cells
  simp only [Value.cells] at hcl0
  have hst:=R.hO.store Tryz.prog
  have HC:Aside _:=hcmp
  have HK:Hid (Keep (ltOf cf) Rr):=K
  have HI0:Hid (InsO (ltOf cf) Rr a b (a + 1) d d):=⟨⟨permIn_refl _ _ _,fun i j h1 h2 h3 => by omega⟩,fun p q hp hpq _ hqb hl => hS p q hp hpq hqb hl⟩
  have S0:Aside (SW enc w0 blk off d w):=S
  clear S hcmp K hS
  go_enter Tryz.func110,Tryz.ntmps110
  go_wp2
  go_loopg [8] (b - a) (fun g1 vi wr => ∃ (i:Nat) (dk:Array α),vi = .int .i64 i ∧ a < i ∧ i ≤ b + 1 ∧ (a < b → i ≤ b) ∧ b + 1 - i ≤ g1 + 1 ∧ dk.size = d.size ∧ Aside (SW enc w0 blk off dk wr) ∧ Hid (InsO (ltOf cf) Rr a b i d dk) ∧ Hid (b ≤ a → dk = d))
  case atStart => exact ⟨a + 1,d,by go_num,by omega,by omega,by omega,by omega,rfl,S0,HI0,fun _ => rfl⟩
  case round =>
    clear S0 HI0
    obtain ⟨i,dk,rfl,hai,hib,hib2,hg1,hsk,S1,HO,HN⟩:=hrel
    by_cases hlt:i < b
    · have hltz:(i:Int) < (b:Int):=by omega
      clear hib2
      go_wp2
      have HI1:Hid (Ins (ltOf cf) Rr a i i dk dk):=Ins.start HO.out.mg.2 (fun p hp hp2 hl => HO.out.tie p i hp hp2 (Nat.le_refl _) hlt hl)
      go_loopg [9] i (fun g2 vj wr2 => ∃ (j:Nat) (dj:Array α),vj = .int .i64 j ∧ a ≤ j ∧ j ≤ i ∧ j ≤ g2 ∧ dj.size = d.size ∧ Aside (SW enc w0 blk off dj wr2) ∧ Hid (Ins (ltOf cf) Rr a i j dk dj))
      case atStart => exact ⟨i,dk,rfl,by omega,Nat.le_refl _,Nat.le_refl _,hsk,S1,HI1⟩
      case round =>
        clear S1 HI1
        obtain ⟨j,dj,rfl,haj,hji,hg2,hsj,SJ,HI⟩:=hrel
        by_cases hja:a < j
        · obtain ⟨jp,rfl⟩:∃ q,j = q + 1:=⟨j - 1,by omega⟩
          have hjad:decide ((jp:Int) + 1 > (a:Int)) = true:=decide_eq_true (by omega)
          have hjaz':(a:Int) < (jp:Int) + 1:=by omega
          have rj:IntKind.i64.wrap ((jp:Int) + 1 - 1) = (jp:Int):=by rw [IntKind.wrap_i64];omega
          cases hlv:(ltOf cf) dj[jp + 1]! dj[jp]! with
          | true =>
            go_wp2_with fail
            obtain ⟨iNp,hiNp⟩:∃ q,q = jp + 1:=⟨_,rfl⟩
            obtain ⟨jNp,hjNp⟩:∃ q,q = jp:=⟨_,rfl⟩
            have eap:((jp:Int) + 1).toNat = iNp:=by omega
            have pap:(0:Int) ≤ (jp:Int) + 1:=by omega
            have bap:(jp:Int) + 1 < (L:Int):=by omega
            have rap:IntKind.i64.wrap ((jp:Int) + 1) = (jp:Int) + 1:=by rw [IntKind.wrap_i64];omega
            have ecp:((jp:Int)).toNat = jNp:=by omega
            have pcp:(0:Int) ≤ (jp:Int):=by omega
            have bcp:(jp:Int) < (L:Int):=by omega
            have rcp:IntKind.i64.wrap ((jp:Int)) = (jp:Int):=by rw [IntKind.wrap_i64];omega
            obtain ⟨xp,hxp⟩:∃ x,x = dj[jp + 1]!:=⟨_,rfl⟩
            obtain ⟨yp,hyp⟩:∃ x,x = dj[jp]!:=⟨_,rfl⟩
            have lap:=SJ.out.cl R (by omega) (jp + 1) (by omega)
            have lbp:=SJ.out.cl R (by omega) (jp) (by omega)
            rw [← hxp,← hiNp] at lap
            rw [← hyp,← hjNp] at lbp
            have hcp:=SJ.out.cmp HC.out (by omega) xp yp
            have hvp:cf xp yp < 0:=by rw [hxp,hyp];exact of_decide_eq_true hlv
            have hdp:decide (cf xp yp < 0) = true:=decide_eq_true hvp
            clear hxp hyp hiNp hjNp
            go_quiet_grown (first | (go_at_fn g;refine Calls.grown_of (hcp _ _)))
            have S2:Aside (SW enc w0 blk off dj (grow (wr.drewN nq) osq)):=SJ.out.grown nq osq
            clear lap lbp hcp SJ
            generalize grow (wr.drewN nq) osq = wp at S2 ⊢
            clear nq osq
            clear eap ecp
            go_wp2_with fail
            obtain ⟨iNq,hiNq⟩:∃ q,q = jp + 1:=⟨_,rfl⟩
            obtain ⟨jNq,hjNq⟩:∃ q,q = jp:=⟨_,rfl⟩
            have eaq:((jp:Int) + 1).toNat = iNq:=by omega
            have paq:(0:Int) ≤ (jp:Int) + 1:=by omega
            have baq:(jp:Int) + 1 < (L:Int):=by omega
            have raq:IntKind.i64.wrap ((jp:Int) + 1) = (jp:Int) + 1:=by rw [IntKind.wrap_i64];omega
            have ecq:((jp:Int)).toNat = jNq:=by omega
            have pcq:(0:Int) ≤ (jp:Int):=by omega
            have bcq:(jp:Int) < (L:Int):=by omega
            have rcq:IntKind.i64.wrap ((jp:Int)) = (jp:Int):=by rw [IntKind.wrap_i64];omega
            obtain ⟨xq,hxq⟩:∃ x,x = dj[jp + 1]!:=⟨_,rfl⟩
            obtain ⟨yq,hyq⟩:∃ x,x = dj[jp]!:=⟨_,rfl⟩
            have S3:Aside (SW enc w0 blk off (swp dj (jp + 1) (jp)) ((wp.setCell ⟨blk,off + iNq,none⟩ (enc yq)).setCell ⟨blk,off + jNq,none⟩ (enc xq)).drew):=by rw [hiNq,hjNq,hxq,hyq];exact S2.out.swapped R (jp + 1) (jp) (by omega) (by omega)
            have caq:=S2.out.c1 R (by omega) (jp + 1) (by omega)
            have ccq:=S2.out.c1 R (by omega) (jp) (by omega)
            have faq:=S2.out.f1 R (by omega) (jp + 1) (by omega)
            have fbq:=S2.out.f1 R (by omega) (jp) (by omega)
            obtain ⟨uq,cuq⟩:=S2.out.c2 R (by omega) (jp + 1) (jp) (by omega) (by omega) (enc yq)
            rw [← hiNq,← hjNq] at cuq
            rw [← hxq,← hiNq] at caq
            rw [← hyq,← hjNq] at ccq
            rw [← hiNq] at faq
            rw [← hjNq] at fbq
            clear S2 hxq hyq hiNq hjNq
            go_wp2_with fail
            go_big_region_o
            clear caq ccq cuq faq fbq
            generalize ((wp.setCell ⟨blk,off + iNq,none⟩ (enc yq)).setCell ⟨blk,off + jNq,none⟩ (enc xq)).drew = wq at S3 ⊢
            clear eaq ecq
            go_wp2
            go_roundg jp
            case measure => omega
            case rel => exact ⟨jp,swp dj (jp + 1) jp,by first | rfl | go_num,by omega,by omega,Nat.le_refl _,by rw [size_swp];exact hsj,S3,Ins.step HK.out HI.out (by omega) hji (by omega) hlv⟩
          | false =>
            go_wp2_with fail
            obtain ⟨iNp,hiNp⟩:∃ q,q = jp + 1:=⟨_,rfl⟩
            obtain ⟨jNp,hjNp⟩:∃ q,q = jp:=⟨_,rfl⟩
            have eap:((jp:Int) + 1).toNat = iNp:=by omega
            have pap:(0:Int) ≤ (jp:Int) + 1:=by omega
            have bap:(jp:Int) + 1 < (L:Int):=by omega
            have rap:IntKind.i64.wrap ((jp:Int) + 1) = (jp:Int) + 1:=by rw [IntKind.wrap_i64];omega
            have ecp:((jp:Int)).toNat = jNp:=by omega
            have pcp:(0:Int) ≤ (jp:Int):=by omega
            have bcp:(jp:Int) < (L:Int):=by omega
            have rcp:IntKind.i64.wrap ((jp:Int)) = (jp:Int):=by rw [IntKind.wrap_i64];omega
            obtain ⟨xp,hxp⟩:∃ x,x = dj[jp + 1]!:=⟨_,rfl⟩
            obtain ⟨yp,hyp⟩:∃ x,x = dj[jp]!:=⟨_,rfl⟩
            have lap:=SJ.out.cl R (by omega) (jp + 1) (by omega)
            have lbp:=SJ.out.cl R (by omega) (jp) (by omega)
            rw [← hxp,← hiNp] at lap
            rw [← hyp,← hjNp] at lbp
            have hcp:=SJ.out.cmp HC.out (by omega) xp yp
            have hvp:¬ cf xp yp < 0:=by rw [hxp,hyp];exact of_decide_eq_false hlv
            have hdp:decide (cf xp yp < 0) = false:=decide_eq_false hvp
            clear hxp hyp hiNp hjNp
            go_quiet_grown (first | (go_at_fn g;refine Calls.grown_of (hcp _ _)))
            have S2:Aside (SW enc w0 blk off dj (grow (wr.drewN nq) osq)):=SJ.out.grown nq osq
            clear lap lbp hcp SJ
            generalize grow (wr.drewN nq) osq = wp at S2 ⊢
            clear nq osq
            clear eap ecp
            go_wp2
            go_roundg (b - (i + 1))
            case measure => omega
            case rel => exact ⟨i + 1,dj,by go_num,by omega,by omega,by omega,by omega,hsj,S2,InsO.next HO.out hlt hb (HI.out.stop HK.out (by omega) (Or.inr hlv)),fun h => absurd h (by omega)⟩
        · have hjaz:decide ((j:Int) > (a:Int)) = false:=decide_eq_false (by omega)
          have hjaz':¬ (a:Int) < (j:Int):=by omega
          go_wp2_with fail
          go_big_region_o
          have S2:Aside (SW enc w0 blk off dj wr.drew):=SJ.out.drew
          clear SJ
          generalize wr.drew = w2 at S2 ⊢
          go_wp2
          go_roundg (b - (i + 1))
          case measure => omega
          case rel => exact ⟨i + 1,dj,by go_num,by omega,by omega,by omega,by omega,hsj,S2,InsO.next HO.out hlt hb (HI.out.stop HK.out haj (Or.inl (by omega))),fun h => absurd h (by omega)⟩
    · have hltz:¬ (i:Int) < (b:Int):=by omega
      have HF:Hid (Merged Rr a b d dk):=by
        show Merged _ _ _ _ _
        by_cases e:i = b
        · rw [← e];exact HO.out.mg
        · have hnab:¬ a < b:=fun h => by have:=hib2 h;omega
          rw [HN.out (by omega)]
          exact ⟨permIn_refl _ _ _,fun x y h1 h2 h3 => by omega⟩
      go_wp2
      go_end0
      exact ⟨rfl,dk,HF.out,S1.out⟩
end Go.Proofs.YtphmmnffgknkcaaGreatDoor

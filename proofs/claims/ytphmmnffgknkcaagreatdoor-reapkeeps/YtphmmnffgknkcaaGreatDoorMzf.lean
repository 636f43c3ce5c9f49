import Derived.Test.YtphmmnffgknkcaaGreatDoorMze
import Derived.Test.YtphmmnffgknkcaaGreatDoorMzb
import Derived.Test.YtphmmnffgknkcaaGreatDoorMza
import Derived.BigQuiet
namespace Go.Proofs.YtphmmnffgknkcaaGreatDoor
open Go.RowKit
set_option maxRecDepth 100000
set_option maxRecDepth 100000 in
set_option maxHeartbeats 4000000 in
theorem eHalf_any (va vv:Value) (l:List Lf) (i:Int) (on:Bool) (w:World) (hR:ReadsLf w va vv l) (hl:l.length < 2000000) :
    Calls Tryz.prog 29 #[.agg #[va,vv],.int .i64 i,.bool on] w fun e w' => ∃ xa xv,e = .returned (.agg #[xa,xv]) ∧ OwnLf w' w.heap.size xa xv ((l.filter fun p => bitI p.1 i == on).map (·.1)) ((l.filter fun p => bitI p.1 i == on).map (·.2)) ∧ Below w.heap.size w w':=by
  have HR:Hid (ReadsLf w va vv l):=hR
  have HL:Hid (l.length < 2000000):=hl
  obtain ⟨n,HN⟩:∃ n,Hid (n = l.length):=⟨_,rfl⟩
  obtain ⟨ada,cpa,hva⟩:=hR.1.slice
  obtain ⟨adv,cpv,hvv⟩:=hR.2.slice
  rw [List.length_map,← HN.out] at hva hvv
  subst hva hvv
  clear hR hl
  obtain ⟨gl,HGL⟩:∃ g,Hid (g = w.heap.size):=⟨_,rfl⟩
  obtain ⟨wG,HWG⟩:∃ z,Hid (z = (w.alloc (.cells [Value.slice ada n cpa,.slice adv n cpv].toArray 43)).alloc (.cells [nilV,nilV].toArray 43)):=⟨_,rfl⟩
  have HLB:Hid (Blk wG gl [Value.slice ada n cpa,.slice adv n cpv] 43):=by rw [HWG.out,HGL.out];exact (Blk.new w _ _).below (below_alloc _ _) (by simp)
  have HRB:Hid (Blk wG (gl + 1) [nilV,nilV] 43):=by rw [HWG.out,HGL.out];exact Blk.new_at (by simp) _ _
  have HBW:Hid (Below w.heap.size w wG):=by rw [HWG.out];exact (below_alloc w _).trans ((below_alloc _ _).mono (by simp))
  obtain ⟨go,HGO⟩:∃ g,Hid (g = wG.heap.size):=⟨_,rfl⟩
  have HSZ:Hid (go = gl + 2):=by show _ = _;rw [HGO.out,HWG.out,HGL.out];simp
  have HCA:Hid (∀ wx,Below go wG wx → wx.cell? ⟨gl,0,none⟩ = some (.slice ada n cpa)):=fun wx hx => (HLB.out.below hx (by have:=HSZ.out;omega)).cell 0
  have HCV:Hid (∀ wx,Below go wG wx → wx.cell? ⟨gl,1,none⟩ = some (.slice adv n cpv)):=fun wx hx => (HLB.out.below hx (by have:=HSZ.out;omega)).cell 1
  have HI:Hid (Lv wG go nilV nilV [] [] (wG.alloc (.cells [nilV,nilV].toArray 43))):=by rw [HGO.out];exact Lv.start wG
  go_enter Tryz.func29,Tryz.ntmps29
  go_wp2
  have e0:(some ⟨w.heap.size,0,none⟩:Option Addr) = some ⟨gl,0,none⟩:=by rw [HGL.out]
  have e1:(some ⟨w.heap.size + 1,0,none⟩:Option Addr) = some ⟨gl + 1,0,none⟩:=by rw [HGL.out]
  have e2:(some ⟨w.heap.size + 1 + 1,0,none⟩:Option Addr) = some ⟨go,0,none⟩:=by rw [HSZ.out,HGL.out]
  simp only [e0,e1,e2]
  clear e0 e1 e2
  change Code.wp _ _ _ _ (((w.alloc (.cells [Value.slice ada n cpa,.slice adv n cpv].toArray 43)).alloc (.cells [nilV,nilV].toArray 43)).alloc (.cells [nilV,nilV].toArray 43))
  rw [← HWG.out]
  generalize wG.alloc (.cells [nilV,nilV].toArray 43) = w0 at *
  clear HWG HGO
  go_loopw [8] (fun j wr => ∃ (k:Nat) (xa xv:Value),k ≤ n ∧ j = .int .i64 (k:Int) ∧ Lv wG go xa xv (((l.take k).filter fun p => bitI p.1 i == on).map (·.1)) (((l.take k).filter fun p => bitI p.1 i == on).map (·.2)) wr) (fun j _ => n - (intOf j).toNat)
  case atStart => exact ⟨0,nilV,nilV,by omega,rfl,by simpa using HI.out⟩
  case round =>
    clear HI
    obtain ⟨k,xa,xv,hk,rfl,hI⟩:=hrel
    have HI:Hid (Lv wG go xa xv (((l.take k).filter fun p => bitI p.1 i == on).map (·.1)) (((l.take k).filter fun p => bitI p.1 i == on).map (·.2)) wr):=hI
    clear hI
    have ca:wr.cell? ⟨gl,0,none⟩ = some (.slice ada n cpa):=HCA.out wr HI.out.bel
    by_cases hlt:k < n
    · have hlti:(k:Int) < (n:Int):=by omega
      have k0:(0:Int) ≤ (k:Int):=by omega
      have hn6:n < 2000000:=by rw [HN.out];exact HL.out
      have f5:IntKind.i64.wrap ((k:Int) + 1) = (k:Int) + 1:=wrap_small2 _ (by omega) (by omega)
      have HKL:Hid (k < l.length):=by show _ < _;rw [← HN.out];exact hlt
      obtain ⟨ba,offa,cpa',hva,hya⟩:=HR.out.1.at (by rw [List.length_map];have:=HKL.out;omega)
      obtain ⟨bv,offv,cpv',hvv,hyv⟩:=HR.out.2.at (by rw [List.length_map];have:=HKL.out;omega)
      rw [List.length_map,← HN.out] at hva hvv hya hyv
      simp only [Value.slice.injEq,true_and] at hva hvv
      obtain ⟨rfl,rfl⟩:=hva
      obtain ⟨rfl,rfl⟩:=hvv
      obtain ⟨da,HDA⟩:∃ d,Hid (d = (l.getD k ([],[])).1):=⟨_,rfl⟩
      obtain ⟨dv,HDV⟩:∃ d,Hid (d = (l.getD k ([],[])).2):=⟨_,rfl⟩
      have HA32:Hid (da.length = 32):=by show _ = _;rw [HDA.out];exact (HR.out.ok _ (getD_mem HKL.out)).1
      have HV32:Hid (dv.length = 32):=by show _ = _;rw [HDV.out];exact (HR.out.ok _ (getD_mem HKL.out)).2
      have HRA:Hid (∀ wx,Below go wG wx → wx.rangeAt ba (offa + k * 32) (cb da)):=fun wx hx => by
        have h:=hya k hlt
        rw [map_getD1 HKL.out,← HDA.out] at h
        have hb:=rangeAt_lt h HA32.out
        exact rangeAt_below (rangeAt_below h HBW.out hb) hx (by have h1:=HSZ.out;have h2:=HGL.out;omega)
      have HRV:Hid (∀ wx,Below go wG wx → wx.rangeAt bv (offv + k * 32) (cb dv)):=fun wx hx => by
        have h:=hyv k hlt
        rw [map_getD2 HKL.out,← HDV.out] at h
        have hb:=rangeAt_lt h HV32.out
        exact rangeAt_below (rangeAt_below h HBW.out hb) hx (by have h1:=HSZ.out;have h2:=HGL.out;omega)
      clear hya hyv
      obtain ⟨p,HP⟩:∃ p,Hid (bitI da i = p):=⟨_,rfl⟩
      have HFL:Hid ((((l.take k).filter fun p => bitI p.1 i == on)).length < 2000000):=Nat.lt_of_le_of_lt (Nat.le_trans (List.length_filter_le _ _) (by rw [List.length_take];omega)) HL.out
      have HTK:Hid (((l.take (k + 1)).filter fun p => bitI p.1 i == on) = ((l.take k).filter fun p => bitI p.1 i == on) ++ if p == on then [(da,dv)] else []):=by
        show _ = _
        rw [take_map HKL.out,List.filter_append,List.filter_cons,List.filter_nil,← HDA.out,HP.out,HDA.out,HDV.out]
      have HRW:Hid (wr.rangeAt ba (offa + k * 32) (cb da)):=HRA.out wr HI.out.bel
      by_cases hpo:p = on
      · subst hpo
        go_wp2_with (first
          | (with_reducible refine wpSeq_loadAt (.tmp 20) ba (offa + k * 32) da ?_ ?_ ?_ ?_ ?_ ?_
             · exact HA32.out
             · exact HRW.out
             · with_reducible rfl
             · rfl
             · rfl)
          | (go_at_call 45;refine (sBit_any da HA32.out _ _).mono ?_;rintro e w7 ⟨rfl,hb7⟩;rw [HP.out]
             replace HI:=HI.out.next hb7
             clear hb7 ca HRW))
        replace HI:Hid (Lv wG go xa xv (((l.take k).filter fun q => bitI q.1 i == p).map (·.1)) (((l.take k).filter fun q => bitI q.1 i == p).map (·.2)) w7):=HI
        refine wp_region_held_drew (S:=Below go wG) (by kernel_rfl) HI.out.drew.bel ?_
        intro hS
        have hI:=HI.out.drew
        clear HI
        change wpAnyH _ _ _ _ _ _ _ _ (World.drew w7)
        generalize World.drew w7 = yA at *
        refine wpAnyH_take (i:=0) (v:=.pointer (some ⟨go,0,none⟩)) rfl (by kernel_rfl) (by kernel_rfl) (by kernel_rfl) (fun _ _ _ h => h) (Or.inl ⟨by rfl,fun wx hx => by simp [go_sem]⟩) hS ?_
        simp only [Act.put,List.getElem_toArray,List.getElem_cons_zero,List.setIfInBounds_toArray,List.set_cons_zero,List.set_cons_succ]
        refine wpAnyH_take (i:=2) (v:=.pointer (some ⟨gl,0,none⟩)) rfl (by kernel_rfl) (by kernel_rfl) (by kernel_rfl) (fun _ _ _ h => h) (Or.inl ⟨by rfl,fun wx hx => by simp [go_sem]⟩) hS ?_
        simp only [Act.put,List.getElem_toArray,List.getElem_cons_succ,List.getElem_cons_zero,List.setIfInBounds_toArray,List.set_cons_zero,List.set_cons_succ]
        refine wpAnyH_take (i:=4) (v:=.int .i64 (k:Int)) rfl (by kernel_rfl) (by kernel_rfl) (by kernel_rfl) (fun _ _ _ h => h) (Or.inl ⟨by rfl,fun wx hx => by simp [go_sem]⟩) hS ?_
        simp only [Act.put,List.getElem_toArray,List.getElem_cons_succ,List.getElem_cons_zero,List.setIfInBounds_toArray,List.set_cons_zero,List.set_cons_succ]
        refine wpAnyH_take (i:=3) (v:=.slice (some ⟨ba,offa,none⟩) n cpa) rfl (by kernel_rfl) (by kernel_rfl) (by kernel_rfl) (fun _ _ _ h => h) (Or.inl ⟨by rfl,fun wx hx => by (have hc:=HCA.out wx hx;simp [go_sem,hc])⟩) hS ?_
        simp only [Act.put,List.getElem_toArray,List.getElem_cons_succ,List.getElem_cons_zero,List.setIfInBounds_toArray,List.set_cons_zero,List.set_cons_succ]
        refine wpAnyH_take (i:=5) (v:=.pointer (some ⟨ba,offa + k * 32,none⟩)) rfl (by kernel_rfl) (by kernel_rfl) (by kernel_rfl) (fun _ _ _ h => h) (Or.inl ⟨by rfl,fun wx hx => by (simp [go_sem,hlti,k0])⟩) hS ?_
        simp only [Act.put,List.getElem_toArray,List.getElem_cons_succ,List.getElem_cons_zero,List.setIfInBounds_toArray,List.set_cons_zero,List.set_cons_succ]
        refine wpAnyH_take (i:=6) (v:=.agg (cb da).toArray) rfl (by kernel_rfl) (by kernel_rfl) (by kernel_rfl) (fun _ _ _ h => h) (Or.inl ⟨by rfl,fun wx hx => by exact load_run 39 _ rfl _ _ rfl (cb da) _ (HRA.out wx hx) Tryz.underlying39 rfl (by rw [cb_len,HA32.out];exact info_digest)⟩) hS ?_
        simp only [Act.put,List.getElem_toArray,List.getElem_cons_succ,List.getElem_cons_zero,List.setIfInBounds_toArray,List.set_cons_zero,List.set_cons_succ]
        have hnb:=NewB.of da yA
        have hn1:=hI.next hnb.below
        obtain ⟨aA,cA,hxA⟩:=hI.own.a.slice
        obtain ⟨nA,HNA⟩:∃ z:Nat,Hid (z = (((l.take k).filter fun q => bitI q.1 i == p).map (·.1)).length):=⟨_,rfl⟩
        rw [← HNA.out] at hxA
        have hce:yA.cell? ⟨go,0,none⟩ = some xa:=hI.out.cell 0
        have hce2:(yA.alloc (.cells (cb da).toArray 39)).cell? ⟨go,0,none⟩ = some xa:=hn1.out.cell 0
        subst hxA
        refine wpAnyH_comm 1 7 (.slice aA nA cA) (.slice (some ⟨yA.heap.size,0,none⟩) 1 1) (yA.alloc (.cells (cb da).toArray 39)) (by kernel_rfl) rfl rfl (by rfl) (by rfl) (by rfl) (by rfl) (by simp [go_sem,hce]) (buildD _ _ _ rfl da HA32.out rfl _) (by simp [go_sem,hce2]) (buildD _ _ _ rfl da HA32.out rfl _) (by kernel_rfl) (by kernel_rfl) (by rfl) (by rfl) hS hn1.bel ?_
        simp only [Act.put,List.getElem_toArray,List.getElem_cons_succ,List.getElem_cons_zero,List.setIfInBounds_toArray,List.set_cons_zero,List.set_cons_succ]
        have hI2:=hn1
        have HU:Hid (Blk (yA.alloc (.cells (cb da).toArray 39)) yA.heap.size (cb da) 39):=hnb.blk
        clear hn1 hnb hce hce2 hS hI
        refine wpAnyH_law 8 (by kernel_rfl) rfl (by rfl) (wp_appendG (.tmp 27) (.tmp 33) (go + 1) (.slice aA nA cA) _ da yA.heap.size hI2.own.a HU.out HA32.out (by rw [List.length_map];exact HFL.out) hI2.out.lt rfl rfl rfl ?_)
        intro zA qA hoA hgA
        have hI:=hI2.addA hoA hgA
        have hsq:Below go wG qA:=hI2.bel.trans (hgA.below.mono (Nat.le_succ _))
        have hbq:=hI2.out.grow hgA (fun j hj => (hI2.own.a.lt j hj).1) (Nat.lt_succ_self _)
        have hcq:=hbq.cell 0
        have hfq:=hbq.frozen 0
        obtain ⟨aA2,cA2,hxA⟩:=hoA.slice
        obtain ⟨nA2,HNA2⟩:∃ z:Nat,Hid (z = (((l.take k).filter fun q => bitI q.1 i == p).map (·.1) ++ [da]).length):=⟨_,rfl⟩
        rw [← HNA2.out] at hxA
        subst hxA
        refine ⟨hsq,?_⟩
        simp only [Act.put,List.getElem_toArray,List.getElem_cons_succ,List.getElem_cons_zero,List.setIfInBounds_toArray,List.set_cons_zero,List.set_cons_succ]
        refine wpAnyH_take (i:=9) (v:=.pointer (some ⟨go,0,none⟩)) rfl (by kernel_rfl) (by kernel_rfl) (by kernel_rfl) (fun _ _ _ h => h) (Or.inl ⟨by rfl,fun wx hx => by simp [go_sem]⟩) hsq ?_
        simp only [Act.put,List.getElem_toArray,List.getElem_cons_succ,List.getElem_cons_zero,List.setIfInBounds_toArray,List.set_cons_zero,List.set_cons_succ]
        refine wpAnyH_skip 10 (qA.setCell ⟨go,0,none⟩ (.slice aA2 nA2 cA2)) (by kernel_rfl) rfl (by rfl) (by simp [go_sem,hcq,hfq]) hI.bel ?_
        simp only [Act.put,List.getElem_toArray,List.getElem_cons_succ,List.getElem_cons_zero]
        refine wpAnyH_done (by kernel_rfl) ?_ _
        clear hoA hgA hsq hbq hcq hfq hI2 HU
        generalize qA.setCell ⟨go,0,none⟩ (.slice aA2 nA2 cA2) = WA at *
        have HI:Hid (Lv wG go (.slice aA2 nA2 cA2) xv (((l.take k).filter fun q => bitI q.1 i == p).map (·.1) ++ [da]) (((l.take k).filter fun q => bitI q.1 i == p).map (·.2)) WA):=hI
        clear hI HRA HCA
        generalize Value.slice aA2 nA2 cA2 = xa2 at *
        go_wp2_with fail
        refine wp_region_held_drew (S:=Below go wG) (by kernel_rfl) HI.out.drew.bel ?_
        intro hS
        have hI:=HI.out.drew
        clear HI
        change wpAnyH _ _ _ _ _ _ _ _ (World.drew WA)
        generalize World.drew WA = yV at *
        refine wpAnyH_take (i:=0) (v:=.pointer (some ⟨go,1,none⟩)) rfl (by kernel_rfl) (by kernel_rfl) (by kernel_rfl) (fun _ _ _ h => h) (Or.inl ⟨by rfl,fun wx hx => by simp [go_sem]⟩) hS ?_
        simp only [Act.put,List.getElem_toArray,List.getElem_cons_zero,List.setIfInBounds_toArray,List.set_cons_zero,List.set_cons_succ]
        refine wpAnyH_take (i:=2) (v:=.pointer (some ⟨gl,1,none⟩)) rfl (by kernel_rfl) (by kernel_rfl) (by kernel_rfl) (fun _ _ _ h => h) (Or.inl ⟨by rfl,fun wx hx => by simp [go_sem]⟩) hS ?_
        simp only [Act.put,List.getElem_toArray,List.getElem_cons_succ,List.getElem_cons_zero,List.setIfInBounds_toArray,List.set_cons_zero,List.set_cons_succ]
        refine wpAnyH_take (i:=4) (v:=.int .i64 (k:Int)) rfl (by kernel_rfl) (by kernel_rfl) (by kernel_rfl) (fun _ _ _ h => h) (Or.inl ⟨by rfl,fun wx hx => by simp [go_sem]⟩) hS ?_
        simp only [Act.put,List.getElem_toArray,List.getElem_cons_succ,List.getElem_cons_zero,List.setIfInBounds_toArray,List.set_cons_zero,List.set_cons_succ]
        refine wpAnyH_take (i:=3) (v:=.slice (some ⟨bv,offv,none⟩) n cpv) rfl (by kernel_rfl) (by kernel_rfl) (by kernel_rfl) (fun _ _ _ h => h) (Or.inl ⟨by rfl,fun wx hx => by (have hc:=HCV.out wx hx;simp [go_sem,hc])⟩) hS ?_
        simp only [Act.put,List.getElem_toArray,List.getElem_cons_succ,List.getElem_cons_zero,List.setIfInBounds_toArray,List.set_cons_zero,List.set_cons_succ]
        refine wpAnyH_take (i:=5) (v:=.pointer (some ⟨bv,offv + k * 32,none⟩)) rfl (by kernel_rfl) (by kernel_rfl) (by kernel_rfl) (fun _ _ _ h => h) (Or.inl ⟨by rfl,fun wx hx => by (simp [go_sem,hlti,k0])⟩) hS ?_
        simp only [Act.put,List.getElem_toArray,List.getElem_cons_succ,List.getElem_cons_zero,List.setIfInBounds_toArray,List.set_cons_zero,List.set_cons_succ]
        refine wpAnyH_take (i:=6) (v:=.agg (cb dv).toArray) rfl (by kernel_rfl) (by kernel_rfl) (by kernel_rfl) (fun _ _ _ h => h) (Or.inl ⟨by rfl,fun wx hx => by exact load_run 39 _ rfl _ _ rfl (cb dv) _ (HRV.out wx hx) Tryz.underlying39 rfl (by rw [cb_len,HV32.out];exact info_digest)⟩) hS ?_
        simp only [Act.put,List.getElem_toArray,List.getElem_cons_succ,List.getElem_cons_zero,List.setIfInBounds_toArray,List.set_cons_zero,List.set_cons_succ]
        have hnb:=NewB.of dv yV
        have hn1:=hI.next hnb.below
        obtain ⟨aV,cV,hxV⟩:=hI.own.v.slice
        obtain ⟨nV,HNV⟩:∃ z:Nat,Hid (z = (((l.take k).filter fun q => bitI q.1 i == p).map (·.2)).length):=⟨_,rfl⟩
        rw [← HNV.out] at hxV
        have hce:yV.cell? ⟨go,1,none⟩ = some xv:=hI.out.cell 1
        have hce2:(yV.alloc (.cells (cb dv).toArray 39)).cell? ⟨go,1,none⟩ = some xv:=hn1.out.cell 1
        subst hxV
        refine wpAnyH_comm 1 7 (.slice aV nV cV) (.slice (some ⟨yV.heap.size,0,none⟩) 1 1) (yV.alloc (.cells (cb dv).toArray 39)) (by kernel_rfl) rfl rfl (by rfl) (by rfl) (by rfl) (by rfl) (by simp [go_sem,hce]) (buildD _ _ _ rfl dv HV32.out rfl _) (by simp [go_sem,hce2]) (buildD _ _ _ rfl dv HV32.out rfl _) (by kernel_rfl) (by kernel_rfl) (by rfl) (by rfl) hS hn1.bel ?_
        simp only [Act.put,List.getElem_toArray,List.getElem_cons_succ,List.getElem_cons_zero,List.setIfInBounds_toArray,List.set_cons_zero,List.set_cons_succ]
        have hI2:=hn1
        have HU:Hid (Blk (yV.alloc (.cells (cb dv).toArray 39)) yV.heap.size (cb dv) 39):=hnb.blk
        clear hn1 hnb hce hce2 hS hI
        refine wpAnyH_law 8 (by kernel_rfl) rfl (by rfl) (wp_appendG (.tmp 37) (.tmp 43) (go + 1) (.slice aV nV cV) _ dv yV.heap.size hI2.own.v HU.out HV32.out (by rw [List.length_map];exact HFL.out) hI2.out.lt rfl rfl rfl ?_)
        intro zV qV hoV hgV
        have hI:=hI2.addV hoV hgV
        have hsq:Below go wG qV:=hI2.bel.trans (hgV.below.mono (Nat.le_succ _))
        have hbq:=hI2.out.grow hgV (fun j hj => (hI2.own.v.lt j hj).1) (Nat.lt_succ_self _)
        have hcq:=hbq.cell 1
        have hfq:=hbq.frozen 1
        obtain ⟨aV2,cV2,hxV⟩:=hoV.slice
        obtain ⟨nV2,HNV2⟩:∃ z:Nat,Hid (z = (((l.take k).filter fun q => bitI q.1 i == p).map (·.2) ++ [dv]).length):=⟨_,rfl⟩
        rw [← HNV2.out] at hxV
        subst hxV
        refine ⟨hsq,?_⟩
        simp only [Act.put,List.getElem_toArray,List.getElem_cons_succ,List.getElem_cons_zero,List.setIfInBounds_toArray,List.set_cons_zero,List.set_cons_succ]
        refine wpAnyH_take (i:=9) (v:=.pointer (some ⟨go,1,none⟩)) rfl (by kernel_rfl) (by kernel_rfl) (by kernel_rfl) (fun _ _ _ h => h) (Or.inl ⟨by rfl,fun wx hx => by simp [go_sem]⟩) hsq ?_
        simp only [Act.put,List.getElem_toArray,List.getElem_cons_succ,List.getElem_cons_zero,List.setIfInBounds_toArray,List.set_cons_zero,List.set_cons_succ]
        refine wpAnyH_skip 10 (qV.setCell ⟨go,1,none⟩ (.slice aV2 nV2 cV2)) (by kernel_rfl) rfl (by rfl) (by simp [go_sem,hcq,hfq]) hI.bel ?_
        simp only [Act.put,List.getElem_toArray,List.getElem_cons_succ,List.getElem_cons_zero]
        refine wpAnyH_done (by kernel_rfl) ?_ _
        clear hoV hgV hsq hbq hcq hfq hI2 HU
        generalize qV.setCell ⟨go,1,none⟩ (.slice aV2 nV2 cV2) = WV at *
        have HJ:Hid (Lv wG go xa2 (.slice aV2 nV2 cV2) (((l.take (k + 1)).filter fun q => bitI q.1 i == p).map (·.1)) (((l.take (k + 1)).filter fun q => bitI q.1 i == p).map (·.2)) WV):=by
          show Lv _ _ _ _ _ _ _
          rw [HTK.out]
          simpa using hI
        clear hI
        go_wp2
        go_roundw
        case rel => exact ⟨k + 1,_,_,by omega,by simp,HJ.out⟩
        case measure => simp [intOf];omega
      · have hpo2:(p == on) = false:=by simpa using hpo
        have HPO:Hid ((p == on) = false):=hpo2
        go_wp2_with (first
          | (with_reducible refine wpSeq_loadAt (.tmp 20) ba (offa + k * 32) da ?_ ?_ ?_ ?_ ?_ ?_
             · exact HA32.out
             · exact HRW.out
             · with_reducible rfl
             · rfl
             · rfl)
          | (go_at_call 45;refine (sBit_any da HA32.out _ _).mono ?_;rintro e w7 ⟨rfl,hb7⟩;rw [HP.out]
             have HJ:Hid (Lv wG go xa xv (((l.take k).filter fun p => bitI p.1 i == on).map (·.1)) (((l.take k).filter fun p => bitI p.1 i == on).map (·.2)) w7):=HI.out.next hb7
             clear hb7 ca HRW HI))
        have HJ2:Hid (Lv wG go xa xv (((l.take (k + 1)).filter fun p => bitI p.1 i == on).map (·.1)) (((l.take (k + 1)).filter fun p => bitI p.1 i == on).map (·.2)) w7):=by
          show Lv _ _ _ _ _ _ _
          rw [HTK.out,HPO.out]
          simpa using HJ.out
        go_roundw
        case rel => exact ⟨k + 1,_,_,by omega,by simp,HJ2.out⟩
        case measure => simp [intOf];omega
    · have hkn:k = n:=by omega
      subst hkn
      have ht:l.take k = l:=by rw [HN.out];exact List.take_length
      have hI2:=HI.out
      rw [ht] at hI2
      obtain ⟨adx,cpx,hxa⟩:=hI2.own.a.slice
      obtain ⟨adw,cpw,hxv⟩:=hI2.own.v.slice
      obtain ⟨nx,HNX⟩:∃ z:Nat,Hid (z = ((l.filter fun p => bitI p.1 i == on).map (·.1)).length):=⟨_,rfl⟩
      obtain ⟨nw,HNW⟩:∃ z:Nat,Hid (z = ((l.filter fun p => bitI p.1 i == on).map (·.2)).length):=⟨_,rfl⟩
      rw [← HNX.out] at hxa
      rw [← HNW.out] at hxv
      subst hxa hxv
      have HE:Hid (Lv wG go (.slice adx nx cpx) (.slice adw nw cpw) ((l.filter fun p => bitI p.1 i == on).map (·.1)) ((l.filter fun p => bitI p.1 i == on).map (·.2)) wr):=hI2
      have d0:wr.cell? ⟨go,0,none⟩ = some (.slice adx nx cpx):=hI2.out.cell 0
      have d1:wr.cell? ⟨go,1,none⟩ = some (.slice adw nw cpw):=hI2.out.cell 1
      have hr:=HRB.out.below hI2.bel (by have:=HSZ.out;omega)
      have r0:wr.cell? ⟨gl + 1,0,none⟩ = some (.slice none 0 0):=hr.cell 0
      have r1:wr.cell? ⟨gl + 1,1,none⟩ = some (.slice none 0 0):=hr.cell 1
      have q0:wr.frozen? ⟨gl + 1,0,none⟩ = false:=hr.frozen 0
      have q1:wr.frozen? ⟨gl + 1,1,none⟩ = false:=hr.frozen 1
      have HRR:Hid (Blk wr (gl + 1) [nilV,nilV] 43):=hr
      clear ht hI2 hr HI
      go_wp2
      have hB6:Blk ((wr.setCell ⟨gl + 1,0,none⟩ (.slice adx nx cpx)).setCell ⟨gl + 1,1,none⟩ (.slice adw nw cpw)) (gl + 1) [.slice adx nx cpx,.slice adw nw cpw] 43:=(HRR.out.set 0 _).set 1 _
      refine bodyPost_ret (v:=.agg [.slice adx nx cpx,.slice adw nw cpw].toArray) (results_cell_row (by rfl) _ _ (gl + 1) 43 _ (0,0) _ rfl hB6 Tryz.underlying43 rfl (by kernel_rfl)) rfl ⟨_,_,rfl,?_,?_⟩
      · refine (HE.out.own.keep fun j h1 _ => ?_).mono (by have h1:=HSZ.out;have h2:=HGL.out;omega)
        rw [Below.heap_setCell _ _ _ _ (by show j ≠ gl + 1;have:=HSZ.out;omega),Below.heap_setCell _ _ _ _ (by show j ≠ gl + 1;have:=HSZ.out;omega)]
      · exact ((HBW.out.trans (HE.out.bel.mono (by have h1:=HSZ.out;have h2:=HGL.out;omega))).setCell (by show w.heap.size ≤ gl + 1;have:=HGL.out;omega) _).setCell (by show w.heap.size ≤ gl + 1;have:=HGL.out;omega) _
theorem eHalf_b (va vv:Value) (l:List Lf) (d:Nat) (hd:d < 256) (on:Bool) (w:World) (hR:ReadsLf w va vv l) (hl:l.length < 2000000) :
    Calls Tryz.prog 29 #[.agg #[va,vv],.int .i64 (d:Int),.bool on] w fun e w' => ∃ xa xv,e = .returned (.agg #[xa,xv]) ∧ OwnLf w' w.heap.size xa xv ((halfL l d on).map (·.1)) ((halfL l d on).map (·.2)) ∧ Below w.heap.size w w':=by
  have h:=eHalf_any va vv l (d:Int) on w hR hl
  rwa [halfL_is l d hd on] at h
set_option maxHeartbeats 400000 in
theorem rjoin_own (v:Value) (ls:List (List (BitVec 8))) (w:World) (hR:ReadsL w v ls) (hl:ls.flatten.length ≤ 140737488355328) (hn:ls.length < 4611686018427387904) :
    Calls Tryz.prog 46 #[v] w fun e w' => ∃ v',e = .returned v' ∧ OwnB w' w.heap.size v' ls.flatten ∧ Below w.heap.size w w':=by
  have HR:Hid (ReadsL w v ls):=hR
  obtain ⟨ad,cap,hv,hcap,_,_⟩:=hR
  obtain ⟨n,HNN⟩:∃ n,Hid (n = ls.length):=⟨_,rfl⟩
  rw [← HNN.out] at hv hcap hn
  subst hv
  go_enter Tryz.func46,Tryz.ntmps46
  go_wp2
  go_loopw [3,4] (fun u i wr => ∃ k:Nat,k ≤ n ∧ i = .int .i64 k ∧ RpInv w (ls.take k).flatten u wr) (fun _ i _ => n - (intOf i).toNat)
  case atStart => exact ⟨0,by omega,rfl,OwnB.nil _ _,Below.refl _ _⟩
  case round =>
    obtain ⟨k,hk,rfl,hI⟩:=hrel
    have HI:Hid (RpInv w (ls.take k).flatten u3 wr):=hI
    by_cases hlt:k < n
    · obtain ⟨ad',cap',hv',_,_,hx⟩:=HR.out.below hI.bel
      rw [← HNN.out] at hv' hx
      simp only [Value.slice.injEq,true_and] at hv'
      obtain ⟨rfl,rfl⟩:=hv'
      obtain ⟨b,off,rfl,hx2⟩:=hx (by omega)
      obtain ⟨vj,cj,hj⟩:=hx2 k hlt
      have HJ:Hid (Reads wr vj (ls.getD k [])):=hj
      have HF:Hid ((ls.take (k + 1)).flatten = (ls.take k).flatten ++ ls.getD k []):=flat_take ls k (by rw [← HNN.out];exact hlt)
      have HL:Hid ((ls.take k).flatten.length + (ls.getD k []).length ≤ 140737488355328):=by
        have h1:=flat_le ls (k + 1)
        rw [HF.out,List.length_append] at h1
        exact Nat.le_trans h1 hl
      clear hx hx2 hj hI
      go_wp2_with (at_builtin;refine wpList_appendB rfl (.tmp 11) (.tmp 15) rfl w.heap.size _ (ls.take k).flatten rfl HI.out.own _ (ls.getD k []) rfl HJ.out HL.out HI.out.bel.size ?_;intro v2 w2 hown2 hb2 _)
      have hJ:RpInv w (ls.take (k + 1)).flatten v2 w2:=⟨by rw [HF.out];exact hown2,HI.out.bel.trans hb2⟩
      clear hown2 hb2 HI
      go_roundw
      case rel => exact ⟨k + 1,by omega,by go_num,hJ⟩
      case measure => simp [intOf];omega
    · have hkn:k = n:=by omega
      subst hkn
      have HV:Hid (OwnB wr w.heap.size u3 ls.flatten):=by
        have:=hI.own
        rw [HNN.out,List.take_of_length_le (Nat.le_refl _)] at this
        exact this
      have hbel:=hI.bel
      clear hI HI HR
      go_wp2
      go_ret
      exact ⟨_,rfl,HV.out,hbel⟩
theorem slice_dig17 (g o:Nat) (w:World):(Instr.sliceAt 39 (.pointer (some ⟨g,o,none⟩)) none none none).run Tryz.prog w = .ok (.slice (some ⟨g,o,none⟩) 32 32) w:=by kernel_rfl
theorem ownB_mono17 {w:World} {base B:Nat} {v:Value} {l:By} (h:OwnB w base v l) (hB:B ≤ base):OwnB w B v l:=by
  rcases h with ⟨h1,⟨rfl,h2⟩ | ⟨g,cap,cur,rfl,hg,hh⟩⟩
  · exact ⟨h1,Or.inl ⟨rfl,h2⟩⟩
  · exact ⟨h1,Or.inr ⟨g,cap,cur,rfl,Nat.le_trans hB hg,hh⟩⟩
theorem reads_range {w:World} {b off:Nat} {l:By} (hl:l.length = 32) (h:w.rangeAt b off (cb l)):Reads w (.slice (some ⟨b,off,none⟩) 32 32) l:=
  ⟨_,32,by rw [hl],by rw [hl];exact Nat.le_refl _,(fun e => by cases e),fun _ => ⟨b,off,rfl,fun j hj => h j _ (cb_get l j hj)⟩⟩
theorem rangeLf17 {w:World} {g:Nat} {a b:Value} (h0:w.cell? ⟨g,0,none⟩ = some a) (h1:w.cell? ⟨g,1,none⟩ = some b):w.rangeAt g 0 [a,b]:=fun j v hj => by
  match j,hj with
  | 0,hj => cases hj;exact h0
  | 1,hj => cases hj;exact h1
theorem whole_small {d:Nat} {l:List Lf} (hd:d ≤ 256) (hF:Fits l d) (hl:l.length < 2000000):(wholeL d l).length ≤ 2000000000:=by
  have h:=(whole_le (256 - d) d l (by omega) hF).1
  have h2:l.length * (64 + 2 * (256 - d)) ≤ 2000000 * 576:=Nat.mul_le_mul (by omega) (by omega)
  omega
set_option maxRecDepth 100000 in
set_option maxHeartbeats 8000000 in
theorem eWhole_step (l:List Lf) (d:Nat) (va vv:Value) (w:World) (hF:Fits l d) (hR:ReadsLf w va vv l) (hl:l.length < 2000000) (hd:d ≤ 256)
    (ih:2 ≤ l.length → ∀ on xa xv W,ReadsLf W xa xv (halfL l d on) → Calls Tryz.prog 28 #[.agg #[xa,xv],.int .i64 ((d + 1:Nat):Int)] W fun e w' => ∃ v,e = .returned v ∧ OwnB w' W.heap.size v (wholeL (d + 1) (halfL l d on)) ∧ Below W.heap.size W w') :
    Calls Tryz.prog 28 #[.agg #[va,vv],.int .i64 (d:Int)] w fun e w' => ∃ v,e = .returned v ∧ OwnB w' w.heap.size v (wholeL d l) ∧ Below w.heap.size w w':=by
  have HF:Hid (Fits l d):=hF
  have HR:Hid (ReadsLf w va vv l):=hR
  have HL:Hid (l.length < 2000000):=hl
  have HDD:Hid (d ≤ 256):=hd
  have HIH:=id ih
  obtain ⟨t,HTT⟩:∃ z,Hid (z = wholeL d l):=⟨_,rfl⟩
  rw [← HTT.out]
  obtain ⟨n,HN⟩:∃ n,Hid (n = l.length):=⟨_,rfl⟩
  obtain ⟨ada,cpa,hva⟩:=hR.1.slice
  obtain ⟨adv,cpv,hvv⟩:=hR.2.slice
  rw [List.length_map,← HN.out] at hva hvv
  subst hva hvv
  clear hR hl hF hd ih
  obtain ⟨gl,HGL⟩:∃ g,Hid (g = w.heap.size):=⟨_,rfl⟩
  obtain ⟨wB,HWB⟩:∃ z,Hid (z = w.alloc (.cells [Value.slice ada n cpa,.slice adv n cpv].toArray 43)):=⟨_,rfl⟩
  have HLB:Hid (Blk wB gl [Value.slice ada n cpa,.slice adv n cpv] 43):=by rw [HWB.out,HGL.out];exact Blk.new w _ _
  have HBW:Hid (Below w.heap.size w wB):=by rw [HWB.out];exact below_alloc w _
  have HSB:Hid (wB.heap.size = gl + 1):=by show _ = _;rw [HWB.out,HGL.out];simp
  have HB1:Hid (gl + 1 ≤ wB.heap.size):=by show _ ≤ _;rw [HSB.out];exact Nat.le_refl _
  have HOUT:Hid (∀ wx,Below (gl + 1) wB wx → Below w.heap.size w wx):=fun wx hx => HBW.out.trans (hx.mono (by have:=HGL.out;omega))
  have HSZ:Hid (∀ wx,Below (gl + 1) wB wx → w.heap.size ≤ wx.heap.size):=fun wx hx => (HOUT.out wx hx).size
  have HCA:Hid (∀ wx,Below (gl + 1) wB wx → wx.cell? ⟨gl,0,none⟩ = some (.slice ada n cpa)):=fun wx hx => (HLB.out.below hx (Nat.lt_succ_self _)).cell 0
  have HCV:Hid (∀ wx,Below (gl + 1) wB wx → wx.cell? ⟨gl,1,none⟩ = some (.slice adv n cpv)):=fun wx hx => (HLB.out.below hx (Nat.lt_succ_self _)).cell 1
  have HRS:Hid (∀ wx,Below (gl + 1) wB wx → ReadsLf wx (.slice ada n cpa) (.slice adv n cpv) l):=fun wx hx => HR.out.below (HOUT.out wx hx)
  go_enter Tryz.func28,Tryz.ntmps28
  go_upto_region 1 with fail
  rw [← HWB.out]
  have e0:(some ⟨w.heap.size,0,none⟩:Option Addr) = some ⟨gl,0,none⟩:=by rw [HGL.out]
  simp only [e0]
  clear e0
  have HS:Hid (Below (gl + 1) wB wB):=Below.refl _ _
  have ca:wB.cell? ⟨gl,0,none⟩ = some (.slice ada n cpa):=HCA.out wB HS.out
  by_cases h0:n = 0
  · subst h0
    have hnil:l = []:=List.length_eq_zero_iff.1 HN.out.symm
    have HRE:Hid (t = [0]):=by show _ = _;rw [HTT.out,hnil,whole_few (by simp)];rfl
    clear hnil
    go_wp2_with (first
      | (with_reducible refine wpSeq_buildY 0 (.const (.int .u8 0)) ?_ ?_ ?_ ?_
         · rfl
         · rfl
         · rfl
         intro g1 w1 hy1 hg1 hb1
         have HF1:Hid (OwnB w1 w.heap.size (.slice (some ⟨g1,0,none⟩) 1 1) [0] ∧ Below w.heap.size w w1):=⟨blk_own_y hy1 (Nat.le_trans (HSZ.out _ HS.out) hg1),HBW.out.trans (hb1.mono HBW.out.size)⟩
         clear hy1 hg1 hb1))
    go_ret
    exact ⟨_,rfl,by rw [HRE.out];exact HF1.out.1,HF1.out.2⟩
  · by_cases h1:n = 1
    · subst h1
      obtain ⟨p,hp⟩:∃ p,l = [p]:=List.length_eq_one_iff.1 HN.out.symm
      have HRE:Hid (t = 1 :: (p.1 ++ p.2)):=by show _ = _;rw [HTT.out,hp,whole_few (by simp)];rfl
      have HP:Hid (p.1.length = 32 ∧ p.2.length = 32):=HR.out.ok p (by rw [hp];simp)
      have hA:=HR.out.1
      have hV:=HR.out.2
      rw [hp] at hA hV
      obtain ⟨ba,offa,cpa',hva,hya⟩:=hA.at (by simp)
      obtain ⟨bv,offv,cpv',hvv,hyv⟩:=hV.at (by simp)
      simp only [Value.slice.injEq] at hva hvv
      obtain ⟨rfl,hq1,rfl⟩:=hva
      obtain ⟨rfl,hq2,rfl⟩:=hvv
      clear hq1 hq2
      obtain ⟨da,HDA⟩:∃ d,Hid (d = p.1):=⟨_,rfl⟩
      obtain ⟨dv,HDV⟩:∃ d,Hid (d = p.2):=⟨_,rfl⟩
      rw [← HDA.out,← HDV.out] at HRE HP
      have HRA:Hid (∀ wx,Below (gl + 1) wB wx → Reads wx (.slice (some ⟨ba,offa,none⟩) 32 32) da):=fun wx hx => by
        have h:=hya 0 (by simp)
        simp only [List.map_cons,List.map_nil,List.getD_cons_zero,Nat.zero_mul,Nat.add_zero,← HDA.out] at h
        have hb:=rangeAt_lt h HP.out.1
        exact reads_range HP.out.1 (rangeAt_below (rangeAt_below h HBW.out hb) hx (by have h2:=HGL.out;omega))
      have HRV:Hid (∀ wx,Below (gl + 1) wB wx → Reads wx (.slice (some ⟨bv,offv,none⟩) 32 32) dv):=fun wx hx => by
        have h:=hyv 0 (by simp)
        simp only [List.map_cons,List.map_nil,List.getD_cons_zero,Nat.zero_mul,Nat.add_zero,← HDV.out] at h
        have hb:=rangeAt_lt h HP.out.2
        exact reads_range HP.out.2 (rangeAt_below (rangeAt_below h HBW.out hb) hx (by have h2:=HGL.out;omega))
      clear hya hyv hA hV hp
      go_wp2_with fail
      refine wp_region_held_drew (S:=Below (gl + 1) wB) (by kernel_rfl) HS.out.drew ?_
      intro hS
      clear HS ca
      change wpAnyH _ _ _ _ _ _ _ _ (World.drew wB)
      generalize World.drew wB = wd at *
      refine wpAnyH_take (i:=1) (v:=.pointer (some ⟨gl,0,none⟩)) rfl (by kernel_rfl) (by kernel_rfl) (by kernel_rfl) (fun _ _ _ h => h) (Or.inl ⟨by rfl,fun wx hx => by simp [go_sem]⟩) hS ?_
      simp only [Act.put,List.getElem_toArray,List.getElem_cons_succ,List.getElem_cons_zero,List.setIfInBounds_toArray,List.set_cons_zero,List.set_cons_succ]
      refine wpAnyH_take (i:=5) (v:=.pointer (some ⟨gl,1,none⟩)) rfl (by kernel_rfl) (by kernel_rfl) (by kernel_rfl) (fun _ _ _ h => h) (Or.inl ⟨by rfl,fun wx hx => by simp [go_sem]⟩) hS ?_
      simp only [Act.put,List.getElem_toArray,List.getElem_cons_succ,List.getElem_cons_zero,List.setIfInBounds_toArray,List.set_cons_zero,List.set_cons_succ]
      refine wpAnyH_take (i:=2) (v:=.slice (some ⟨ba,offa,none⟩) 1 cpa) rfl (by kernel_rfl) (by kernel_rfl) (by kernel_rfl) (fun _ _ _ h => h) (Or.inl ⟨by rfl,fun wx hx => by (have hc:=HCA.out wx hx;simp [go_sem,hc])⟩) hS ?_
      simp only [Act.put,List.getElem_toArray,List.getElem_cons_succ,List.getElem_cons_zero,List.setIfInBounds_toArray,List.set_cons_zero,List.set_cons_succ]
      refine wpAnyH_take (i:=6) (v:=.slice (some ⟨bv,offv,none⟩) 1 cpv) rfl (by kernel_rfl) (by kernel_rfl) (by kernel_rfl) (fun _ _ _ h => h) (Or.inl ⟨by rfl,fun wx hx => by (have hc:=HCV.out wx hx;simp [go_sem,hc])⟩) hS ?_
      simp only [Act.put,List.getElem_toArray,List.getElem_cons_succ,List.getElem_cons_zero,List.setIfInBounds_toArray,List.set_cons_zero,List.set_cons_succ]
      refine wpAnyH_take (i:=3) (v:=.pointer (some ⟨ba,offa,none⟩)) rfl (by kernel_rfl) (by kernel_rfl) (by kernel_rfl) (fun _ _ _ h => h) (Or.inl ⟨by rfl,fun wx hx => by simp [go_sem]⟩) hS ?_
      simp only [Act.put,List.getElem_toArray,List.getElem_cons_succ,List.getElem_cons_zero,List.setIfInBounds_toArray,List.set_cons_zero,List.set_cons_succ]
      refine wpAnyH_take (i:=7) (v:=.pointer (some ⟨bv,offv,none⟩)) rfl (by kernel_rfl) (by kernel_rfl) (by kernel_rfl) (fun _ _ _ h => h) (Or.inl ⟨by rfl,fun wx hx => by simp [go_sem]⟩) hS ?_
      simp only [Act.put,List.getElem_toArray,List.getElem_cons_succ,List.getElem_cons_zero,List.setIfInBounds_toArray,List.set_cons_zero,List.set_cons_succ]
      refine wpAnyH_take (i:=4) (v:=.slice (some ⟨ba,offa,none⟩) 32 32) rfl (by kernel_rfl) (by kernel_rfl) (by kernel_rfl) (fun _ _ _ h => h) (Or.inl ⟨by rfl,fun wx hx => by simp [execOp,Act.eval,slice_dig17]⟩) hS ?_
      simp only [Act.put,List.getElem_toArray,List.getElem_cons_succ,List.getElem_cons_zero,List.setIfInBounds_toArray,List.set_cons_zero,List.set_cons_succ]
      refine wpAnyH_take (i:=8) (v:=.slice (some ⟨bv,offv,none⟩) 32 32) rfl (by kernel_rfl) (by kernel_rfl) (by kernel_rfl) (fun _ _ _ h => h) (Or.inl ⟨by rfl,fun wx hx => by simp [execOp,Act.eval,slice_dig17]⟩) hS ?_
      simp only [Act.put,List.getElem_toArray,List.getElem_cons_succ,List.getElem_cons_zero,List.setIfInBounds_toArray,List.set_cons_zero,List.set_cons_succ]
      have hba:=below_alloc wd (.cells #[Value.int .u8 1] 5)
      have hy:=reads_val wd 1 1 rfl
      have hSwe:=Sb.more hS HB1.out hba
      refine wpAnyH_step 0 (.slice (some ⟨wd.heap.size,0,none⟩) 1 1) (wd.alloc (.cells #[.int .u8 1] 5)) (by kernel_rfl) rfl (by rfl) (by simp [go_sem]) hSwe ?_
      simp only [Act.put,List.getElem_toArray,List.getElem_cons_zero,List.setIfInBounds_toArray,List.set_cons_zero,List.set_cons_succ]
      clear hS
      have hS:=hSwe
      clear hSwe hba
      generalize wd.alloc (.cells #[Value.int .u8 1] 5) = we at *
      obtain ⟨g0,hg0⟩:∃ z,z = wd.heap.size:=⟨_,rfl⟩
      rw [← hg0] at hy ⊢
      clear hg0
      have hrl:=readsL_three hy (HRA.out we hS) (HRV.out we hS)
      have hba:=below_alloc we (.cells #[.slice (some ⟨g0,0,none⟩) 1 1,.slice (some ⟨ba,offa,none⟩) 32 32,.slice (some ⟨bv,offv,none⟩) 32 32] 48)
      have hS7:=Sb.more hS HB1.out hba
      refine wpAnyH_step 9 (.slice (some ⟨we.heap.size,0,none⟩) 3 3) (we.alloc (.cells #[.slice (some ⟨g0,0,none⟩) 1 1,.slice (some ⟨ba,offa,none⟩) 32 32,.slice (some ⟨bv,offv,none⟩) 32 32] 48)) (by kernel_rfl) rfl (by rfl) (by simp [go_sem]) hS7 ?_
      simp only [Act.put,List.getElem_toArray,List.getElem_cons_succ,List.getElem_cons_zero,List.setIfInBounds_toArray,List.set_cons_zero,List.set_cons_succ]
      generalize we.alloc (.cells #[.slice (some ⟨g0,0,none⟩) 1 1,.slice (some ⟨ba,offa,none⟩) 32 32,.slice (some ⟨bv,offv,none⟩) 32 32] 48) = web at *
      clear hS hba
      refine wpAnyH_enter 10 (by kernel_rfl) rfl (by rfl) (f:=46) (args:=#[.slice (some ⟨we.heap.size,0,none⟩) 3 3]) (by simp [go_sem]) (rjoin_own _ _ web hrl (by simp only [List.flatten_cons,List.flatten_nil,List.append_nil,List.length_append,List.length_cons,List.length_nil];rw [HP.out.1,HP.out.2];omega) (by simp)) ?_
      rintro e wej ⟨v8,rfl,ho8,hb8⟩
      have hS:=Sb.more hS7 HB1.out hb8
      refine ⟨_,rfl,hS,?_⟩
      simp only [Act.put,List.getElem_toArray,List.getElem_cons_succ,List.getElem_cons_zero,List.setIfInBounds_toArray,List.set_cons_zero,List.set_cons_succ]
      refine wpAnyH_take (i:=11) (v:=v8) rfl (by kernel_rfl) (by kernel_rfl) (by kernel_rfl) (fun _ _ _ h => h) (Or.inl ⟨by rfl,fun wx hx => by simp [go_sem]⟩) hS ?_
      simp only [Act.put,List.getElem_toArray,List.getElem_cons_succ,List.getElem_cons_zero,List.setIfInBounds_toArray,List.set_cons_zero,List.set_cons_succ]
      refine wpAnyH_done (by kernel_rfl) ?_ _
      have HO8:Hid (OwnB wej w.heap.size v8 t ∧ Below w.heap.size w wej):=⟨by rw [HRE.out];have h:=ownB_mono17 ho8 (HSZ.out _ hS7);simp only [List.flatten_cons,List.flatten_nil,List.append_nil,List.singleton_append] at h;exact h,HOUT.out _ hS⟩
      clear hS hS7 hb8 ho8 hrl
      go_wp2
      go_ret
      exact ⟨_,rfl,HO8.out.1,HO8.out.2⟩
    · have h2:2 ≤ n:=by omega
      have HN2:Hid (2 ≤ l.length):=by show _ ≤ _;rw [← HN.out];exact h2
      have hn0:¬ ((n:Int) = 0):=by omega
      have hn1:¬ ((n:Int) = 1):=by omega
      have b0:((n:Int) == 0) = false:=by simpa using hn0
      have b1:((n:Int) == 1) = false:=by simpa using hn1
      have HD256:Hid (d < 256):=HF.out.lt HN2.out
      have hI:=HIH HN2.out
      clear HIH
      have HIH:=hI
      clear hI
      obtain ⟨d1,HD1⟩:∃ z,Hid (z = d + 1):=⟨_,rfl⟩
      have hd1:IntKind.i64.wrap ((d:Int) + 1) = (d1:Int):=by rw [IntKind.wrap_i64,HD1.out];have:=HD256.out;omega
      rw [← HD1.out] at HIH
      have HIX:Hid (∀ on xa xv W,ReadsLf W xa xv (halfL l d on) → Calls Tryz.prog 28 #[.agg #[xa,xv],.int .i64 (d1:Int)] W fun e w' => ∃ v,e = .returned v ∧ OwnB w' W.heap.size v (wholeL d1 (halfL l d on)) ∧ Below W.heap.size W w'):=HIH
      clear HIH
      obtain ⟨P,HPP⟩:∃ z,Hid (z = wholeL d1 (halfL l d false)):=⟨_,rfl⟩
      obtain ⟨Q,HQQ⟩:∃ z,Hid (z = wholeL d1 (halfL l d true)):=⟨_,rfl⟩
      have HRE:Hid (t = 2 :: (P ++ Q)):=by show _ = _;rw [HTT.out,whole_two HD256.out HN2.out,HPP.out,HQQ.out,HD1.out]
      have HLN:Hid (P.length + Q.length ≤ 5000000000):=by
        have h1:(wholeL (d + 1) (halfL l d false)).length ≤ 2000000000:=whole_small (by have:=HD256.out;omega) (HF.out.half false) (Nat.lt_of_le_of_lt (half_le l d false) HL.out)
        have h2:(wholeL (d + 1) (halfL l d true)).length ≤ 2000000000:=whole_small (by have:=HD256.out;omega) (HF.out.half true) (Nat.lt_of_le_of_lt (half_le l d true) HL.out)
        show _ ≤ _
        rw [HPP.out,HQQ.out,HD1.out]
        omega
      have HHB:Hid (∀ on W,Below (gl + 1) wB W → Calls Tryz.prog 29 #[.agg #[.slice ada n cpa,.slice adv n cpv],.int .i64 (d:Int),.bool on] W fun e w' => ∃ xa xv,e = .returned (.agg #[xa,xv]) ∧ OwnLf w' W.heap.size xa xv ((halfL l d on).map (·.1)) ((halfL l d on).map (·.2)) ∧ Below W.heap.size W w'):=fun on W hx => eHalf_b _ _ l d HD256.out on W (HRS.out W hx) HL.out
      clear HTT HF HRS HR
      go_wp2_with fail
      refine wp_region_held_drew (S:=Below (gl + 1) wB) (by kernel_rfl) HS.out.drew ?_
      intro hS
      clear HS ca
      change wpAnyH _ _ _ _ _ _ _ _ (World.drew wB)
      generalize World.drew wB = wd at *
      refine wpAnyH_take (i:=1) (v:=.agg #[.slice ada n cpa,.slice adv n cpv]) rfl (by kernel_rfl) (by kernel_rfl) (by kernel_rfl) (fun _ _ _ h => h) (Or.inl ⟨by rfl,fun wx hx => by (have hc:=HCA.out wx hx;have hv:=HCV.out wx hx;exact load_run 43 _ rfl _ _ rfl [Value.slice ada n cpa,.slice adv n cpv] _ (rangeLf17 hc hv) Tryz.underlying43 rfl (by kernel_rfl))⟩) hS ?_
      simp only [Act.put,List.getElem_toArray,List.getElem_cons_succ,List.getElem_cons_zero,List.setIfInBounds_toArray,List.set_cons_zero,List.set_cons_succ]
      refine wpAnyH_take (i:=7) (v:=.agg #[.slice ada n cpa,.slice adv n cpv]) rfl (by kernel_rfl) (by kernel_rfl) (by kernel_rfl) (fun _ _ _ h => h) (Or.inl ⟨by rfl,fun wx hx => by (have hc:=HCA.out wx hx;have hv:=HCV.out wx hx;exact load_run 43 _ rfl _ _ rfl [Value.slice ada n cpa,.slice adv n cpv] _ (rangeLf17 hc hv) Tryz.underlying43 rfl (by kernel_rfl))⟩) hS ?_
      simp only [Act.put,List.getElem_toArray,List.getElem_cons_succ,List.getElem_cons_zero,List.setIfInBounds_toArray,List.set_cons_zero,List.set_cons_succ]
      refine wpAnyH_take (i:=2) (v:=.int .i64 (d:Int)) rfl (by kernel_rfl) (by kernel_rfl) (by kernel_rfl) (fun _ _ _ h => h) (Or.inl ⟨by rfl,fun wx hx => by simp [go_sem]⟩) hS ?_
      simp only [Act.put,List.getElem_toArray,List.getElem_cons_succ,List.getElem_cons_zero,List.setIfInBounds_toArray,List.set_cons_zero,List.set_cons_succ]
      refine wpAnyH_take (i:=4) (v:=.int .i64 (d:Int)) rfl (by kernel_rfl) (by kernel_rfl) (by kernel_rfl) (fun _ _ _ h => h) (Or.inl ⟨by rfl,fun wx hx => by simp [go_sem]⟩) hS ?_
      simp only [Act.put,List.getElem_toArray,List.getElem_cons_succ,List.getElem_cons_zero,List.setIfInBounds_toArray,List.set_cons_zero,List.set_cons_succ]
      refine wpAnyH_take (i:=8) (v:=.int .i64 (d:Int)) rfl (by kernel_rfl) (by kernel_rfl) (by kernel_rfl) (fun _ _ _ h => h) (Or.inl ⟨by rfl,fun wx hx => by simp [go_sem]⟩) hS ?_
      simp only [Act.put,List.getElem_toArray,List.getElem_cons_succ,List.getElem_cons_zero,List.setIfInBounds_toArray,List.set_cons_zero,List.set_cons_succ]
      refine wpAnyH_take (i:=10) (v:=.int .i64 (d:Int)) rfl (by kernel_rfl) (by kernel_rfl) (by kernel_rfl) (fun _ _ _ h => h) (Or.inl ⟨by rfl,fun wx hx => by simp [go_sem]⟩) hS ?_
      simp only [Act.put,List.getElem_toArray,List.getElem_cons_succ,List.getElem_cons_zero,List.setIfInBounds_toArray,List.set_cons_zero,List.set_cons_succ]
      refine wpAnyH_take (i:=5) (v:=.int .i64 (d1:Int)) rfl (by kernel_rfl) (by kernel_rfl) (by kernel_rfl) (fun _ _ _ h => h) (Or.inl ⟨by rfl,fun wx hx => by simp [go_sem,hd1]⟩) hS ?_
      simp only [Act.put,List.getElem_toArray,List.getElem_cons_succ,List.getElem_cons_zero,List.setIfInBounds_toArray,List.set_cons_zero,List.set_cons_succ]
      refine wpAnyH_take (i:=11) (v:=.int .i64 (d1:Int)) rfl (by kernel_rfl) (by kernel_rfl) (by kernel_rfl) (fun _ _ _ h => h) (Or.inl ⟨by rfl,fun wx hx => by simp [go_sem,hd1]⟩) hS ?_
      simp only [Act.put,List.getElem_toArray,List.getElem_cons_succ,List.getElem_cons_zero,List.setIfInBounds_toArray,List.set_cons_zero,List.set_cons_succ]
      refine wpAnyH_pair 0 3 (by kernel_rfl) ?_ ?_
      · have hba:=below_alloc wd (.cells #[Value.int .u8 2] 5)
        have hy:=reads_val wd 2 2 rfl
        have hSwa1:=Sb.more hS HB1.out hba
        refine wpOp_vl 0 (.slice (some ⟨wd.heap.size,0,none⟩) 1 1) (wd.alloc (.cells #[.int .u8 2] 5)) rfl (by rfl) (by simp [go_sem]) ⟨hSwa1,?_⟩
        simp only [Act.put,List.getElem_toArray,List.getElem_cons_zero,List.setIfInBounds_toArray,List.set_cons_zero,List.set_cons_succ]
        clear hS
        have hS:=hSwa1
        clear hSwa1 hba
        generalize wd.alloc (.cells #[Value.int .u8 2] 5) = wa1 at *
        obtain ⟨g0,hg0⟩:∃ z,z = wd.heap.size:=⟨_,rfl⟩
        rw [← hg0] at hy ⊢
        clear hg0
        refine wpAnyH_enter 3 (by kernel_rfl) rfl (by rfl) (f:=29) (args:=#[.agg #[.slice ada n cpa,.slice adv n cpv],.int .i64 (d:Int),.bool false]) (by simp [go_sem]) (HHB.out false wa1 hS) ?_
        rintro e wc2 ⟨xaA,xvA,rfl,ho,hb⟩
        have hA:=ho.reads
        clear ho
        have hS2:=Sb.more hS HB1.out hb
        refine ⟨_,rfl,hS2,?_⟩
        simp only [Act.put,List.getElem_toArray,List.getElem_cons_succ,List.getElem_cons_zero,List.setIfInBounds_toArray,List.set_cons_zero,List.set_cons_succ]
        clear hS
        have hS:=hS2
        clear hS2
        replace hy:=hy.below hb
        clear hb
        refine wpAnyH_enter 6 (by kernel_rfl) rfl (by rfl) (f:=28) (args:=#[.agg #[xaA,xvA],.int .i64 (d1:Int)]) (by simp [go_sem]) (HIX.out false xaA xvA wc2 hA) ?_
        rintro e wc3 ⟨vz,rfl,ho,hb⟩
        rw [← HPP.out] at ho
        obtain ⟨a1,c1,rfl⟩:=ho.formP
        have hp:=ho.reads
        clear ho hA
        have hS2:=Sb.more hS HB1.out hb
        refine ⟨_,rfl,hS2,?_⟩
        simp only [Act.put,List.getElem_toArray,List.getElem_cons_succ,List.getElem_cons_zero,List.setIfInBounds_toArray,List.set_cons_zero,List.set_cons_succ]
        clear hS
        have hS:=hS2
        clear hS2
        replace hy:=hy.below hb
        clear hb
        refine wpAnyH_enter 9 (by kernel_rfl) rfl (by rfl) (f:=29) (args:=#[.agg #[.slice ada n cpa,.slice adv n cpv],.int .i64 (d:Int),.bool true]) (by simp [go_sem]) (HHB.out true wc3 hS) ?_
        rintro e wc4 ⟨xaB,xvB,rfl,ho,hb⟩
        have hB:=ho.reads
        clear ho
        have hS2:=Sb.more hS HB1.out hb
        refine ⟨_,rfl,hS2,?_⟩
        simp only [Act.put,List.getElem_toArray,List.getElem_cons_succ,List.getElem_cons_zero,List.setIfInBounds_toArray,List.set_cons_zero,List.set_cons_succ]
        clear hS
        have hS:=hS2
        clear hS2
        replace hy:=hy.below hb
        replace hp:=hp.below hb
        clear hb
        refine wpAnyH_enter 12 (by kernel_rfl) rfl (by rfl) (f:=28) (args:=#[.agg #[xaB,xvB],.int .i64 (d1:Int)]) (by simp [go_sem]) (HIX.out true xaB xvB wc4 hB) ?_
        rintro e wc5 ⟨vz,rfl,ho,hb⟩
        rw [← HQQ.out] at ho
        obtain ⟨a2,c2,rfl⟩:=ho.formP
        have hq:=ho.reads
        clear ho hB
        have hS2:=Sb.more hS HB1.out hb
        refine ⟨_,rfl,hS2,?_⟩
        simp only [Act.put,List.getElem_toArray,List.getElem_cons_succ,List.getElem_cons_zero,List.setIfInBounds_toArray,List.set_cons_zero,List.set_cons_succ]
        clear hS
        have hS:=hS2
        clear hS2
        replace hy:=hy.below hb
        replace hp:=hp.below hb
        clear hb
        have hrl:=readsL_three hy hp hq
        have hba:=below_alloc wc5 (.cells #[.slice (some ⟨g0,0,none⟩) 1 1,.slice a1 P.length c1,.slice a2 Q.length c2] 48)
        have hS7:=Sb.more hS HB1.out hba
        refine wpAnyH_step 13 (.slice (some ⟨wc5.heap.size,0,none⟩) 3 3) (wc5.alloc (.cells #[.slice (some ⟨g0,0,none⟩) 1 1,.slice a1 P.length c1,.slice a2 Q.length c2] 48)) (by kernel_rfl) rfl (by rfl) (by simp [go_sem]) hS7 ?_
        simp only [Act.put,List.getElem_toArray,List.getElem_cons_succ,List.getElem_cons_zero,List.setIfInBounds_toArray,List.set_cons_zero,List.set_cons_succ]
        generalize wc5.alloc (.cells #[.slice (some ⟨g0,0,none⟩) 1 1,.slice a1 P.length c1,.slice a2 Q.length c2] 48) = wc5b at *
        clear hS hba
        refine wpAnyH_enter 14 (by kernel_rfl) rfl (by rfl) (f:=46) (args:=#[.slice (some ⟨wc5.heap.size,0,none⟩) 3 3]) (by simp [go_sem]) (rjoin_own _ _ wc5b hrl (by simp only [List.flatten_cons,List.flatten_nil,List.append_nil,List.length_append,List.length_cons,List.length_nil];have:=HLN.out;omega) (by simp)) ?_
        rintro e wc5j ⟨v8,rfl,ho8,hb8⟩
        have hS:=Sb.more hS7 HB1.out hb8
        refine ⟨_,rfl,hS,?_⟩
        simp only [Act.put,List.getElem_toArray,List.getElem_cons_succ,List.getElem_cons_zero,List.setIfInBounds_toArray,List.set_cons_zero,List.set_cons_succ]
        refine wpAnyH_take (i:=15) (v:=v8) rfl (by kernel_rfl) (by kernel_rfl) (by kernel_rfl) (fun _ _ _ h => h) (Or.inl ⟨by rfl,fun wx hx => by simp [go_sem]⟩) hS ?_
        simp only [Act.put,List.getElem_toArray,List.getElem_cons_succ,List.getElem_cons_zero,List.setIfInBounds_toArray,List.set_cons_zero,List.set_cons_succ]
        refine wpAnyH_done (by kernel_rfl) ?_ _
        have HO8:Hid (OwnB wc5j w.heap.size v8 t ∧ Below w.heap.size w wc5j):=⟨by rw [HRE.out];have h:=ownB_mono17 ho8 (HSZ.out _ hS7);simp only [List.flatten_cons,List.flatten_nil,List.append_nil,List.singleton_append] at h;exact h,HOUT.out _ hS⟩
        clear hS hS7 hb8 ho8 hrl
        go_wp2
        go_ret
        exact ⟨_,rfl,HO8.out.1,HO8.out.2⟩
      · refine wpOp_en 3 (by rfl) (by rfl) (f:=29) (args:=#[.agg #[.slice ada n cpa,.slice adv n cpv],.int .i64 (d:Int),.bool false]) (by simp [go_sem]) (HHB.out false wd hS) ?_
        rintro e wc6 ⟨xaA,xvA,rfl,ho,hb⟩
        have hA:=ho.reads
        clear ho
        have hS2:=Sb.more hS HB1.out hb
        refine ⟨_,rfl,hS2,?_⟩
        simp only [Act.put,List.getElem_toArray,List.getElem_cons_succ,List.getElem_cons_zero,List.setIfInBounds_toArray,List.set_cons_zero,List.set_cons_succ]
        clear hS
        have hS:=hS2
        clear hS2
        clear hb
        refine wpAnyH_pair 0 6 (by kernel_rfl) ?_ ?_
        · have hba:=below_alloc wc6 (.cells #[Value.int .u8 2] 5)
          have hy:=reads_val wc6 2 2 rfl
          have hSwa7:=Sb.more hS HB1.out hba
          refine wpOp_vl 0 (.slice (some ⟨wc6.heap.size,0,none⟩) 1 1) (wc6.alloc (.cells #[.int .u8 2] 5)) rfl (by rfl) (by simp [go_sem]) ⟨hSwa7,?_⟩
          simp only [Act.put,List.getElem_toArray,List.getElem_cons_zero,List.setIfInBounds_toArray,List.set_cons_zero,List.set_cons_succ]
          replace hA:=hA.below hba
          clear hS
          have hS:=hSwa7
          clear hSwa7 hba
          generalize wc6.alloc (.cells #[Value.int .u8 2] 5) = wa7 at *
          obtain ⟨g0,hg0⟩:∃ z,z = wc6.heap.size:=⟨_,rfl⟩
          rw [← hg0] at hy ⊢
          clear hg0
          refine wpAnyH_enter 6 (by kernel_rfl) rfl (by rfl) (f:=28) (args:=#[.agg #[xaA,xvA],.int .i64 (d1:Int)]) (by simp [go_sem]) (HIX.out false xaA xvA wa7 hA) ?_
          rintro e wc8 ⟨vz,rfl,ho,hb⟩
          rw [← HPP.out] at ho
          obtain ⟨a1,c1,rfl⟩:=ho.formP
          have hp:=ho.reads
          clear ho hA
          have hS2:=Sb.more hS HB1.out hb
          refine ⟨_,rfl,hS2,?_⟩
          simp only [Act.put,List.getElem_toArray,List.getElem_cons_succ,List.getElem_cons_zero,List.setIfInBounds_toArray,List.set_cons_zero,List.set_cons_succ]
          clear hS
          have hS:=hS2
          clear hS2
          replace hy:=hy.below hb
          clear hb
          refine wpAnyH_enter 9 (by kernel_rfl) rfl (by rfl) (f:=29) (args:=#[.agg #[.slice ada n cpa,.slice adv n cpv],.int .i64 (d:Int),.bool true]) (by simp [go_sem]) (HHB.out true wc8 hS) ?_
          rintro e wc9 ⟨xaB,xvB,rfl,ho,hb⟩
          have hB:=ho.reads
          clear ho
          have hS2:=Sb.more hS HB1.out hb
          refine ⟨_,rfl,hS2,?_⟩
          simp only [Act.put,List.getElem_toArray,List.getElem_cons_succ,List.getElem_cons_zero,List.setIfInBounds_toArray,List.set_cons_zero,List.set_cons_succ]
          clear hS
          have hS:=hS2
          clear hS2
          replace hy:=hy.below hb
          replace hp:=hp.below hb
          clear hb
          refine wpAnyH_enter 12 (by kernel_rfl) rfl (by rfl) (f:=28) (args:=#[.agg #[xaB,xvB],.int .i64 (d1:Int)]) (by simp [go_sem]) (HIX.out true xaB xvB wc9 hB) ?_
          rintro e wc10 ⟨vz,rfl,ho,hb⟩
          rw [← HQQ.out] at ho
          obtain ⟨a2,c2,rfl⟩:=ho.formP
          have hq:=ho.reads
          clear ho hB
          have hS2:=Sb.more hS HB1.out hb
          refine ⟨_,rfl,hS2,?_⟩
          simp only [Act.put,List.getElem_toArray,List.getElem_cons_succ,List.getElem_cons_zero,List.setIfInBounds_toArray,List.set_cons_zero,List.set_cons_succ]
          clear hS
          have hS:=hS2
          clear hS2
          replace hy:=hy.below hb
          replace hp:=hp.below hb
          clear hb
          have hrl:=readsL_three hy hp hq
          have hba:=below_alloc wc10 (.cells #[.slice (some ⟨g0,0,none⟩) 1 1,.slice a1 P.length c1,.slice a2 Q.length c2] 48)
          have hS7:=Sb.more hS HB1.out hba
          refine wpAnyH_step 13 (.slice (some ⟨wc10.heap.size,0,none⟩) 3 3) (wc10.alloc (.cells #[.slice (some ⟨g0,0,none⟩) 1 1,.slice a1 P.length c1,.slice a2 Q.length c2] 48)) (by kernel_rfl) rfl (by rfl) (by simp [go_sem]) hS7 ?_
          simp only [Act.put,List.getElem_toArray,List.getElem_cons_succ,List.getElem_cons_zero,List.setIfInBounds_toArray,List.set_cons_zero,List.set_cons_succ]
          generalize wc10.alloc (.cells #[.slice (some ⟨g0,0,none⟩) 1 1,.slice a1 P.length c1,.slice a2 Q.length c2] 48) = wc10b at *
          clear hS hba
          refine wpAnyH_enter 14 (by kernel_rfl) rfl (by rfl) (f:=46) (args:=#[.slice (some ⟨wc10.heap.size,0,none⟩) 3 3]) (by simp [go_sem]) (rjoin_own _ _ wc10b hrl (by simp only [List.flatten_cons,List.flatten_nil,List.append_nil,List.length_append,List.length_cons,List.length_nil];have:=HLN.out;omega) (by simp)) ?_
          rintro e wc10j ⟨v8,rfl,ho8,hb8⟩
          have hS:=Sb.more hS7 HB1.out hb8
          refine ⟨_,rfl,hS,?_⟩
          simp only [Act.put,List.getElem_toArray,List.getElem_cons_succ,List.getElem_cons_zero,List.setIfInBounds_toArray,List.set_cons_zero,List.set_cons_succ]
          refine wpAnyH_take (i:=15) (v:=v8) rfl (by kernel_rfl) (by kernel_rfl) (by kernel_rfl) (fun _ _ _ h => h) (Or.inl ⟨by rfl,fun wx hx => by simp [go_sem]⟩) hS ?_
          simp only [Act.put,List.getElem_toArray,List.getElem_cons_succ,List.getElem_cons_zero,List.setIfInBounds_toArray,List.set_cons_zero,List.set_cons_succ]
          refine wpAnyH_done (by kernel_rfl) ?_ _
          have HO8:Hid (OwnB wc10j w.heap.size v8 t ∧ Below w.heap.size w wc10j):=⟨by rw [HRE.out];have h:=ownB_mono17 ho8 (HSZ.out _ hS7);simp only [List.flatten_cons,List.flatten_nil,List.append_nil,List.singleton_append] at h;exact h,HOUT.out _ hS⟩
          clear hS hS7 hb8 ho8 hrl
          go_wp2
          go_ret
          exact ⟨_,rfl,HO8.out.1,HO8.out.2⟩
        · refine wpOp_en 6 (by rfl) (by rfl) (f:=28) (args:=#[.agg #[xaA,xvA],.int .i64 (d1:Int)]) (by simp [go_sem]) (HIX.out false xaA xvA wc6 hA) ?_
          rintro e wc11 ⟨vz,rfl,ho,hb⟩
          rw [← HPP.out] at ho
          obtain ⟨a1,c1,rfl⟩:=ho.formP
          have hp:=ho.reads
          clear ho hA
          have hS2:=Sb.more hS HB1.out hb
          refine ⟨_,rfl,hS2,?_⟩
          simp only [Act.put,List.getElem_toArray,List.getElem_cons_succ,List.getElem_cons_zero,List.setIfInBounds_toArray,List.set_cons_zero,List.set_cons_succ]
          clear hS
          have hS:=hS2
          clear hS2
          clear hb
          refine wpAnyH_pair 0 9 (by kernel_rfl) ?_ ?_
          · have hba:=below_alloc wc11 (.cells #[Value.int .u8 2] 5)
            have hy:=reads_val wc11 2 2 rfl
            have hSwa12:=Sb.more hS HB1.out hba
            refine wpOp_vl 0 (.slice (some ⟨wc11.heap.size,0,none⟩) 1 1) (wc11.alloc (.cells #[.int .u8 2] 5)) rfl (by rfl) (by simp [go_sem]) ⟨hSwa12,?_⟩
            simp only [Act.put,List.getElem_toArray,List.getElem_cons_zero,List.setIfInBounds_toArray,List.set_cons_zero,List.set_cons_succ]
            replace hp:=hp.below hba
            clear hS
            have hS:=hSwa12
            clear hSwa12 hba
            generalize wc11.alloc (.cells #[Value.int .u8 2] 5) = wa12 at *
            obtain ⟨g0,hg0⟩:∃ z,z = wc11.heap.size:=⟨_,rfl⟩
            rw [← hg0] at hy ⊢
            clear hg0
            refine wpAnyH_enter 9 (by kernel_rfl) rfl (by rfl) (f:=29) (args:=#[.agg #[.slice ada n cpa,.slice adv n cpv],.int .i64 (d:Int),.bool true]) (by simp [go_sem]) (HHB.out true wa12 hS) ?_
            rintro e wc13 ⟨xaB,xvB,rfl,ho,hb⟩
            have hB:=ho.reads
            clear ho
            have hS2:=Sb.more hS HB1.out hb
            refine ⟨_,rfl,hS2,?_⟩
            simp only [Act.put,List.getElem_toArray,List.getElem_cons_succ,List.getElem_cons_zero,List.setIfInBounds_toArray,List.set_cons_zero,List.set_cons_succ]
            clear hS
            have hS:=hS2
            clear hS2
            replace hp:=hp.below hb
            replace hy:=hy.below hb
            clear hb
            refine wpAnyH_enter 12 (by kernel_rfl) rfl (by rfl) (f:=28) (args:=#[.agg #[xaB,xvB],.int .i64 (d1:Int)]) (by simp [go_sem]) (HIX.out true xaB xvB wc13 hB) ?_
            rintro e wc14 ⟨vz,rfl,ho,hb⟩
            rw [← HQQ.out] at ho
            obtain ⟨a2,c2,rfl⟩:=ho.formP
            have hq:=ho.reads
            clear ho hB
            have hS2:=Sb.more hS HB1.out hb
            refine ⟨_,rfl,hS2,?_⟩
            simp only [Act.put,List.getElem_toArray,List.getElem_cons_succ,List.getElem_cons_zero,List.setIfInBounds_toArray,List.set_cons_zero,List.set_cons_succ]
            clear hS
            have hS:=hS2
            clear hS2
            replace hp:=hp.below hb
            replace hy:=hy.below hb
            clear hb
            have hrl:=readsL_three hy hp hq
            have hba:=below_alloc wc14 (.cells #[.slice (some ⟨g0,0,none⟩) 1 1,.slice a1 P.length c1,.slice a2 Q.length c2] 48)
            have hS7:=Sb.more hS HB1.out hba
            refine wpAnyH_step 13 (.slice (some ⟨wc14.heap.size,0,none⟩) 3 3) (wc14.alloc (.cells #[.slice (some ⟨g0,0,none⟩) 1 1,.slice a1 P.length c1,.slice a2 Q.length c2] 48)) (by kernel_rfl) rfl (by rfl) (by simp [go_sem]) hS7 ?_
            simp only [Act.put,List.getElem_toArray,List.getElem_cons_succ,List.getElem_cons_zero,List.setIfInBounds_toArray,List.set_cons_zero,List.set_cons_succ]
            generalize wc14.alloc (.cells #[.slice (some ⟨g0,0,none⟩) 1 1,.slice a1 P.length c1,.slice a2 Q.length c2] 48) = wc14b at *
            clear hS hba
            refine wpAnyH_enter 14 (by kernel_rfl) rfl (by rfl) (f:=46) (args:=#[.slice (some ⟨wc14.heap.size,0,none⟩) 3 3]) (by simp [go_sem]) (rjoin_own _ _ wc14b hrl (by simp only [List.flatten_cons,List.flatten_nil,List.append_nil,List.length_append,List.length_cons,List.length_nil];have:=HLN.out;omega) (by simp)) ?_
            rintro e wc14j ⟨v8,rfl,ho8,hb8⟩
            have hS:=Sb.more hS7 HB1.out hb8
            refine ⟨_,rfl,hS,?_⟩
            simp only [Act.put,List.getElem_toArray,List.getElem_cons_succ,List.getElem_cons_zero,List.setIfInBounds_toArray,List.set_cons_zero,List.set_cons_succ]
            refine wpAnyH_take (i:=15) (v:=v8) rfl (by kernel_rfl) (by kernel_rfl) (by kernel_rfl) (fun _ _ _ h => h) (Or.inl ⟨by rfl,fun wx hx => by simp [go_sem]⟩) hS ?_
            simp only [Act.put,List.getElem_toArray,List.getElem_cons_succ,List.getElem_cons_zero,List.setIfInBounds_toArray,List.set_cons_zero,List.set_cons_succ]
            refine wpAnyH_done (by kernel_rfl) ?_ _
            have HO8:Hid (OwnB wc14j w.heap.size v8 t ∧ Below w.heap.size w wc14j):=⟨by rw [HRE.out];have h:=ownB_mono17 ho8 (HSZ.out _ hS7);simp only [List.flatten_cons,List.flatten_nil,List.append_nil,List.singleton_append] at h;exact h,HOUT.out _ hS⟩
            clear hS hS7 hb8 ho8 hrl
            go_wp2
            go_ret
            exact ⟨_,rfl,HO8.out.1,HO8.out.2⟩
          · refine wpOp_en 9 (by rfl) (by rfl) (f:=29) (args:=#[.agg #[.slice ada n cpa,.slice adv n cpv],.int .i64 (d:Int),.bool true]) (by simp [go_sem]) (HHB.out true wc11 hS) ?_
            rintro e wc15 ⟨xaB,xvB,rfl,ho,hb⟩
            have hB:=ho.reads
            clear ho
            have hS2:=Sb.more hS HB1.out hb
            refine ⟨_,rfl,hS2,?_⟩
            simp only [Act.put,List.getElem_toArray,List.getElem_cons_succ,List.getElem_cons_zero,List.setIfInBounds_toArray,List.set_cons_zero,List.set_cons_succ]
            clear hS
            have hS:=hS2
            clear hS2
            replace hp:=hp.below hb
            clear hb
            refine wpAnyH_pair 0 12 (by kernel_rfl) ?_ ?_
            · have hba:=below_alloc wc15 (.cells #[Value.int .u8 2] 5)
              have hy:=reads_val wc15 2 2 rfl
              have hSwa16:=Sb.more hS HB1.out hba
              refine wpOp_vl 0 (.slice (some ⟨wc15.heap.size,0,none⟩) 1 1) (wc15.alloc (.cells #[.int .u8 2] 5)) rfl (by rfl) (by simp [go_sem]) ⟨hSwa16,?_⟩
              simp only [Act.put,List.getElem_toArray,List.getElem_cons_zero,List.setIfInBounds_toArray,List.set_cons_zero,List.set_cons_succ]
              replace hp:=hp.below hba
              replace hB:=hB.below hba
              clear hS
              have hS:=hSwa16
              clear hSwa16 hba
              generalize wc15.alloc (.cells #[Value.int .u8 2] 5) = wa16 at *
              obtain ⟨g0,hg0⟩:∃ z,z = wc15.heap.size:=⟨_,rfl⟩
              rw [← hg0] at hy ⊢
              clear hg0
              refine wpAnyH_enter 12 (by kernel_rfl) rfl (by rfl) (f:=28) (args:=#[.agg #[xaB,xvB],.int .i64 (d1:Int)]) (by simp [go_sem]) (HIX.out true xaB xvB wa16 hB) ?_
              rintro e wc17 ⟨vz,rfl,ho,hb⟩
              rw [← HQQ.out] at ho
              obtain ⟨a2,c2,rfl⟩:=ho.formP
              have hq:=ho.reads
              clear ho hB
              have hS2:=Sb.more hS HB1.out hb
              refine ⟨_,rfl,hS2,?_⟩
              simp only [Act.put,List.getElem_toArray,List.getElem_cons_succ,List.getElem_cons_zero,List.setIfInBounds_toArray,List.set_cons_zero,List.set_cons_succ]
              clear hS
              have hS:=hS2
              clear hS2
              replace hp:=hp.below hb
              replace hy:=hy.below hb
              clear hb
              have hrl:=readsL_three hy hp hq
              have hba:=below_alloc wc17 (.cells #[.slice (some ⟨g0,0,none⟩) 1 1,.slice a1 P.length c1,.slice a2 Q.length c2] 48)
              have hS7:=Sb.more hS HB1.out hba
              refine wpAnyH_step 13 (.slice (some ⟨wc17.heap.size,0,none⟩) 3 3) (wc17.alloc (.cells #[.slice (some ⟨g0,0,none⟩) 1 1,.slice a1 P.length c1,.slice a2 Q.length c2] 48)) (by kernel_rfl) rfl (by rfl) (by simp [go_sem]) hS7 ?_
              simp only [Act.put,List.getElem_toArray,List.getElem_cons_succ,List.getElem_cons_zero,List.setIfInBounds_toArray,List.set_cons_zero,List.set_cons_succ]
              generalize wc17.alloc (.cells #[.slice (some ⟨g0,0,none⟩) 1 1,.slice a1 P.length c1,.slice a2 Q.length c2] 48) = wc17b at *
              clear hS hba
              refine wpAnyH_enter 14 (by kernel_rfl) rfl (by rfl) (f:=46) (args:=#[.slice (some ⟨wc17.heap.size,0,none⟩) 3 3]) (by simp [go_sem]) (rjoin_own _ _ wc17b hrl (by simp only [List.flatten_cons,List.flatten_nil,List.append_nil,List.length_append,List.length_cons,List.length_nil];have:=HLN.out;omega) (by simp)) ?_
              rintro e wc17j ⟨v8,rfl,ho8,hb8⟩
              have hS:=Sb.more hS7 HB1.out hb8
              refine ⟨_,rfl,hS,?_⟩
              simp only [Act.put,List.getElem_toArray,List.getElem_cons_succ,List.getElem_cons_zero,List.setIfInBounds_toArray,List.set_cons_zero,List.set_cons_succ]
              refine wpAnyH_take (i:=15) (v:=v8) rfl (by kernel_rfl) (by kernel_rfl) (by kernel_rfl) (fun _ _ _ h => h) (Or.inl ⟨by rfl,fun wx hx => by simp [go_sem]⟩) hS ?_
              simp only [Act.put,List.getElem_toArray,List.getElem_cons_succ,List.getElem_cons_zero,List.setIfInBounds_toArray,List.set_cons_zero,List.set_cons_succ]
              refine wpAnyH_done (by kernel_rfl) ?_ _
              have HO8:Hid (OwnB wc17j w.heap.size v8 t ∧ Below w.heap.size w wc17j):=⟨by rw [HRE.out];have h:=ownB_mono17 ho8 (HSZ.out _ hS7);simp only [List.flatten_cons,List.flatten_nil,List.append_nil,List.singleton_append] at h;exact h,HOUT.out _ hS⟩
              clear hS hS7 hb8 ho8 hrl
              go_wp2
              go_ret
              exact ⟨_,rfl,HO8.out.1,HO8.out.2⟩
            · refine wpOp_en 12 (by rfl) (by rfl) (f:=28) (args:=#[.agg #[xaB,xvB],.int .i64 (d1:Int)]) (by simp [go_sem]) (HIX.out true xaB xvB wc15 hB) ?_
              rintro e wc18 ⟨vz,rfl,ho,hb⟩
              rw [← HQQ.out] at ho
              obtain ⟨a2,c2,rfl⟩:=ho.formP
              have hq:=ho.reads
              clear ho hB
              have hS2:=Sb.more hS HB1.out hb
              refine ⟨_,rfl,hS2,?_⟩
              simp only [Act.put,List.getElem_toArray,List.getElem_cons_succ,List.getElem_cons_zero,List.setIfInBounds_toArray,List.set_cons_zero,List.set_cons_succ]
              clear hS
              have hS:=hS2
              clear hS2
              replace hp:=hp.below hb
              clear hb
              have hba:=below_alloc wc18 (.cells #[Value.int .u8 2] 5)
              have hy:=reads_val wc18 2 2 rfl
              have hSwa19:=Sb.more hS HB1.out hba
              refine wpAnyH_step 0 (.slice (some ⟨wc18.heap.size,0,none⟩) 1 1) (wc18.alloc (.cells #[.int .u8 2] 5)) (by kernel_rfl) rfl (by rfl) (by simp [go_sem]) hSwa19 ?_
              simp only [Act.put,List.getElem_toArray,List.getElem_cons_zero,List.setIfInBounds_toArray,List.set_cons_zero,List.set_cons_succ]
              replace hp:=hp.below hba
              replace hq:=hq.below hba
              clear hS
              have hS:=hSwa19
              clear hSwa19 hba
              generalize wc18.alloc (.cells #[Value.int .u8 2] 5) = wa19 at *
              obtain ⟨g0,hg0⟩:∃ z,z = wc18.heap.size:=⟨_,rfl⟩
              rw [← hg0] at hy ⊢
              clear hg0
              have hrl:=readsL_three hy hp hq
              have hba:=below_alloc wa19 (.cells #[.slice (some ⟨g0,0,none⟩) 1 1,.slice a1 P.length c1,.slice a2 Q.length c2] 48)
              have hS7:=Sb.more hS HB1.out hba
              refine wpAnyH_step 13 (.slice (some ⟨wa19.heap.size,0,none⟩) 3 3) (wa19.alloc (.cells #[.slice (some ⟨g0,0,none⟩) 1 1,.slice a1 P.length c1,.slice a2 Q.length c2] 48)) (by kernel_rfl) rfl (by rfl) (by simp [go_sem]) hS7 ?_
              simp only [Act.put,List.getElem_toArray,List.getElem_cons_succ,List.getElem_cons_zero,List.setIfInBounds_toArray,List.set_cons_zero,List.set_cons_succ]
              generalize wa19.alloc (.cells #[.slice (some ⟨g0,0,none⟩) 1 1,.slice a1 P.length c1,.slice a2 Q.length c2] 48) = wa19b at *
              clear hS hba
              refine wpAnyH_enter 14 (by kernel_rfl) rfl (by rfl) (f:=46) (args:=#[.slice (some ⟨wa19.heap.size,0,none⟩) 3 3]) (by simp [go_sem]) (rjoin_own _ _ wa19b hrl (by simp only [List.flatten_cons,List.flatten_nil,List.append_nil,List.length_append,List.length_cons,List.length_nil];have:=HLN.out;omega) (by simp)) ?_
              rintro e wa19j ⟨v8,rfl,ho8,hb8⟩
              have hS:=Sb.more hS7 HB1.out hb8
              refine ⟨_,rfl,hS,?_⟩
              simp only [Act.put,List.getElem_toArray,List.getElem_cons_succ,List.getElem_cons_zero,List.setIfInBounds_toArray,List.set_cons_zero,List.set_cons_succ]
              refine wpAnyH_take (i:=15) (v:=v8) rfl (by kernel_rfl) (by kernel_rfl) (by kernel_rfl) (fun _ _ _ h => h) (Or.inl ⟨by rfl,fun wx hx => by simp [go_sem]⟩) hS ?_
              simp only [Act.put,List.getElem_toArray,List.getElem_cons_succ,List.getElem_cons_zero,List.setIfInBounds_toArray,List.set_cons_zero,List.set_cons_succ]
              refine wpAnyH_done (by kernel_rfl) ?_ _
              have HO8:Hid (OwnB wa19j w.heap.size v8 t ∧ Below w.heap.size w wa19j):=⟨by rw [HRE.out];have h:=ownB_mono17 ho8 (HSZ.out _ hS7);simp only [List.flatten_cons,List.flatten_nil,List.append_nil,List.singleton_append] at h;exact h,HOUT.out _ hS⟩
              clear hS hS7 hb8 ho8 hrl
              go_wp2
              go_ret
              exact ⟨_,rfl,HO8.out.1,HO8.out.2⟩
theorem eWhole_any:∀ (f d:Nat),256 ≤ d + f → ∀ (l:List Lf) (va vv:Value) (w:World),Fits l d → ReadsLf w va vv l → l.length < 2000000 → d ≤ 256 →
    Calls Tryz.prog 28 #[.agg #[va,vv],.int .i64 (d:Int)] w fun e w' => ∃ v,e = .returned v ∧ OwnB w' w.heap.size v (wholeL d l) ∧ Below w.heap.size w w':=by
  intro f
  induction f with
  | zero => exact fun d hf l va vv w hF hR hl hd => eWhole_step l d va vv w hF hR hl hd fun h2 => absurd (hF.lt h2) (by omega)
  | succ f ih => exact fun d hf l va vv w hF hR hl hd => eWhole_step l d va vv w hF hR hl hd fun h2 on xa xv W hx => ih (d + 1) (by omega) (halfL l d on) xa xv W (hF.half on) hx (Nat.lt_of_le_of_lt (half_le l d on) hl) (hF.lt h2)
end Go.Proofs.YtphmmnffgknkcaaGreatDoor
namespace Go.Proofs.YtphmmnffgknkcaaGreatDoor
open Go.RowKit
set_option maxRecDepth 100000
theorem Reads.drewN {w:World} {v:Value} {l:List (BitVec 8)} (h:Reads w v l) (q:Nat):Reads (w.drewN q) v l:=h
theorem mem_getD {ds:List (List (BitVec 8))} {d:List (BitVec 8)}:d ∈ ds ↔ ∃ j,j < ds.length ∧ ds.getD j [] = d:=by
  rw [List.mem_iff_getElem]
  constructor
  · rintro ⟨j,hj,rfl⟩
    exact ⟨j,hj,by rw [List.getD_eq_getElem?_getD,List.getElem?_eq_getElem hj];rfl⟩
  · rintro ⟨j,hj,h⟩
    refine ⟨j,hj,?_⟩
    rw [List.getD_eq_getElem?_getD,List.getElem?_eq_getElem hj] at h
    exact h
end Go.Proofs.YtphmmnffgknkcaaGreatDoor
namespace Go.Proofs.YtphmmnffgknkcaaGreatDoor
open Go.RowKit
set_option maxRecDepth 100000
theorem idxQ (b off n c k:Nat) (hk:k < n) (f:Operand → Value) (o:Oper) (x y:Operand) (ho:o.op = .indexAddr 26 x y) (hx:f x = .slice (some ⟨b,off,none⟩) n c) (hy:f y = .int .i64 (k:Int)) (w:World) :
    (execOp f o).run Tryz.prog w = .ok (.value (.pointer (some ⟨b,off + k,none⟩))) w:=by
  have k0:(0:Int) ≤ (k:Int):=by omega
  have k1:(k:Int) < (n:Int):=by omega
  unfold execOp
  rw [ho]
  simp [go_sem,hx,hy,k0,k1,Addr.add_mid]
end Go.Proofs.YtphmmnffgknkcaaGreatDoor
namespace Go.Proofs.YtphmmnffgknkcaaGreatDoor
open Go.RowKit
set_option maxRecDepth 100000
structure NewR (cs:List Value) (t:TypeId) (w:World) (g:Nat) (w':World):Prop where
  ge:w.heap.size ≤ g
  blk:Blk w' g cs t
  below:Below w.heap.size w w'
theorem NewR.of (cs:List Value) (t:TypeId) (w:World):NewR cs t w w.heap.size (w.alloc (.cells cs.toArray t)):=⟨Nat.le_refl _,Blk.new w cs t,below_alloc w _⟩
theorem wpSeq_boxW {ops:Array Oper} {Q:Exit → Act → World → Prop} {rest:List Oper} {o:Oper} {a:Act} {w:World} (ty:TypeId) (x:Operand) (cs:List Value) (ho:o.op = .box ty x) (hx:a.eval x = .agg cs.toArray) (hw:Region.wanted o (yielded ops a.tmps) = true)
    (h:∀ g w',NewR cs ty w g w' → wpList Tryz.prog ops Q rest (a.put o.dst (.pointer (some ⟨g,0,none⟩))) w'):wpList Tryz.prog ops Q (o :: rest) a w:=
  wpSeq_box ty x ho cs hx hw _ rfl (h _ _ (NewR.of cs ty w))
structure SetR (cs:List Value) (t:TypeId) (w:World) (g:Nat) (w':World):Prop where
  blk:Blk w' g cs t
  only:Only g w w'
theorem SetR.of {cs ns:List Value} {t:TypeId} {w:World} {g:Nat} (hb:Blk w g cs t) (hl:ns.length = cs.length):SetR ns t w g (w.setCells g 0 ns):=⟨hb.whole ns hl,Only.setCells _ _ _ (Only.refl g w)⟩
theorem wpSeq_storeRow {ops:Array Oper} {Q:Exit → Act → World → Prop} {rest:List Oper} {o:Oper} {a:Act} {w:World} (ty:TypeId) (x y:Operand) (g:Nat) (cs ns:List Value) (hb:Blk w g cs ty) (hl:ns.length = cs.length) (hi:(Tryz.prog.info? ty).map (·.size) = some ns.length) (h1:∀ v ∈ ns,v.oneCell' = true)
    (ho:o.op = .store ty x y) (hx:a.eval x = .pointer (some ⟨g,0,none⟩)) (hy:a.eval y = .agg ns.toArray) (hgd:o.guard = none)
    (h:∀ w',SetR ns ty w g w' → wpList Tryz.prog ops Q rest (a.put o.dst undef) w'):wpList Tryz.prog ops Q (o :: rest) a w:=
  wpList_store_mid hgd ty x y ho g 0 _ hx hy (hb.there 0 _ (by rw [List.size_toArray,hl];omega)) (by rw [List.size_toArray];exact hi) (all_oneCell_toArray h1)
    (by rw [List.toList_toArray];exact h _ (SetR.of hb hl))
theorem wpSeq_loadW {ops:Array Oper} {Q:Exit → Act → World → Prop} {rest:List Oper} {o:Oper} {a:Act} {w:World} (ty:TypeId) (x:Operand) (b off:Nat) (cs:List Value) (d:TypeDesc) (hb:w.rangeAt b off cs) (hu:Tryz.prog.underlying ty = some d) (hd:d.isRow = true) (hi:(Tryz.prog.info? ty).map (·.size) = some cs.length) (ho:o.op = .load ty x) (hx:a.eval x = .pointer (some ⟨b,off,none⟩)) (hw:Region.wanted o (yielded ops a.tmps) = true)
    (h:wpList Tryz.prog ops Q rest (a.put o.dst (.agg cs.toArray)) w):wpList Tryz.prog ops Q (o :: rest) a w:=
  wpSeq_val _ _ hw (load_run ty x ho b off hx cs d hb hu hd hi) h
theorem wpSeq_appXs {ops:Array Oper} {Q:Exit → Act → World → Prop} {rest:List Oper} {o:Oper} {a:Act} {w:World} (s x:Operand) (base:Nat) (v:Value) (us us2:List Value) (b off n c:Nat)
    (hown:OwnX w base v us) (hn:us2.length = n) (hnc:n ≤ c) (hc:∀ j u,us2[j]? = some u → w.cell? ⟨b,off + j,none⟩ = some u) (h1:∀ u ∈ us2,u.oneCell' = true) (hlen:us.length + n ≤ 1000000) (hbase:base ≤ w.heap.size)
    (ho:o.op = .call { callee:=.builtin .append,args:=#[s,x],argTypes:=#[26,26] }) (hs:a.eval s = v) (hx:a.eval x = .slice (some ⟨b,off,none⟩) n c) (hgd:o.guard = none)
    (h:∀ v' w',OwnX w' base v' (us ++ us2) → GrV w v w' v' → wpList Tryz.prog ops Q rest (a.put o.dst v') w'):wpList Tryz.prog ops Q (o :: rest) a w:=by
  obtain ⟨i0,hi,hz0,hz1,hz2⟩:=info_parts Tryz.infobsP
  subst hn
  refine wpList_append_own_at (P:=Tryz.prog) w hgd s x 26 ho base 48 i0 (.slice none 0 0) 1 24 Tryz.underlying26 hi hz0 hz1 hz2 rfl (by decide) v us.length us hs hown ⟨b,off,none⟩ us2.length c us2 hx (by omega) (fun j q hj => by rw [Addr.add_mid];exact hc j q hj) h1 (by unfold maxLen;omega) (by omega) hbase ?_
  intro v' w' h2 h3 _ h5
  refine h v' w' ?_ ⟨mut_grown h3,fun k hk => ?_⟩
  · unfold OwnX;rw [List.length_append];exact h2
  · rcases h5 with h5 | h5
    · exact Or.inl (h5 ▸ hk)
    · rw [h5] at hk;cases hk;exact Or.inr (Nat.le_refl _)
theorem reads_one {w:World} {v:Value} {l:By} (h:Reads w v l):v.oneCell' = true:=by
  obtain ⟨ad,c,rfl,_⟩:=h
  rfl
theorem PgS.mores {W W':World} {base:Nat} {v v':Value} {us us2:List Value} {ps ps2:List By} {X:Nat → Prop} (h:PgS W base v us ps X) (ho:OwnX W' base v' (us ++ us2)) (hg:GrV W v W' v') (h2:us2.length = ps2.length) (hu:∀ j u,us2[j]? = some u → Reads W u (ps2.getD j []) ∧ ∀ k,u.ownBlock = some k → k < W.heap.size ∧ v.ownBlock ≠ some k ∧ ¬ X k):PgS W' base v' (us ++ us2) (ps ++ ps2) X:=by
  have key:∀ {x:Value} {q:By},Reads W x q → (∀ k,x.ownBlock = some k → k < W.heap.size ∧ v.ownBlock ≠ some k ∧ ¬ X k) → Reads W' x q ∧ ∀ k,x.ownBlock = some k → k < W'.heap.size ∧ v'.ownBlock ≠ some k ∧ ¬ X k:=fun hr hx =>
    ⟨hr.sameP fun k e => hg.other (hx k e).1 (hx k e).2.1,fun k e => ⟨Nat.lt_of_lt_of_le (hx k e).1 hg.mt.size,fun e2 => by
      rcases hg.lies k e2 with e3 | e3
      · exact (hx k e).2.1 e3
      · have:=(hx k e).1;omega,(hx k e).2.2⟩⟩
  refine ⟨ho,by rw [List.length_append,List.length_append,h.len,h2],fun j x hj => ?_⟩
  rcases Nat.lt_or_ge j us.length with hl | hl
  · rw [List.getElem?_append_left hl] at hj
    have hp:(ps ++ ps2).getD j [] = ps.getD j []:=by
      rw [List.getD_eq_getElem?_getD,List.getD_eq_getElem?_getD,List.getElem?_append_left (by rw [← h.len];exact hl)]
    rw [hp]
    exact key (h.good j x hj).1 (h.good j x hj).2
  · rw [List.getElem?_append_right hl] at hj
    have hp:(ps ++ ps2).getD j [] = ps2.getD (j - us.length) []:=by
      rw [List.getD_eq_getElem?_getD,List.getD_eq_getElem?_getD,List.getElem?_append_right (by rw [← h.len];exact hl),← h.len]
    rw [hp]
    exact key (hu _ x hj).1 (hu _ x hj).2
theorem PgS.row {W:World} {base:Nat} {v:Value} {us:List Value} {ps:List By} {X:Nat → Prop} (h:PgS W base v us ps X) (hp:0 < ps.length):∃ g c,v = .slice (some ⟨g,0,none⟩) us.length c ∧ us.length ≤ c ∧ (∀ j u,us[j]? = some u → W.cell? ⟨g,0 + j,none⟩ = some u) ∧ ∀ u ∈ us,u.oneCell' = true:=by
  have hl:=h.len
  rcases h.own with ⟨_,⟨e1,h2⟩ | ⟨g,cap,cur,e1,hg,hh,hc,hm,hs,ht⟩⟩
  · omega
  refine ⟨g,cap,e1,hc,fun j u hj => ?_,fun u hu => ?_⟩
  · obtain ⟨g2,c2,e2,hc2,_⟩:=h.own.at hj
    rw [e1] at e2
    cases e2
    rw [Nat.zero_add];exact hc2
  · obtain ⟨j,hj,rfl⟩:=List.mem_iff_getElem.1 hu
    exact reads_one (h.good j _ (List.getElem?_eq_getElem hj)).1
theorem blk_own_x {w:World} {g base:Nat} {u:Value} (h:Blk w g [u] 48) (hb:base ≤ g):OwnX w base (.slice (some ⟨g,0,none⟩) 1 1) [u]:=
  ⟨rfl,Or.inr ⟨g,1,[u].toArray,rfl,hb,h,Nat.le_refl _,by unfold maxLen;omega,rfl,by simp⟩⟩
end Go.Proofs.YtphmmnffgknkcaaGreatDoor
namespace Go.Proofs.YtphmmnffgknkcaaGreatDoor
open Go.RowKit
set_option maxRecDepth 100000
def svB (d:Nat) (l:List Lf):Nat → By
  | 0 => [2]
  | 1 => 2 :: sidePg (d + 1) (halfL l d false)
  | _ => 2 :: (sidePg (d + 1) (halfL l d false) ++ sidePg (d + 1) (halfL l d true))
def svP (d:Nat) (l:List Lf):Nat → List By
  | 0 => []
  | 1 => restPg (d + 1) (halfL l d false)
  | _ => restPg (d + 1) (halfL l d false) ++ restPg (d + 1) (halfL l d true)
theorem sv_next (d:Nat) (l:List Lf) (k:Nat) (hk:k < 2):svB d l (k + 1) = svB d l k ++ sidePg (d + 1) (halfL l d (decide (k = 1))) ∧ svP d l (k + 1) = svP d l k ++ restPg (d + 1) (halfL l d (decide (k = 1))):=by
  match k,hk with
  | 0,_ => exact ⟨rfl,(List.nil_append _).symm⟩
  | 1,_ => exact ⟨rfl,rfl⟩
theorem sv_len {d:Nat} {l:List Lf} (hF:Fits l d) (k:Nat):(svB d l k).length ≤ 131:=by
  have h0:=(side_len (d:=d + 1) (hF.half false).1).2
  have h1:=(side_len (d:=d + 1) (hF.half true).1).2
  match k with
  | 0 => simp [svB]
  | 1 => simp only [svB,List.length_cons];omega
  | _ + 2 => simp only [svB,List.length_cons,List.length_append];omega
theorem sv_count {d:Nat} {l:List Lf} (hF:Fits l d) (hd:d < 256) (hl:l.length ≤ 100) (b:Bool):(restPg (d + 1) (halfL l d b)).length ≤ 25601:=by
  unfold restPg
  split
  · simp
  · have h:=save_count (256 - (d + 1)) (d + 1) _ (by omega) (hF.half b)
    have h2:=half_le l d b
    have h3:(256 - (d + 1)) * (halfL l d b).length ≤ 256 * 100:=Nat.mul_le_mul (by omega) (by omega)
    omega
theorem sv_most {d:Nat} {l:List Lf} (hF:Fits l d) (hd:d < 256) (hl:l.length ≤ 100) (k:Nat):(svP d l k).length ≤ 51202:=by
  have h0:=sv_count hF hd hl false
  have h1:=sv_count hF hd hl true
  match k with
  | 0 => simp [svP]
  | 1 => simp only [svP];omega
  | _ + 2 => simp only [svP,List.length_append];omega
theorem sv_some {d:Nat} {l:List Lf} (hF:Fits l d) (h:512 < (wholeL d l).length):0 < (svP d l 2).length:=by
  have h2:=long_two hF h
  rcases Nat.lt_or_ge (halfL l d false).length 2 with ha | ha
  · rcases Nat.lt_or_ge (halfL l d true).length 2 with hb | hb
    · rw [whole_two h2.2 h2.1,List.length_cons,List.length_append,whole_few ha,whole_few hb,one_le (hF.half false).1 ha,one_le (hF.half true).1 hb] at h
      omega
    · have:0 < (restPg (d + 1) (halfL l d true)).length:=by unfold restPg;rw [if_neg (by omega),save_top];simp
      simp only [svP,List.length_append];omega
  · have:0 < (restPg (d + 1) (halfL l d false)).length:=by unfold restPg;rw [if_neg (by omega),save_top];simp
    simp only [svP,List.length_append];omega
structure SvI (w1:World) (B:Nat) (vb vr:Value) (usr:List Value) (bs:By) (psr:List By) (W:World):Prop where
  bl:Below B w1 W
  le:B ≤ W.heap.size
  b:OwnB W B vb bs
  r:PgS W B vr usr psr (fun k => k < B ∨ vb.ownBlock = some k)
theorem SvI.next {w1 W W':World} {B:Nat} {vb vr:Value} {usr:List Value} {bs:By} {psr:List By} (h:SvI w1 B vb vr usr bs psr W) (hb:Below W.heap.size W W'):SvI w1 B vb vr usr bs psr W':=
  ⟨h.bl.trans (hb.mono h.le),Nat.le_trans h.le hb.size,h.b.next hb,h.r.next hb⟩
theorem SvI.appB {w1 W W':World} {B:Nat} {vb vb' vr:Value} {usr:List Value} {bs bs':By} {psr:List By} (h:SvI w1 B vb vr usr bs psr W) (ho:OwnB W' B vb' bs') (hg:GrV W vb W' vb'):SvI w1 B vb' vr usr bs' psr W':=
  ⟨h.bl.trans (hg.below h.le fun k hk => (h.b.ltP k hk).1),Nat.le_trans h.le hg.mt.size,ho,h.r.beside h.b hg⟩
theorem SvI.appR {w1 W W':World} {B:Nat} {vb vr vr':Value} {usr us2:List Value} {bs:By} {psr ps2:List By} (h:SvI w1 B vb vr usr bs psr W) (ho:OwnX W' B vr' (usr ++ us2)) (hg:GrV W vr W' vr') (h2:us2.length = ps2.length) (hu:∀ j u,us2[j]? = some u → Reads W u (ps2.getD j []) ∧ ∀ k,u.ownBlock = some k → k < W.heap.size ∧ vr.ownBlock ≠ some k ∧ ¬ (k < B ∨ vb.ownBlock = some k)):SvI w1 B vb vr' (usr ++ us2) bs (psr ++ ps2) W':=
  ⟨h.bl.trans (hg.below h.le fun k hk => (h.r.own.lt k hk).1),Nat.le_trans h.le hg.mt.size,h.b.sameP fun k hk => hg.other (h.b.ltP k hk).2 (fun e => h.r.own.ne_bytes h.b k e hk),h.r.mores ho hg h2 hu⟩
structure MoI (Bm:Nat) (vb vr vm:Value) (usm:List Value) (psm:List By) (W:World):Prop where
  m:PgS W Bm vm usm psm (fun k => k < Bm ∨ vb.ownBlock = some k)
  r:∀ k,vr.ownBlock = some k → k < Bm
theorem MoI.next {W W':World} {Bm:Nat} {vb vr vm:Value} {usm:List Value} {psm:List By} (h:MoI Bm vb vr vm usm psm W) (hb:Below W.heap.size W W'):MoI Bm vb vr vm usm psm W':=⟨h.m.next hb,h.r⟩
theorem MoI.appB {W W':World} {B Bm:Nat} {vb vb' vr vm:Value} {usm:List Value} {bs:By} {psm:List By} (h:MoI Bm vb vr vm usm psm W) (ho:OwnB W B vb bs) (hg:GrV W vb W' vb'):MoI Bm vb' vr vm usm psm W':=⟨h.m.beside ho hg,h.r⟩
theorem MoI.of {w1 W W':World} {B:Nat} {vb vr vm:Value} {usr usm:List Value} {bs:By} {psr psm:List By} (h:SvI w1 B vb vr usr bs psr W) (hm:PgS W' W.heap.size vm usm psm (fun k => k < W.heap.size)):MoI W.heap.size vb vr vm usm psm W':=
  ⟨hm.weak fun k _ hk => hk.elim (fun e => e) (fun e => (h.b.ltP k e).2),fun k hk => (h.r.own.lt k hk).2⟩
theorem MoI.good {W:World} {B Bm:Nat} {vb vr vm:Value} {usm:List Value} {psm:List By} (h:MoI Bm vb vr vm usm psm W) (hB:B ≤ Bm):∀ j u,usm[j]? = some u → Reads W u (psm.getD j []) ∧ ∀ k,u.ownBlock = some k → k < W.heap.size ∧ vr.ownBlock ≠ some k ∧ ¬ (k < B ∨ vb.ownBlock = some k):=fun j u hj =>
  ⟨(h.m.good j u hj).1,fun k hk => by
    obtain ⟨h1,h2,h3⟩:=(h.m.good j u hj).2 k hk
    exact ⟨h1,fun e => h3 (Or.inl (h.r k e)),fun e => h3 (e.elim (fun e => Or.inl (by omega)) Or.inr)⟩⟩
theorem row_cells {W:World} {base g n c:Nat} {us:List Value} {ps:List By} {X:Nat → Prop} (h:PgS W base (.slice (some ⟨g,0,none⟩) n c) us ps X):∀ j u,us[j]? = some u → W.cell? ⟨g,0 + j,none⟩ = some u:=fun j u hj => by
  obtain ⟨g2,c2,e2,hc2,_⟩:=h.own.at hj
  cases e2
  rw [Nat.zero_add];exact hc2
theorem info_lvs {a b:Value}:(Tryz.prog.info? 43).map (·.size) = some [a,b].length:=by kernel_rfl
theorem one_lvs {a1 a2:Option Addr} {n1 n2 c1 c2:Nat}:∀ v ∈ [Value.slice a1 n1 c1,.slice a2 n2 c2],v.oneCell' = true:=fun v hv => by
  simp only [List.mem_cons,List.not_mem_nil,or_false] at hv
  rcases hv with rfl | rfl <;> rfl
theorem wpSeq_allocLvs {ops:Array Oper} {Q:Exit → Act → World → Prop} {rest:List Oper} {o:Oper} {a:Act} {w:World} (ho:o.op = .alloc 43) (hw:Region.wanted o (yielded ops a.tmps) = true)
    (h:∀ g w',NewR [nilV,nilV] 43 w g w' → wpList Tryz.prog ops Q rest (a.put o.dst (.pointer (some ⟨g,0,none⟩))) w'):wpList Tryz.prog ops Q (o :: rest) a w:=by
  refine wpSeq_val _ (w.alloc (.cells [nilV,nilV].toArray 43)) hw ?_ (h _ _ (NewR.of _ _ w))
  unfold execOp
  rw [ho]
  kernel_rfl
def SvR (w:World) (d:Nat) (l:List Lf) (e:Ending) (w':World):Prop:=∃ v us,e = .returned (.tuple #[.agg (cb (dig (topPg d l))).toArray,v]) ∧ PgS w' w.heap.size v us (saveL d l) (fun k => k < w.heap.size) ∧ Below w.heap.size w w'
set_option maxRecDepth 100000 in
set_option maxHeartbeats 16000000 in
theorem eSave_step (l:List Lf) (d:Nat) (va vv:Value) (w:World) (hK:KOk w) (hF:Fits l d) (hR:ReadsLf w va vv l) (hl:l.length ≤ 100) (hd:d ≤ 256)
    (ih:d < 256 → ∀ on xa xv W,KOk W → ReadsLf W xa xv (halfL l d on) → Calls Tryz.prog 12 #[.agg #[xa,xv],.int .i64 ((d + 1:Nat):Int)] W (SvR W (d + 1) (halfL l d on))) :
    Calls Tryz.prog 12 #[.agg #[va,vv],.int .i64 (d:Int)] w (SvR w d l):=by
  have HK:Hid (KOk w):=hK
  have HF:Hid (Fits l d):=hF
  have HR:Hid (ReadsLf w va vv l):=hR
  have HL:Hid (l.length ≤ 100):=hl
  have HDD:Hid (d ≤ 256):=hd
  have HIH:=id ih
  replace ih:Hid True:=trivial
  have HIHH:Hid (d < 256 → ∀ on xa xv W,KOk W → ReadsLf W xa xv (halfL l d on) → Calls Tryz.prog 12 #[.agg #[xa,xv],.int .i64 ((d + 1:Nat):Int)] W (SvR W (d + 1) (halfL l d on))):=HIH
  clear HIH ih
  obtain ⟨ada,cpa,hva⟩:=hR.1.slice
  obtain ⟨adv,cpv,hvv⟩:=hR.2.slice
  obtain ⟨na,HNA⟩:∃ n,Hid (n = (l.map (·.1)).length):=⟨_,rfl⟩
  obtain ⟨nv,HNV⟩:∃ n,Hid (n = (l.map (·.2)).length):=⟨_,rfl⟩
  rw [← HNA.out] at hva
  rw [← HNV.out] at hvv
  subst hva hvv
  have HWS:Hid ((wholeL d l).length ≤ 2000000000):=whole_small hd hF (by omega)
  clear hK hF hR hl hd
  have HBW:Hid (Below w.heap.size w w):=Below.refl _ _
  go_enter Tryz.func12,Tryz.ntmps12
  have ta0:Hid True:=trivial
  have ta1:Hid True:=trivial
  have ta2:Hid True:=trivial
  have ta3:Hid True:=trivial
  go_upto_region 2 with (first
    | (clear ta0;with_reducible refine wpSeq_boxW 43 (.tmp 0) [Value.slice ada na cpa,.slice adv nv cpv] ?_ ?_ ?_ ?_
       · rfl
       · rfl
       · rfl
       intro g2 wa nn
       have HBA:Hid (Below w.heap.size w wa):=nn.below
       have H2:Hid (Blk wa g2 [Value.slice ada na cpa,.slice adv nv cpv] 43):=nn.blk
       clear nn)
    | (clear ta1;with_reducible refine wpSeq_allocD ?_ ?_ ?_
       · rfl
       · rfl
       intro g4 w1 nn
       have H4:Hid (Blk w1 g4 (cb zb32) 39):=nn.blk
       have HG4:Hid (w.heap.size ≤ g4):=Nat.le_trans HBA.out.size nn.ge
       have HB1:Hid (Below w.heap.size w w1):=HBA.out.trans (nn.below.mono HBA.out.size)
       replace H2:Hid (Blk w1 g2 [Value.slice ada na cpa,.slice adv nv cpv] 43):=H2.out.below nn.below H2.out.lt
       clear nn HBA)
    | (clear ta2;with_reducible refine wpSeq_loadW 43 (.tmp 2) g2 0 [Value.slice ada na cpa,.slice adv nv cpv] _ H2.out.range Tryz.underlying43 rfl info_lvs ?_ ?_ ?_ ?_
       · rfl
       · rfl
       · rfl)
    | (clear ta3;go_at_call 28;refine (eWhole_any (256 - d) d (by have:=HDD.out;omega) l _ _ _ HF.out (HR.out.below HB1.out) (by have:=HL.out;omega) HDD.out).mono ?_;rintro e w2 ⟨vb,rfl,ho,hb⟩
       have HOB:Hid (OwnB w2 w1.heap.size vb (wholeL d l)):=ho
       have HB2:Hid (Below w1.heap.size w1 w2):=hb
       obtain ⟨ab,cpb,hvb⟩:=ho.formP
       obtain ⟨nb,HNB⟩:∃ n,Hid (n = (wholeL d l).length):=⟨_,rfl⟩
       rw [← HNB.out] at hvb
       subst hvb
       clear ho hb))
  by_cases hs:(wholeL d l).length ≤ 512
  case pos =>
    have hle:(nb:Int) ≤ 512:=by rw [HNB.out];omega
    have HT:Hid (saveL d l = [wholeL d l] ∧ topPg d l = wholeL d l):=⟨save_one hs,top_one hs⟩
    clear hs
    obtain ⟨dg,HDG⟩:∃ z,Hid (z = dig (wholeL d l)):=⟨_,rfl⟩
    have HDL:Hid (dg.length = 32):=by show _ = _;rw [HDG.out];exact len_dig' _
    replace H4:Hid (Blk w2 g4 (cb zb32) 39):=H4.out.below HB2.out H4.out.lt
    have tb0:Hid True:=trivial
    have tb1:Hid True:=trivial
    have tb2:Hid True:=trivial
    go_wp2_with (first
      | (clear tb0;go_at_call 13;refine (rOf_any _ (wholeL d l) _ HOB.out.reads (by have:=HWS.out;omega)).mono ?_;rintro e w3 ⟨rfl,hb⟩
         rw [← HDG.out]
         have HOB3:Hid (OwnB w3 w1.heap.size (.slice ab nb cpb) (wholeL d l)):=HOB.out.next hb
         have HB3:Hid (Below w1.heap.size w1 w3):=HB2.out.trans (hb.mono HB2.out.size)
         replace H4:Hid (Blk w3 g4 (cb zb32) 39):=H4.out.below hb H4.out.lt
         clear hb HOB)
      | (clear tb1;with_reducible refine wpSeq_buildX (.tmp 21) ab nb cpb ?_ ?_ ?_ ?_
         · rfl
         · rfl
         · rfl
         intro g5 w4 hy hge hb
         have HOB4:Hid (OwnB w4 w1.heap.size (.slice ab nb cpb) (wholeL d l)):=HOB3.out.next hb
         have HLT:Hid (∀ k,(Value.slice ab nb cpb).ownBlock = some k → k < w3.heap.size):=fun k hk => (HOB3.out.ltP k hk).2
         have HG5:Hid (w3.heap.size ≤ g5):=hge
         have HY:Hid (Blk w4 g5 [.slice ab nb cpb] 48):=hy
         have HB4:Hid (Below w1.heap.size w1 w4):=HB3.out.trans (hb.mono HB3.out.size)
         replace H4:Hid (Blk w4 g4 (cb zb32) 39):=H4.out.below hb H4.out.lt
         clear hb hy hge HOB3)
      | (clear tb2;with_reducible refine wpSeq_storeD (.tmp 4) (.tmp 20) g4 zb32 dg zb32_len HDL.out H4.out ?_ ?_ ?_ ?_ ?_
         · rfl
         · rfl
         · rfl
         · rfl
         intro w5 h9
         have HN4:Hid (Blk w5 g4 (cb dg) 39):=h9.blk
         have HO5:Hid (Only g4 w4 w5):=h9.only
         clear h9))
    refine bodyPost_ret (results_row_tmp (by rfl) _ _ _ g4 39 (cb dg) _ (.slice (some ⟨g5,0,none⟩) 1 1) rfl rfl HN4.out Tryz.underlying39 rfl (by rw [cb_len,HDL.out];exact info_digest)) rfl ?_
    refine ⟨_,[.slice ab nb cpb],by rw [HDG.out,HT.out.2],?_,HB1.out.trans ((HB4.out.mono HB1.out.size).trans (HO5.out.below HG4.out (Nat.le_trans HB1.out.size HB4.out.size)))⟩
    rw [HT.out.1]
    have hne:∀ k,(Value.slice ab nb cpb).ownBlock = some k → k ≠ g4:=fun k hk e => HOB4.out.ne_blk H4.out (by decide) (e ▸ hk)
    have h5:g5 ≠ g4:=fun e => by have h0:=H4.out;have h1:=HY.out;rw [e] at h1;unfold Blk at h0 h1;rw [h0] at h1;simp only [Option.some.injEq,Obj.cells.injEq] at h1;exact absurd h1.2.1 (by decide)
    have hY5:Blk w5 g5 [.slice ab nb cpb] 48:=HY.out.only HO5.out h5
    exact ⟨blk_own_x hY5 (Nat.le_trans HB1.out.size (Nat.le_trans HB3.out.size HG5.out)),rfl,fun j u hj => by
      match j,hj with
      | 0,hj =>
        cases hj
        exact ⟨HOB4.out.reads.sameP fun k hk => HO5.out.block k (hne k hk) (HOB4.out.ltP k hk).2,fun k hk => ⟨Nat.lt_of_lt_of_le (HOB4.out.ltP k hk).2 HO5.out.size,fun e => by
          have h1:=HLT.out k hk
          have h2:=HG5.out
          simp only [Value.ownBlock,Option.some.injEq] at e
          omega,by have h1:=(HOB4.out.ltP k hk).1;have h2:=HB1.out.size;omega⟩⟩
      | _ + 1,hj => simp at hj⟩
  case neg =>
    have HLG:Hid (512 < (wholeL d l).length):=by show _ < _;omega
    have hle:¬ (nb:Int) ≤ 512:=by rw [HNB.out];omega
    have hd:d < 256:=(long_two HF.out HLG.out).2
    have HD:Hid (d < 256):=hd
    have f1:IntKind.i64.wrap ((d:Int) + 1) = ((d + 1:Nat):Int):=by rw [IntKind.wrap_i64];omega
    obtain ⟨d1,HD1⟩:∃ z,Hid (z = d + 1):=⟨_,rfl⟩
    rw [← HD1.out] at f1
    have HIH:Hid (∀ on xa xv W,KOk W → ReadsLf W xa xv (halfL l d on) → Calls Tryz.prog 12 #[.agg #[xa,xv],.int .i64 (d1:Int)] W (SvR W d1 (halfL l d on))):=by rw [HD1.out];exact HIHH.out hd
    clear hs hd HIHH HOB
    obtain ⟨B,HBB⟩:∃ z,Hid (z = w1.heap.size):=⟨_,rfl⟩
    have H4L:Hid (g4 < B ∧ g2 < B ∧ 1 < B):=by rw [HBB.out];exact ⟨H4.out.lt,H2.out.lt,Nat.lt_of_lt_of_le HK.out.lt HB1.out.size⟩
    have HKK:Hid (∀ W,Below B w1 W → KOk W):=fun W hW => (HK.out.below HB1.out HK.out.lt).below hW H4L.out.2.2
    have H2W:Hid (∀ W,Below B w1 W → Blk W g2 [Value.slice ada na cpa,.slice adv nv cpv] 43):=fun W hW => H2.out.below hW H4L.out.2.1
    have H4W:Hid (∀ W,Below B w1 W → Blk W g4 (cb zb32) 39):=fun W hW => H4.out.below hW H4L.out.1
    have HRW:Hid (∀ W,Below B w1 W → ReadsLf W (.slice ada na cpa) (.slice adv nv cpv) l):=fun W hW => (HR.out.below HB1.out).below (by rw [← HBB.out];exact hW)
    have HB2':Hid (Below B w1 w2):=by rw [HBB.out];exact HB2.out
    clear H2 H4 HR HK
    have tc0:Hid True:=trivial
    go_wp2_with (first
      | (clear tc0;with_reducible refine wpSeq_buildY 2 (.const (.int .u8 2)) ?_ ?_ ?_ ?_
         · rfl
         · rfl
         · rfl
         intro g6 w3 hy hge hb
         have HI0:Hid (SvI w1 B (.slice (some ⟨g6,0,none⟩) 1 1) (.slice none 0 0) [] [2] [] w3):=⟨HB2'.out.trans (hb.mono (by rw [HBB.out];exact HB2.out.size)),Nat.le_trans (by rw [HBB.out];exact HB2.out.size) hb.size,blk_own_y hy (Nat.le_trans (by rw [HBB.out];exact HB2.out.size) hge),PgS.nil _ _ _⟩
         clear hy hge hb HB2 HB2'))
    go_loopw [6,7,8] (fun b r i W => ∃ (k:Nat) (ab:Option Addr) (nb cb2:Nat) (ar:Option Addr) (nr cr:Nat) (usr:List Value),k ≤ 2 ∧ b = .slice ab nb cb2 ∧ r = .slice ar nr cr ∧ i = .int .i64 (k:Int) ∧ Hid (SvI w1 B (.slice ab nb cb2) (.slice ar nr cr) usr (svB d l k) (svP d l k) W)) (fun _ _ i _ => 2 - (intOf i).toNat)
    case atStart => exact ⟨0,some ⟨g6,0,none⟩,1,1,none,0,0,[],by omega,rfl,rfl,rfl,HI0.out⟩
    case round =>
      obtain ⟨k,ab2,nb2,cb2,ar,nr,cr,usr,hk,rfl,rfl,rfl,HI⟩:=hrel
      by_cases hlt:k < 2
      case pos =>
        have hlk:(k:Int) < 2:=by omega
        have fk:IntKind.i64.wrap ((k:Int) + 1) = (k:Int) + 1:=by rw [IntKind.wrap_i64];omega
        obtain ⟨on,HON⟩:∃ z,Hid (z = decide (k = 1)):=⟨_,rfl⟩
        have e1:((k:Int) == 1) = on:=by rw [HON.out];by_cases h:k = 1 <;> simp [h];omega
        obtain ⟨h,HH⟩:∃ z,Hid (z = halfL l d on):=⟨_,rfl⟩
        have HHF:Hid (Fits h d1 ∧ h.length ≤ 100):=by rw [HH.out,HD1.out];exact ⟨HF.out.half on,Nat.le_trans (half_le l d on) HL.out⟩
        have HNX:Hid (svB d l (k + 1) = svB d l k ++ sidePg d1 h ∧ svP d l (k + 1) = svP d l k ++ restPg d1 h):=by rw [HH.out,HON.out,HD1.out];exact sv_next d l k hlt
        have HBL:Hid ((svB d l k).length ≤ 131):=sv_len HF.out k
        have HPL:Hid ((svP d l k).length ≤ 51202):=sv_most HF.out HD.out HL.out k
        obtain ⟨bs,HBS⟩:∃ z,Hid (z = svB d l k):=⟨_,rfl⟩
        obtain ⟨psr,HPS⟩:∃ z,Hid (z = svP d l k):=⟨_,rfl⟩
        rw [← HBS.out] at HBL HNX HI
        rw [← HPS.out] at HPL HNX HI
        have td0:Hid True:=trivial
        have td1:Hid True:=trivial
        have td2:Hid True:=trivial
        have td3:Hid True:=trivial
        go_upto_region 10 with (first
          | (clear td0;with_reducible refine wpSeq_loadW 43 (.tmp 2) g2 0 [Value.slice ada na cpa,.slice adv nv cpv] _ (H2W.out _ HI.out.bl).range Tryz.underlying43 rfl info_lvs ?_ ?_ ?_ ?_
             · rfl
             · rfl
             · rfl)
          | (clear td1;go_at_call 29;refine (eHalf_b _ _ l d HD.out on _ (HRW.out _ HI.out.bl) (by have:=HL.out;omega)).mono ?_;rintro e w5 ⟨xa,xv,rfl,ho,hb⟩
             rw [← HH.out] at ho
             have hrd:=ho.reads
             obtain ⟨axa,cxa,hxa⟩:=hrd.1.slice
             obtain ⟨axv,cxv,hxv⟩:=hrd.2.slice
             obtain ⟨nxa,HXA⟩:∃ n,Hid (n = (h.map (·.1)).length):=⟨_,rfl⟩
             obtain ⟨nxv,HXV⟩:∃ n,Hid (n = (h.map (·.2)).length):=⟨_,rfl⟩
             rw [← HXA.out] at hxa
             rw [← HXV.out] at hxv
             subst hxa hxv
             have HRX:Hid (ReadsLf w5 (.slice axa nxa cxa) (.slice axv nxv cxv) h):=hrd
             replace HI:Hid (SvI w1 B (.slice ab2 nb2 cb2) (.slice ar nr cr) usr bs psr w5):=HI.out.next hb
             clear ho hrd hb)
          | (clear td2;with_reducible refine wpSeq_allocLvs ?_ ?_ ?_
             · rfl
             · rfl
             intro g9 w6 nn
             have HNN:Hid (NewR [nilV,nilV] 43 w5 g9 w6):=nn
             clear nn)
          | (clear td3;with_reducible refine wpSeq_storeRow 43 (.tmp 9) (.tmp 32) g9 [nilV,nilV] [Value.slice axa nxa cxa,.slice axv nxv cxv] HNN.out.blk rfl info_lvs one_lvs ?_ ?_ ?_ ?_ ?_
             · rfl
             · rfl
             · rfl
             · rfl
             intro w7 sr
             have hb:Below w5.heap.size w5 w7:=HNN.out.below.trans (sr.only.below HNN.out.ge HNN.out.below.size)
             have H9:Hid (Blk w7 g9 [Value.slice axa nxa cxa,.slice axv nxv cxv] 43):=sr.blk
             replace HRX:Hid (ReadsLf w7 (.slice axa nxa cxa) (.slice axv nxv cxv) h):=HRX.out.below hb
             replace HI:Hid (SvI w1 B (.slice ab2 nb2 cb2) (.slice ar nr cr) usr bs psr w7):=HI.out.next hb
             have c9:w7.cell? ⟨g9,0,none⟩ = some (.slice axa nxa cxa):=H9.out.cell 0
             clear sr hb HNN))
        by_cases h2:h.length < 2
        case pos =>
          have hx2:(nxa:Int) < 2:=by rw [HXA.out,List.length_map];omega
          have HSD:Hid (sidePg d1 h = wholeL d1 h ∧ restPg d1 h = [] ∧ 0 < (wholeL d1 h).length ∧ (wholeL d1 h).length ≤ 65):=by
            have ho:=one_le HHF.out.1.1 h2
            refine ⟨by unfold sidePg;rw [if_pos h2],by unfold restPg;rw [if_pos h2],?_,?_⟩ <;> rw [whole_few h2,ho] <;> omega
          clear h2
          have te0:Hid True:=trivial
          have te1:Hid True:=trivial
          have te2:Hid True:=trivial
          go_wp2_with (first
            | (clear te0;with_reducible refine wpSeq_loadW 43 (.tmp 9) g9 0 [Value.slice axa nxa cxa,.slice axv nxv cxv] _ H9.out.range Tryz.underlying43 rfl info_lvs ?_ ?_ ?_ ?_
               · rfl
               · rfl
               · rfl)
            | (clear te1;go_at_call 28;refine (eWhole_any (256 - d1) d1 (by have:=HD.out;have:=HD1.out;omega) h _ _ _ HHF.out.1 HRX.out (by have:=HHF.out.2;omega) (by have:=HD.out;have:=HD1.out;omega)).mono ?_;rintro e w8 ⟨vw,rfl,ho,hb⟩
               have HRV:Hid (Reads w8 vw (wholeL d1 h)):=ho.reads
               replace HI:Hid (SvI w1 B (.slice ab2 nb2 cb2) (.slice ar nr cr) usr bs psr w8):=HI.out.next hb
               clear ho hb H9 HRX)
            | (clear te2;with_reducible refine wpSeq_appB (.tmp 37) (.tmp 41) B (.slice ab2 nb2 cb2) vw bs (wholeL d1 h) HI.out.b HRV.out HSD.out.2.2.1 (by have:=HSD.out.2.2.2;have:=HBL.out;omega) HI.out.le ?_ ?_ ?_ ?_ ?_
               · rfl
               · rfl
               · rfl
               · rfl
               intro v9 w9 ho hg
               obtain ⟨a9,c9',hv9⟩:=ho.formP
               obtain ⟨n9,HN9⟩:∃ n,Hid (n = (bs ++ wholeL d1 h).length):=⟨_,rfl⟩
               rw [← HN9.out] at hv9
               subst hv9
               replace HI:Hid (SvI w1 B (.slice a9 n9 c9') (.slice ar nr cr) usr (bs ++ wholeL d1 h) psr w9):=HI.out.appB ho hg
               clear ho hg HRV))
          go_roundw
          case rel => exact ⟨k + 1,a9,n9,c9',ar,nr,cr,usr,by omega,rfl,rfl,by simp,by rw [HNX.out.1,HNX.out.2,HSD.out.1,HSD.out.2.1,List.append_nil];exact HI.out⟩
          case measure => simp [intOf];omega
        case neg =>
          have hx2:¬ (nxa:Int) < 2:=by rw [HXA.out,List.length_map];omega
          obtain ⟨dg,HDG⟩:∃ z,Hid (z = dig (topPg d1 h)):=⟨_,rfl⟩
          have HDL:Hid (dg.length = 32):=by show _ = _;rw [HDG.out];exact len_dig' _
          have HSD:Hid (sidePg d1 h = 3 :: dg ∧ restPg d1 h = saveL d1 h ∧ (saveL d1 h).length ≤ 25601):=by
            refine ⟨by unfold sidePg;rw [if_neg h2,HDG.out],by unfold restPg;rw [if_neg h2],?_⟩
            have:=sv_count HF.out HD.out HL.out on
            rw [← HH.out,← HD1.out] at this
            unfold restPg at this
            rwa [if_neg h2] at this
          clear h2
          have tf0:Hid True:=trivial
          have tf1:Hid True:=trivial
          have tf2:Hid True:=trivial
          have tf3:Hid True:=trivial
          have tf4:Hid True:=trivial
          have tf5:Hid True:=trivial
          have tf6:Hid True:=trivial
          have tf7:Hid True:=trivial
          go_wp2_with (first
            | (clear tf0;with_reducible refine wpSeq_loadW 43 (.tmp 9) g9 0 [Value.slice axa nxa cxa,.slice axv nxv cxv] _ H9.out.range Tryz.underlying43 rfl info_lvs ?_ ?_ ?_ ?_
               · rfl
               · rfl
               · rfl)
            | (clear tf1;go_at_call 12;refine (HIH.out on _ _ _ (HKK.out _ HI.out.bl) (by rw [← HH.out];exact HRX.out)).mono ?_;rintro e w8 ⟨vm,usm,rfl,hp,hb⟩
               rw [← HH.out] at hp ⊢
               rw [← HDG.out]
               have hmo:=MoI.of HI.out hp
               obtain ⟨gm,cm,hvm,hcm,hce,hon⟩:=hp.row (by rw [save_top];simp)
               obtain ⟨nm,HNM⟩:∃ n,Hid (n = usm.length):=⟨_,rfl⟩
               rw [← HNM.out] at hvm
               subst hvm
               obtain ⟨Bm,HBM⟩:∃ z,Hid (z = w7.heap.size):=⟨_,rfl⟩
               rw [← HBM.out] at hmo
               have HBB2:Hid (B ≤ Bm):=by rw [HBM.out];exact HI.out.le
               have HM:Hid (MoI Bm (.slice ab2 nb2 cb2) (.slice ar nr cr) (.slice (some ⟨gm,0,none⟩) nm cm) usm (saveL d1 h) w8):=hmo
               replace HI:Hid (SvI w1 B (.slice ab2 nb2 cb2) (.slice ar nr cr) usr bs psr w8):=HI.out.next hb
               have HCM:Hid (nm ≤ cm ∧ ∀ u ∈ usm,u.oneCell' = true):=⟨by rw [HNM.out];exact hcm,hon⟩
               clear hmo hp hb hcm hce hon H9 HRX c9)
            | (clear tf2;with_reducible refine wpSeq_allocD ?_ ?_ ?_
               · rfl
               · rfl
               intro g10 w9 nn
               have HNN:Hid (Blk w9 g10 (cb zb32) 39 ∧ w8.heap.size ≤ g10 ∧ Below w8.heap.size w8 w9):=⟨nn.blk,nn.ge,nn.below⟩
               clear nn)
            | (clear tf3;with_reducible refine wpSeq_storeD (.tmp 10) (.tmp 48) g10 zb32 dg zb32_len HDL.out HNN.out.1 ?_ ?_ ?_ ?_ ?_
               · rfl
               · rfl
               · rfl
               · rfl
               intro w10 h9
               have hb:Below w8.heap.size w8 w10:=HNN.out.2.2.trans (h9.only.below HNN.out.2.1 HNN.out.2.2.size)
               have H10:Hid (Blk w10 g10 (cb dg) 39):=h9.blk
               replace HI:Hid (SvI w1 B (.slice ab2 nb2 cb2) (.slice ar nr cr) usr bs psr w10):=HI.out.next hb
               replace HM:Hid (MoI Bm (.slice ab2 nb2 cb2) (.slice ar nr cr) (.slice (some ⟨gm,0,none⟩) nm cm) usm (saveL d1 h) w10):=HM.out.next hb
               clear h9 hb HNN)
            | (clear tf4;with_reducible refine wpSeq_buildY 3 (.const (.int .u8 3)) ?_ ?_ ?_ ?_
               · rfl
               · rfl
               · rfl
               intro g11 w11 hy hge hb
               have HRY:Hid (Reads w11 (.slice (some ⟨g11,0,none⟩) 1 1) [3]):=blk_reads_y hy
               replace H10:Hid (Blk w11 g10 (cb dg) 39):=H10.out.below hb H10.out.lt
               replace HI:Hid (SvI w1 B (.slice ab2 nb2 cb2) (.slice ar nr cr) usr bs psr w11):=HI.out.next hb
               replace HM:Hid (MoI Bm (.slice ab2 nb2 cb2) (.slice ar nr cr) (.slice (some ⟨gm,0,none⟩) nm cm) usm (saveL d1 h) w11):=HM.out.next hb
               clear hy hge hb)
            | (clear tf5;with_reducible refine wpSeq_appB (.tmp 50) (.tmp 51) B (.slice ab2 nb2 cb2) (.slice (some ⟨g11,0,none⟩) 1 1) bs [3] HI.out.b HRY.out (by decide) (by have:=HBL.out;simp;omega) HI.out.le ?_ ?_ ?_ ?_ ?_
               · rfl
               · rfl
               · rfl
               · rfl
               intro v12 w12 ho hg
               obtain ⟨a12,c12,hv12⟩:=ho.formP
               obtain ⟨n12,HN12⟩:∃ n:Nat,Hid (n = (bs ++ ([3]:By)).length):=⟨_,rfl⟩
               rw [← HN12.out] at hv12
               subst hv12
               replace H10:Hid (Blk w12 g10 (cb dg) 39):=hg.mt.blk H10.out fun e => HI.out.b.ne_blk H10.out (by decide) e
               replace HM:Hid (MoI Bm (.slice a12 n12 c12) (.slice ar nr cr) (.slice (some ⟨gm,0,none⟩) nm cm) usm (saveL d1 h) w12):=HM.out.appB HI.out.b hg
               replace HI:Hid (SvI w1 B (.slice a12 n12 c12) (.slice ar nr cr) usr (bs ++ [3]) psr w12):=HI.out.appB ho hg
               have HRD:Hid (Reads w12 (.slice (some ⟨g10,0,none⟩) 32 32) dg):=reads_dig_at HDL.out H10.out.range
               have sd:=slice_dig17 g10 0 w12
               clear ho hg HRY H10)
            | (clear tf6;with_reducible refine wpSeq_appB (.tmp 53) (.tmp 54) B (.slice a12 n12 c12) (.slice (some ⟨g10,0,none⟩) 32 32) (bs ++ [3]) dg HI.out.b HRD.out (by have:=HDL.out;omega) (by have:=HBL.out;have:=HDL.out;simp;omega) HI.out.le ?_ ?_ ?_ ?_ ?_
               · rfl
               · rfl
               · rfl
               · rfl
               intro v13 w13 ho hg
               obtain ⟨a13,c13,hv13⟩:=ho.formP
               obtain ⟨n13,HN13⟩:∃ n:Nat,Hid (n = (bs ++ ([3]:By) ++ dg).length):=⟨_,rfl⟩
               rw [← HN13.out] at hv13
               subst hv13
               replace HM:Hid (MoI Bm (.slice a13 n13 c13) (.slice ar nr cr) (.slice (some ⟨gm,0,none⟩) nm cm) usm (saveL d1 h) w13):=HM.out.appB HI.out.b hg
               replace HI:Hid (SvI w1 B (.slice a13 n13 c13) (.slice ar nr cr) usr (bs ++ [3] ++ dg) psr w13):=HI.out.appB ho hg
               have HCE:Hid (∀ j u,usm[j]? = some u → w13.cell? ⟨gm,0 + j,none⟩ = some u):=row_cells HM.out.m
               clear ho hg HRD sd)
            | (clear tf7;with_reducible refine wpSeq_appXs (.tmp 56) (.tmp 57) B (.slice ar nr cr) usr usm gm 0 nm cm HI.out.r.own HNM.out.symm HCM.out.1 HCE.out HCM.out.2 (by have h1:=HI.out.r.len;have h2:=HPL.out;have h3:=HM.out.m.len;have h4:=HSD.out.2.2;have h5:=HNM.out;omega) HI.out.le ?_ ?_ ?_ ?_ ?_
               · rfl
               · rfl
               · rfl
               · rfl
               intro v14 w14 ho hg
               obtain ⟨a14,c14,hv14⟩:=ho.form
               obtain ⟨n14,HN14⟩:∃ n,Hid (n = (usr ++ usm).length):=⟨_,rfl⟩
               rw [← HN14.out] at hv14
               subst hv14
               replace HI:Hid (SvI w1 B (.slice a13 n13 c13) (.slice a14 n14 c14) (usr ++ usm) (bs ++ [3] ++ dg) (psr ++ saveL d1 h) w14):=HI.out.appR ho hg HM.out.m.len (HM.out.good HBB2.out)
               clear ho hg HM HCE))
          go_roundw
          case rel => exact ⟨k + 1,a13,n13,c13,a14,n14,c14,usr ++ usm,by omega,rfl,rfl,by simp,by rw [HNX.out.1,HNX.out.2,HSD.out.1,HSD.out.2.1,show bs ++ 3 :: dg = bs ++ [3] ++ dg by simp];exact HI.out⟩
          case measure => simp [intOf];omega
      case neg =>
        have hke:k = 2:=by omega
        subst hke
        have HT:Hid (saveL d l = svB d l 2 :: svP d l 2 ∧ topPg d l = svB d l 2):=⟨save_more HD.out HLG.out,top_more HD.out HLG.out⟩
        have HPP:Hid (0 < (svP d l 2).length):=sv_some HF.out HLG.out
        have HPL:Hid ((svP d l 2).length ≤ 51202):=sv_most HF.out HD.out HL.out 2
        have HBL:Hid ((svB d l 2).length ≤ 131):=sv_len HF.out 2
        obtain ⟨bs,HBS⟩:∃ z,Hid (z = svB d l 2):=⟨_,rfl⟩
        obtain ⟨psr,HPS⟩:∃ z,Hid (z = svP d l 2):=⟨_,rfl⟩
        rw [← HBS.out] at HBL HT HI
        rw [← HPS.out] at HPL HPP HT HI
        obtain ⟨dg,HDG⟩:∃ z,Hid (z = dig bs):=⟨_,rfl⟩
        have HDL:Hid (dg.length = 32):=by show _ = _;rw [HDG.out];exact len_dig' _
        obtain ⟨gr,cr2,hvr,hcr,hce,hon⟩:=HI.out.r.row HPP.out
        obtain ⟨nr2,HNR⟩:∃ n,Hid (n = usr.length):=⟨_,rfl⟩
        rw [← HNR.out] at hvr
        simp only [Value.slice.injEq] at hvr
        obtain ⟨rfl,rfl,rfl⟩:=hvr
        have HCM:Hid (nr ≤ cr ∧ ∀ u ∈ usr,u.oneCell' = true):=⟨by rw [HNR.out];exact hcr,hon⟩
        clear hcr hce hon
        have HLE:Hid (B ≤ wr.heap.size):=HI.out.le
        have tg0:Hid True:=trivial
        have tg1:Hid True:=trivial
        have tg2:Hid True:=trivial
        have tg3:Hid True:=trivial
        go_wp2_with (first
          | (clear tg0;with_reducible refine wpSeq_buildX (.tmp 59) ab2 nb2 cb2 ?_ ?_ ?_ ?_
             · rfl
             · rfl
             · rfl
             intro g12 w5 hy hge hb
             have HOU:Hid (wr.heap.size ≤ g12 ∧ Blk w5 g12 [.slice ab2 nb2 cb2] 48 ∧ ∀ k,k < wr.heap.size → k ≠ g12):=⟨hge,hy,fun k hk e => by omega⟩
             have HLB:Hid ((∀ k,(Value.slice ab2 nb2 cb2).ownBlock = some k → k < g12) ∧ ∀ (j:Nat) (u:Value),usr[j]? = some u → ∀ k,u.ownBlock = some k → k < g12):=⟨fun k hk => Nat.lt_of_lt_of_le (HI.out.b.ltP k hk).2 hge,fun j u hj k hk => Nat.lt_of_lt_of_le ((HI.out.r.good j u hj).2 k hk).1 hge⟩
             replace HI:Hid (SvI w1 B (.slice ab2 nb2 cb2) (.slice (some ⟨gr,0,none⟩) nr cr) usr bs psr w5):=HI.out.next hb
             have HOP:Hid (PgS w5 B (.slice (some ⟨g12,0,none⟩) 1 1) [.slice ab2 nb2 cb2] [bs] (fun k => k < B)):=⟨blk_own_x hy (Nat.le_trans HLE.out hge),rfl,fun j u hj => by
               match j,hj with
               | 0,hj => cases hj;exact ⟨HI.out.b.reads,fun k hk => ⟨(HI.out.b.ltP k hk).2,fun e => by have h1:=HLB.out.1 k hk;simp only [Value.ownBlock,Option.some.injEq] at e;omega,by have h1:=(HI.out.b.ltP k hk).1;omega⟩⟩
               | _ + 1,hj => simp at hj⟩
             clear hy hge hb HOU)
          | (clear tg1;go_at_call 13;refine (rOf_any _ bs _ HI.out.b.reads (by have:=HBL.out;omega)).mono ?_;rintro e w6 ⟨rfl,hb⟩
             rw [← HDG.out]
             replace HI:Hid (SvI w1 B (.slice ab2 nb2 cb2) (.slice (some ⟨gr,0,none⟩) nr cr) usr bs psr w6):=HI.out.next hb
             replace HOP:Hid (PgS w6 B (.slice (some ⟨g12,0,none⟩) 1 1) [.slice ab2 nb2 cb2] [bs] (fun k => k < B)):=HOP.out.next hb
             have HCE:Hid (∀ j u,usr[j]? = some u → w6.cell? ⟨gr,0 + j,none⟩ = some u):=row_cells HI.out.r
             clear hb)
          | (clear tg2;with_reducible refine wpSeq_appXs (.tmp 63) (.tmp 64) B (.slice (some ⟨g12,0,none⟩) 1 1) [.slice ab2 nb2 cb2] usr gr 0 nr cr HOP.out.own HNR.out.symm HCM.out.1 HCE.out HCM.out.2 (by have h1:=HI.out.r.len;have h2:=HPL.out;have h3:=HNR.out;simp;omega) HI.out.le ?_ ?_ ?_ ?_ ?_
             · rfl
             · rfl
             · rfl
             · rfl
             intro v7 w7 ho hg
             have HZ:Hid (PgS w7 B v7 ([.slice ab2 nb2 cb2] ++ usr) ([bs] ++ psr) (fun k => k < B)):=HOP.out.mores ho hg HI.out.r.len fun j u hj => ⟨(HI.out.r.good j u hj).1,fun k hk => ⟨((HI.out.r.good j u hj).2 k hk).1,(fun e => by have h1:=HLB.out.2 j u hj k hk;simp only [Value.ownBlock,Option.some.injEq] at e;omega),fun e => ((HI.out.r.good j u hj).2 k hk).2.2 (Or.inl e)⟩⟩
             have HBZ:Hid (Below B w1 w7):=HI.out.bl.trans (hg.below HI.out.le fun k hk => (HOP.out.own.lt k hk).1)
             have HLZ:Hid (B ≤ w7.heap.size):=Nat.le_trans HI.out.le hg.mt.size
             have H4:Hid (Blk w7 g4 (cb zb32) 39):=H4W.out _ HBZ.out
             clear ho hg HI HOP HCE)
          | (clear tg3;with_reducible refine wpSeq_storeD (.tmp 4) (.tmp 62) g4 zb32 dg zb32_len HDL.out H4.out ?_ ?_ ?_ ?_ ?_
             · rfl
             · rfl
             · rfl
             · rfl
             intro w8 h9
             have HN4:Hid (Blk w8 g4 (cb dg) 39):=h9.blk
             have HO8:Hid (Only g4 w7 w8):=h9.only
             clear h9))
        refine bodyPost_ret (results_row_tmp (by rfl) _ _ _ g4 39 (cb dg) _ v7 rfl rfl HN4.out Tryz.underlying39 rfl (by rw [cb_len,HDL.out];exact info_digest)) rfl ?_
        have hB1:w.heap.size ≤ B:=by rw [HBB.out];exact HB1.out.size
        refine ⟨v7,[.slice ab2 nb2 cb2] ++ usr,by rw [HDG.out,HT.out.2],?_,HB1.out.trans ((HBZ.out.mono hB1).trans (HO8.out.below HG4.out (Nat.le_trans hB1 HLZ.out)))⟩
        rw [HT.out.1]
        exact ((HZ.out.only (show g4 < B from H4L.out.1) (fun e => by have h1:=(HZ.out.own.lt g4 e).1;have h2:=H4L.out.1;omega) HO8.out).weak fun k _ h => by have h1:=h;omega).lower hB1
theorem eSave_any:∀ (f d:Nat),256 ≤ d + f → ∀ (l:List Lf) (va vv:Value) (w:World),KOk w → Fits l d → ReadsLf w va vv l → l.length ≤ 100 → d ≤ 256 →
    Calls Tryz.prog 12 #[.agg #[va,vv],.int .i64 (d:Int)] w (SvR w d l):=by
  intro f
  induction f with
  | zero => exact fun d hf l va vv w hK hF hR hl hd => eSave_step l d va vv w hK hF hR hl hd fun h2 => absurd h2 (by omega)
  | succ f ih => exact fun d hf l va vv w hK hF hR hl hd => eSave_step l d va vv w hK hF hR hl hd fun h2 on xa xv W hK hx => ih (d + 1) (by omega) (halfL l d on) xa xv W hK (hF.half on) hx (Nat.le_trans (half_le l d on) hl) h2
end Go.Proofs.YtphmmnffgknkcaaGreatDoor
namespace Go.Proofs.YtphmmnffgknkcaaGreatDoor
open Go.RowKit
set_option maxRecDepth 100000
theorem wpSeq_idxQ17 {ops:Array Oper} {Q:Exit → Act → World → Prop} {rest:List Oper} {o:Oper} {a:Act} {w:World} (x y:Operand) (b off n c k:Nat) (hk:k < n) (ho:o.op = .indexAddr 26 x y) (hx:a.eval x = .slice (some ⟨b,off,none⟩) n c) (hy:a.eval y = .int .i64 (k:Int)) (hw:Region.wanted o (yielded ops a.tmps) = true)
    (h:wpList Tryz.prog ops Q rest (a.put o.dst (.pointer (some ⟨b,off + k,none⟩))) w):wpList Tryz.prog ops Q (o :: rest) a w:=
  wpSeq_val _ _ hw (idxQ b off n c k hk _ _ x y ho hx hy w) h
theorem eSave_zero (l:List Lf) (va vv:Value) (w:World) (hK:KOk w) (hF:Fits l 0) (hR:ReadsLf w va vv l) (hl:l.length ≤ 100):Calls Tryz.prog 12 #[.agg #[va,vv],.int .i64 0] w (SvR w 0 l):=
  eSave_any 256 0 (by omega) l va vv w hK hF hR hl (by omega)
end Go.Proofs.YtphmmnffgknkcaaGreatDoor
namespace Go.Proofs.YtphmmnffgknkcaaGreatDoor
open Go.RowKit
set_option maxRecDepth 100000
theorem idxD17 (b off cap n k:Nat) (hk:k < n) (f:Operand → Value) (o:Oper) (x y:Operand) (ho:o.op = .indexAddr 22 x y) (hx:f x = .slice (some ⟨b,off,none⟩) n cap) (hy:f y = .int .i64 (k:Int)) (w:World) :
    (execOp f o).run Tryz.prog w = .ok (.value (.pointer (some ⟨b,off + k * 32,none⟩))) w:=by
  have k0:(0:Int) ≤ (k:Int):=by omega
  have k1:(k:Int) < (n:Int):=by omega
  unfold execOp
  rw [ho]
  simp [go_sem,hx,hy,k0,k1,Addr.add_mid]
def Apart17 (ls:List By):Prop:=∀ i j,i < ls.length → j < i → dig (ls.getD j []) = dig (ls.getD i []) → ls.getD j [] = ls.getD i []
theorem apart_mem {ls:List By} (h:Apart17 ls):∀ p ∈ ls,∀ q ∈ ls,dig p = dig q → p = q:=by
  intro p hp q hq he
  obtain ⟨i,hi,rfl⟩:=mem_getD.1 hp
  obtain ⟨j,hj,rfl⟩:=mem_getD.1 hq
  rcases Nat.lt_trichotomy i j with h1 | h1 | h1
  · exact h j i hj h1 he
  · rw [h1]
  · exact (h i j hi h1 he.symm).symm
theorem getD_take {α:Type} (l:List α) (n j:Nat) (z:α) (h:j < n):(l.take n).getD j z = l.getD j z:=by
  rw [List.getD_eq_getElem?_getD,List.getD_eq_getElem?_getD,List.getElem?_take_of_lt h]
theorem apart_more {ls:List By} {i:Nat} (h:Apart17 (ls.take i)) (hn:∀ j,j < i → dig (ls.getD j []) = dig (ls.getD i []) → ls.getD j [] = ls.getD i []):Apart17 (ls.take (i + 1)):=by
  intro a b ha hb he
  rw [List.length_take] at ha
  rw [getD_take _ _ _ _ (by omega),getD_take _ _ _ _ (by omega)] at he ⊢
  rcases Nat.lt_or_ge a i with h1 | h1
  · have:=h a b (by rw [List.length_take];omega) hb
    rw [getD_take _ _ _ _ (by omega),getD_take _ _ _ _ (by omega)] at this
    exact this he
  · have:a = i:=by omega
    subst this
    exact hn b hb he
set_option maxRecDepth 100000 in
set_option maxHeartbeats 8000000 in
theorem any9_any (vl:Value) (ls:List By) (w:World) (hL:ReadsL w vl ls) (hl:∀ p ∈ ls,p.length < 140737488355000) (hn:ls.length < 1000000) :
    Calls Tryz.prog 5 #[vl] w fun e w' => ∃ t:Bool,e = .returned (.bool t) ∧ (t = false → Apart17 ls) ∧ Below w.heap.size w w':=by
  have HLS:Hid (∀ p ∈ ls,p.length < 140737488355000):=hl
  obtain ⟨ad,cap,hv,_,_,hx⟩:=hL
  obtain ⟨n,HN⟩:∃ n,Hid (n = ls.length):=⟨_,rfl⟩
  rw [← HN.out] at hv
  subst hv
  have HX:Hid (0 < ls.length → ∃ b off,ad = some ⟨b,off,none⟩ ∧ ∀ j,j < ls.length → ∃ vj,w.cell? ⟨b,off + j,none⟩ = some vj ∧ Reads w vj (ls.getD j [])):=hx
  have HNN:Hid (n < 1000000):=by show _ < _;rw [HN.out];exact hn
  clear hx hl hn
  go_enter Tryz.func5,Tryz.ntmps5
  go_wp2
  go_loopw [3,4] (fun v i wr => ∃ (k:Nat) (av:Option Addr) (nv cv:Nat),k ≤ n ∧ v = .slice av nv cv ∧ i = .int .i64 k ∧ Hid (OwnD wr w.heap.size (.slice av nv cv) ((ls.take k).map dig)) ∧ Hid (Apart17 (ls.take k)) ∧ Hid (Below w.heap.size w wr)) (fun _ i _ => n - (intOf i).toNat)
  case atStart => exact ⟨0,none,0,0,Nat.zero_le _,rfl,rfl,OwnD.nil _ _,(fun i j hi => by simp at hi),Below.refl _ _⟩
  case round =>
    obtain ⟨i,av,nv,cv,hi,rfl,rfl,HO,HAP,HBW⟩:=hrel
    by_cases hlt:i < n
    case pos =>
      have hli:(i:Int) < (n:Int):=by omega
      have fi:IntKind.i64.wrap ((i:Int) + 1) = (i:Int) + 1:=by rw [IntKind.wrap_i64];have:=HNN.out;omega
      have HIL:Hid (i < ls.length):=by show _ < _;rw [← HN.out];exact hlt
      obtain ⟨bb,off,rfl,hat⟩:=HX.out (by have:=HIL.out;omega)
      have HAT:Hid (∀ j,j < ls.length → ∃ aj nj cj,nj = (ls.getD j []).length ∧ ∀ wx,Below w.heap.size w wx → wx.cell? ⟨bb,off + j,none⟩ = some (.slice aj nj cj) ∧ Reads wx (.slice aj nj cj) (ls.getD j [])):=fun j hj => by
        obtain ⟨vj,hc,hr⟩:=hat j hj
        obtain ⟨aj,cj,rfl,_⟩:=id hr
        exact ⟨aj,_,cj,rfl,fun wx hx => ⟨by rw [hx.cell (p:=⟨bb,off + j,none⟩) (block_lt_of_cell hc)];exact hc,hr.below hx⟩⟩
      clear hat HX
      obtain ⟨p,HP⟩:∃ z,Hid (z = ls.getD i []):=⟨_,rfl⟩
      obtain ⟨a1,n1,c1,hn1,h1⟩:=HAT.out i HIL.out
      rw [← HP.out] at h1
      have HCE:Hid (∀ wx,Below w.heap.size w wx → wx.cell? ⟨bb,off + i,none⟩ = some (.slice a1 n1 c1)):=fun wx hx => (h1 wx hx).1
      have HRP:Hid (∀ wx,Below w.heap.size w wx → Reads wx (.slice a1 n1 c1) p):=fun wx hx => (h1 wx hx).2
      clear hn1 h1
      have HPL:Hid (p.length < 140737488355000):=HLS.out p (by rw [HP.out,List.getD_eq_getElem?_getD,List.getElem?_eq_getElem HIL.out];exact List.getElem_mem HIL.out)
      obtain ⟨dp,HDP⟩:∃ z,Hid (z = dig p):=⟨_,rfl⟩
      have HDPL:Hid (dp.length = 32):=by show _ = _;rw [HDP.out];exact len_dig' _
      obtain ⟨D,HDD⟩:∃ z,Hid (z = (ls.take (i + 1)).map dig):=⟨_,rfl⟩
      have HDS:Hid (D = (ls.take i).map dig ++ [dp]):=by
        show _ = _
        rw [HDD.out,HDP.out,HP.out,List.take_add_one,List.getElem?_eq_getElem HIL.out,List.getD_eq_getElem?_getD,List.getElem?_eq_getElem HIL.out,List.map_append,Option.toList_some,List.map_cons,List.map_nil,Option.getD_some]
      have HDL:Hid (D.length = i + 1):=by show _ = _;rw [HDD.out,List.length_map,List.length_take];have:=HIL.out;omega
      have HDJ:Hid (∀ j,j < i + 1 → D.getD j [] = dig (ls.getD j [])):=fun j hj => by
        rw [HDD.out,List.getD_eq_getElem?_getD,List.getElem?_map,List.getElem?_take_of_lt hj,List.getD_eq_getElem?_getD,List.getElem?_eq_getElem (by have:=HIL.out;omega:j < ls.length),Option.map_some,Option.getD_some,Option.getD_some]
      have HTL:Hid (((ls.take i).map dig).length < 2000000):=by show _ < _;rw [List.length_map,List.length_take];have:=HNN.out;omega
      obtain ⟨D0,HD0⟩:∃ z,Hid (z = (ls.take i).map dig):=⟨_,rfl⟩
      rw [← HD0.out] at HO HDS HTL
      have hcw:wr.cell? ⟨bb,off + i,none⟩ = some (.slice a1 n1 c1):=HCE.out wr HBW.out
      have tk0:Hid True:=trivial
      have tk1:Hid True:=trivial
      have tk2:Hid True:=trivial
      have tk3:Hid True:=trivial
      go_wp2_with (first
        | (clear tk0;with_reducible refine wpSeq_idxQ17 (.tmp 13) (.tmp 14) bb off n cap i hlt ?_ ?_ ?_ ?_ ?_
           · rfl
           · rfl
           · rfl
           · rfl
           skip)
        | (clear tk1;go_at_call 13;refine (rOf_big _ p _ (HRP.out _ HBW.out) HPL.out).mono ?_;rintro e w5 ⟨rfl,hb⟩
           rw [← HDP.out]
           replace HO:Hid (OwnD w5 w.heap.size (.slice av nv cv) D0):=HO.out.keep fun j _ hj => hb.block j hj
           replace HBW:Hid (Below w.heap.size w w5):=HBW.out.trans (hb.mono HBW.out.size)
           clear hb)
        | (clear tk2;with_reducible refine wpSeq_buildD (.tmp 17) dp HDPL.out ?_ ?_ ?_ ?_
           · rfl
           · rfl
           · rfl
           intro g8 w8 n8
           replace HO:Hid (OwnD w8 w.heap.size (.slice av nv cv) D0):=HO.out.keep fun j _ hj => n8.below.block j hj
           replace HBW:Hid (Below w.heap.size w w8):=HBW.out.trans (n8.below.mono HBW.out.size)
           have H8:Hid (Blk w8 g8 (cb dp) 39):=n8.blk
           clear n8)
        | (clear tk3;with_reducible refine wpSeq_appendD (.tmp 12) (.tmp 18) w.heap.size (.slice av nv cv) D0 dp g8 HO.out H8.out HDPL.out HTL.out HBW.out.size ?_ ?_ ?_ ?_ ?_
           · rfl
           · rfl
           · rfl
           · rfl
           intro vv9 wz o9 g9
           have HO9:Hid (OwnD wz w.heap.size vv9 D):=by rw [HDS.out];exact o9
           have HBZ:Hid (Below w.heap.size w wz):=HBW.out.trans g9.below
           clear o9 g9 HO H8))
      obtain ⟨bD,oD,cD,hvD,hatD⟩:=HO9.out.readsD.at (by have:=HDL.out;omega)
      rw [HDL.out] at hvD
      subst hvD
      have HRD:Hid (∀ W,Below wz.heap.size wz W → ∀ j,j < i + 1 → W.rangeAt bD (oD + j * 32) (cb (D.getD j []))):=fun W hW j hj =>
        rangeAt_below (hatD j (by have:=HDL.out;omega)) hW (range_lt (hatD j (by have:=HDL.out;omega)) (by rw [cb_len,HDJ.out j hj,len_dig'];omega))
      have HBZZ:Hid (∀ W,Below wz.heap.size wz W → Below w.heap.size w W):=fun W hW => HBZ.out.trans (hW.mono HBZ.out.size)
      have HOK:Hid (∀ W,Below wz.heap.size wz W → OwnD W w.heap.size (.slice (some ⟨bD,oD,none⟩) (i + 1) cD) D):=fun W hW => HO9.out.keep fun j _ hj => hW.block j hj
      clear hatD hcw HO9
      go_loopw [5] (fun q w2 => ∃ k:Nat,k ≤ i ∧ q = .int .i64 k ∧ Hid (∀ j,j < k → dig (ls.getD j []) = dp → ls.getD j [] = p) ∧ Hid (Below wz.heap.size wz w2)) (fun q _ => i - (intOf q).toNat)
      case atStart => exact ⟨0,Nat.zero_le _,rfl,(fun j hj => by omega),Below.refl _ _⟩
      case round =>
        rename World => wq
        obtain ⟨k,hk,rfl,HJ,HBQ⟩:=hrel
        by_cases hki:k < i
        case pos =>
          have hlk:(k:Int) < (i:Int):=by omega
          have fk:IntKind.i64.wrap ((k:Int) + 1) = (k:Int) + 1:=by rw [IntKind.wrap_i64];have:=HNN.out;omega
          obtain ⟨a2,n2,c2,hn2,h2⟩:=HAT.out k (by have:=HIL.out;omega)
          obtain ⟨q,HQ⟩:∃ z,Hid (z = ls.getD k []):=⟨_,rfl⟩
          rw [← HQ.out] at h2
          have HC2:Hid (∀ wx,Below w.heap.size w wx → wx.cell? ⟨bb,off + k,none⟩ = some (.slice a2 n2 c2)):=fun wx hx => (h2 wx hx).1
          have HR2:Hid (∀ wx,Below w.heap.size w wx → Reads wx (.slice a2 n2 c2) q):=fun wx hx => (h2 wx hx).2
          clear hn2 h2
          obtain ⟨dk,HDK⟩:∃ z,Hid (z = dig q):=⟨_,rfl⟩
          have HDKL:Hid (dk.length = 32):=by show _ = _;rw [HDK.out];exact len_dig' _
          have HRK:Hid (∀ W,Below wz.heap.size wz W → W.rangeAt bD (oD + k * 32) (cb dk)):=fun W hW => by have:=HRD.out W hW k (by omega);rw [HDJ.out k (by omega),← HQ.out,← HDK.out] at this;exact this
          have HRI:Hid (∀ W,Below wz.heap.size wz W → W.rangeAt bD (oD + i * 32) (cb dp)):=fun W hW => by have:=HRD.out W hW i (by omega);rw [HDJ.out i (by omega),← HP.out,← HDP.out] at this;exact this
          obtain ⟨c1b,HCB⟩:∃ z,Hid (z = decide (dk = dp)):=⟨_,rfl⟩
          obtain ⟨c2b,HCC⟩:∃ z,Hid (z = decide (q ≠ p)):=⟨_,rfl⟩
          have HEQ:Hid ((!((strB q).toList == (strB p).toList)) = c2b):=by show _ = _;rw [strB_inj,HCC.out];by_cases h:q = p <;> simp [h]
          have HNX:Hid ((c1b && c2b) = false → ∀ j,j < k + 1 → dig (ls.getD j []) = dp → ls.getD j [] = p):=fun hf j hj he => by
            rcases Nat.lt_or_ge j k with h1 | h1
            · exact HJ.out j h1 he
            · have:j = k:=by omega
              subst this
              rw [← HQ.out] at he ⊢
              rw [HCB.out,HCC.out,decide_eq_true (by rw [HDK.out];exact he)] at hf
              simpa using hf
          cases c1b with
          | false =>
            have HN2:Hid (∀ j,j < k + 1 → dig (ls.getD j []) = dp → ls.getD j [] = p):=HNX.out rfl
            go_wp2
            refine wp_region_held_drew (S:=fun W => W = wq.drew) (by kernel_rfl) rfl ?_
            intro hS
            have HBQ2:Hid (Below wz.heap.size wz wq.drew):=HBQ.out.drew
            obtain ⟨y,HY⟩:∃ z,z = wq.drew:=⟨_,rfl⟩
            rw [← HY] at HBQ2 hS ⊢
            refine wpAnyH_take (i:=0) (v:=.slice (some ⟨bD,oD,none⟩) (i + 1) cD) rfl (by kernel_rfl) (by kernel_rfl) (by kernel_rfl) (fun _ _ _ h => h) (Or.inl ⟨by rfl,fun wx hx => by simp [go_sem]⟩) hS ?_
            simp only [Act.put,List.getElem_toArray,List.getElem_cons_zero,List.setIfInBounds_toArray,List.set_cons_zero,List.set_cons_succ]
            refine wpAnyH_take (i:=1) (v:=.int .i64 (k:Int)) rfl (by kernel_rfl) (by kernel_rfl) (by kernel_rfl) (fun _ _ _ h => h) (Or.inl ⟨by rfl,fun wx hx => by simp [go_sem]⟩) hS ?_
            simp only [Act.put,List.getElem_toArray,List.getElem_cons_succ,List.getElem_cons_zero,List.setIfInBounds_toArray,List.set_cons_zero,List.set_cons_succ]
            refine wpAnyH_take (i:=2) (v:=.pointer (some ⟨bD,oD + k * 32,none⟩)) rfl (by kernel_rfl) (by kernel_rfl) (by kernel_rfl) (fun _ _ _ h => h) (Or.inl ⟨by rfl,fun wx hx => by exact idxD17 bD oD cD (i + 1) k (by omega) _ _ _ _ rfl rfl rfl _⟩) hS ?_
            simp only [Act.put,List.getElem_toArray,List.getElem_cons_succ,List.getElem_cons_zero,List.setIfInBounds_toArray,List.set_cons_zero,List.set_cons_succ]
            refine wpAnyH_take (i:=3) (v:=.agg (cb dk).toArray) rfl (by kernel_rfl) (by kernel_rfl) (by kernel_rfl) (fun _ _ _ h => h) (Or.inl ⟨by rfl,fun wx hx => by (rw [hx];have hr:=HRK.out _ HBQ2.out;exact load_run 39 _ rfl _ _ rfl (cb dk) _ hr Tryz.underlying39 rfl (by rw [cb_len,HDKL.out];exact info_digest))⟩) hS ?_
            simp only [Act.put,List.getElem_toArray,List.getElem_cons_succ,List.getElem_cons_zero,List.setIfInBounds_toArray,List.set_cons_zero,List.set_cons_succ]
            refine wpAnyH_take (i:=4) (v:=.slice (some ⟨bD,oD,none⟩) (i + 1) cD) rfl (by kernel_rfl) (by kernel_rfl) (by kernel_rfl) (fun _ _ _ h => h) (Or.inl ⟨by rfl,fun wx hx => by simp [go_sem]⟩) hS ?_
            simp only [Act.put,List.getElem_toArray,List.getElem_cons_succ,List.getElem_cons_zero,List.setIfInBounds_toArray,List.set_cons_zero,List.set_cons_succ]
            refine wpAnyH_take (i:=5) (v:=.int .i64 (i:Int)) rfl (by kernel_rfl) (by kernel_rfl) (by kernel_rfl) (fun _ _ _ h => h) (Or.inl ⟨by rfl,fun wx hx => by simp [go_sem]⟩) hS ?_
            simp only [Act.put,List.getElem_toArray,List.getElem_cons_succ,List.getElem_cons_zero,List.setIfInBounds_toArray,List.set_cons_zero,List.set_cons_succ]
            refine wpAnyH_take (i:=6) (v:=.pointer (some ⟨bD,oD + i * 32,none⟩)) rfl (by kernel_rfl) (by kernel_rfl) (by kernel_rfl) (fun _ _ _ h => h) (Or.inl ⟨by rfl,fun wx hx => by exact idxD17 bD oD cD (i + 1) i (by omega) _ _ _ _ rfl rfl rfl _⟩) hS ?_
            simp only [Act.put,List.getElem_toArray,List.getElem_cons_succ,List.getElem_cons_zero,List.setIfInBounds_toArray,List.set_cons_zero,List.set_cons_succ]
            refine wpAnyH_take (i:=7) (v:=.agg (cb dp).toArray) rfl (by kernel_rfl) (by kernel_rfl) (by kernel_rfl) (fun _ _ _ h => h) (Or.inl ⟨by rfl,fun wx hx => by (rw [hx];have hr:=HRI.out _ HBQ2.out;exact load_run 39 _ rfl _ _ rfl (cb dp) _ hr Tryz.underlying39 rfl (by rw [cb_len,HDPL.out];exact info_digest))⟩) hS ?_
            simp only [Act.put,List.getElem_toArray,List.getElem_cons_succ,List.getElem_cons_zero,List.setIfInBounds_toArray,List.set_cons_zero,List.set_cons_succ]
            refine wpAnyH_take (i:=8) (v:=.bool false) rfl (by kernel_rfl) (by kernel_rfl) (by kernel_rfl) (fun _ _ _ h => h) (Or.inl ⟨by rfl,fun wx hx => by (have hq:=eq_dig dk dp HDKL.out HDPL.out wx;rw [← HCB.out] at hq;simp [go_sem,hq])⟩) hS ?_
            simp only [Act.put,List.getElem_toArray,List.getElem_cons_succ,List.getElem_cons_zero,List.setIfInBounds_toArray,List.set_cons_zero,List.set_cons_succ]
            refine wpAnyH_take (i:=9) (v:=.bool false) rfl (by kernel_rfl) (by kernel_rfl) (by kernel_rfl) (fun _ _ _ h => h) (Or.inl ⟨by rfl,fun wx hx => by simp [go_sem]⟩) hS ?_
            simp only [Act.put,List.getElem_toArray,List.getElem_cons_succ,List.getElem_cons_zero,List.setIfInBounds_toArray,List.set_cons_zero,List.set_cons_succ]
            refine wpAnyH_take (i:=10) (v:=undef) rfl (by kernel_rfl) (by kernel_rfl) (by kernel_rfl) (fun _ _ _ h => h) (Or.inr ⟨by rfl,rfl⟩) hS ?_
            simp only [Act.put,List.getElem_toArray,List.getElem_cons_succ,List.getElem_cons_zero,List.setIfInBounds_toArray,List.set_cons_zero,List.set_cons_succ]
            refine wpAnyH_take (i:=11) (v:=undef) rfl (by kernel_rfl) (by kernel_rfl) (by kernel_rfl) (fun _ _ _ h => h) (Or.inr ⟨by rfl,rfl⟩) hS ?_
            simp only [Act.put,List.getElem_toArray,List.getElem_cons_succ,List.getElem_cons_zero,List.setIfInBounds_toArray,List.set_cons_zero,List.set_cons_succ]
            refine wpAnyH_take (i:=12) (v:=undef) rfl (by kernel_rfl) (by kernel_rfl) (by kernel_rfl) (fun _ _ _ h => h) (Or.inr ⟨by rfl,rfl⟩) hS ?_
            simp only [Act.put,List.getElem_toArray,List.getElem_cons_succ,List.getElem_cons_zero,List.setIfInBounds_toArray,List.set_cons_zero,List.set_cons_succ]
            refine wpAnyH_take (i:=13) (v:=undef) rfl (by kernel_rfl) (by kernel_rfl) (by kernel_rfl) (fun _ _ _ h => h) (Or.inr ⟨by rfl,rfl⟩) hS ?_
            simp only [Act.put,List.getElem_toArray,List.getElem_cons_succ,List.getElem_cons_zero,List.setIfInBounds_toArray,List.set_cons_zero,List.set_cons_succ]
            refine wpAnyH_take (i:=14) (v:=undef) rfl (by kernel_rfl) (by kernel_rfl) (by kernel_rfl) (fun _ _ _ h => h) (Or.inr ⟨by rfl,rfl⟩) hS ?_
            simp only [Act.put,List.getElem_toArray,List.getElem_cons_succ,List.getElem_cons_zero,List.setIfInBounds_toArray,List.set_cons_zero,List.set_cons_succ]
            refine wpAnyH_take (i:=15) (v:=undef) rfl (by kernel_rfl) (by kernel_rfl) (by kernel_rfl) (fun _ _ _ h => h) (Or.inr ⟨by rfl,rfl⟩) hS ?_
            simp only [Act.put,List.getElem_toArray,List.getElem_cons_succ,List.getElem_cons_zero,List.setIfInBounds_toArray,List.set_cons_zero,List.set_cons_succ]
            refine wpAnyH_take (i:=16) (v:=undef) rfl (by kernel_rfl) (by kernel_rfl) (by kernel_rfl) (fun _ _ _ h => h) (Or.inr ⟨by rfl,rfl⟩) hS ?_
            simp only [Act.put,List.getElem_toArray,List.getElem_cons_succ,List.getElem_cons_zero,List.setIfInBounds_toArray,List.set_cons_zero,List.set_cons_succ]
            refine wpAnyH_take (i:=17) (v:=undef) rfl (by kernel_rfl) (by kernel_rfl) (by kernel_rfl) (fun _ _ _ h => h) (Or.inr ⟨by rfl,rfl⟩) hS ?_
            simp only [Act.put,List.getElem_toArray,List.getElem_cons_succ,List.getElem_cons_zero,List.setIfInBounds_toArray,List.set_cons_zero,List.set_cons_succ]
            refine wpAnyH_take (i:=18) (v:=undef) rfl (by kernel_rfl) (by kernel_rfl) (by kernel_rfl) (fun _ _ _ h => h) (Or.inr ⟨by rfl,rfl⟩) hS ?_
            simp only [Act.put,List.getElem_toArray,List.getElem_cons_succ,List.getElem_cons_zero,List.setIfInBounds_toArray,List.set_cons_zero,List.set_cons_succ]
            refine wpAnyH_take (i:=19) (v:=undef) rfl (by kernel_rfl) (by kernel_rfl) (by kernel_rfl) (fun _ _ _ h => h) (Or.inr ⟨by rfl,rfl⟩) hS ?_
            simp only [Act.put,List.getElem_toArray,List.getElem_cons_succ,List.getElem_cons_zero,List.setIfInBounds_toArray,List.set_cons_zero,List.set_cons_succ]
            refine wpAnyH_take (i:=20) (v:=undef) rfl (by kernel_rfl) (by kernel_rfl) (by kernel_rfl) (fun _ _ _ h => h) (Or.inr ⟨by rfl,rfl⟩) hS ?_
            simp only [Act.put,List.getElem_toArray,List.getElem_cons_succ,List.getElem_cons_zero,List.setIfInBounds_toArray,List.set_cons_zero,List.set_cons_succ]
            refine wpAnyH_take (i:=21) (v:=.bool false) rfl (by kernel_rfl) (by kernel_rfl) (by kernel_rfl) (fun _ _ _ h => h) (Or.inl ⟨by rfl,fun wx hx => by simp [go_sem]⟩) hS ?_
            simp only [Act.put,List.getElem_toArray,List.getElem_cons_succ,List.getElem_cons_zero,List.setIfInBounds_toArray,List.set_cons_zero,List.set_cons_succ]
            refine wpAnyH_done (by kernel_rfl) ?_ _
            clear hS HY
            go_wp2
            go_roundw
            case rel => exact ⟨k + 1,by omega,by simp,HN2,HBQ2⟩
            case measure => simp [intOf];omega
          | true =>
            cases c2b with
            | false =>
              have HN2:Hid (∀ j,j < k + 1 → dig (ls.getD j []) = dp → ls.getD j [] = p):=HNX.out rfl
              go_wp2
              refine wp_region_held_drew (S:=fun W => W = wq.drew) (by kernel_rfl) rfl ?_
              intro hS
              have HBQ2:Hid (Below wz.heap.size wz wq.drew):=HBQ.out.drew
              obtain ⟨y,HY⟩:∃ z,z = wq.drew:=⟨_,rfl⟩
              rw [← HY] at HBQ2 hS ⊢
              refine wpAnyH_take (i:=0) (v:=.slice (some ⟨bD,oD,none⟩) (i + 1) cD) rfl (by kernel_rfl) (by kernel_rfl) (by kernel_rfl) (fun _ _ _ h => h) (Or.inl ⟨by rfl,fun wx hx => by simp [go_sem]⟩) hS ?_
              simp only [Act.put,List.getElem_toArray,List.getElem_cons_zero,List.setIfInBounds_toArray,List.set_cons_zero,List.set_cons_succ]
              refine wpAnyH_take (i:=1) (v:=.int .i64 (k:Int)) rfl (by kernel_rfl) (by kernel_rfl) (by kernel_rfl) (fun _ _ _ h => h) (Or.inl ⟨by rfl,fun wx hx => by simp [go_sem]⟩) hS ?_
              simp only [Act.put,List.getElem_toArray,List.getElem_cons_succ,List.getElem_cons_zero,List.setIfInBounds_toArray,List.set_cons_zero,List.set_cons_succ]
              refine wpAnyH_take (i:=2) (v:=.pointer (some ⟨bD,oD + k * 32,none⟩)) rfl (by kernel_rfl) (by kernel_rfl) (by kernel_rfl) (fun _ _ _ h => h) (Or.inl ⟨by rfl,fun wx hx => by exact idxD17 bD oD cD (i + 1) k (by omega) _ _ _ _ rfl rfl rfl _⟩) hS ?_
              simp only [Act.put,List.getElem_toArray,List.getElem_cons_succ,List.getElem_cons_zero,List.setIfInBounds_toArray,List.set_cons_zero,List.set_cons_succ]
              refine wpAnyH_take (i:=3) (v:=.agg (cb dk).toArray) rfl (by kernel_rfl) (by kernel_rfl) (by kernel_rfl) (fun _ _ _ h => h) (Or.inl ⟨by rfl,fun wx hx => by (rw [hx];have hr:=HRK.out _ HBQ2.out;exact load_run 39 _ rfl _ _ rfl (cb dk) _ hr Tryz.underlying39 rfl (by rw [cb_len,HDKL.out];exact info_digest))⟩) hS ?_
              simp only [Act.put,List.getElem_toArray,List.getElem_cons_succ,List.getElem_cons_zero,List.setIfInBounds_toArray,List.set_cons_zero,List.set_cons_succ]
              refine wpAnyH_take (i:=4) (v:=.slice (some ⟨bD,oD,none⟩) (i + 1) cD) rfl (by kernel_rfl) (by kernel_rfl) (by kernel_rfl) (fun _ _ _ h => h) (Or.inl ⟨by rfl,fun wx hx => by simp [go_sem]⟩) hS ?_
              simp only [Act.put,List.getElem_toArray,List.getElem_cons_succ,List.getElem_cons_zero,List.setIfInBounds_toArray,List.set_cons_zero,List.set_cons_succ]
              refine wpAnyH_take (i:=5) (v:=.int .i64 (i:Int)) rfl (by kernel_rfl) (by kernel_rfl) (by kernel_rfl) (fun _ _ _ h => h) (Or.inl ⟨by rfl,fun wx hx => by simp [go_sem]⟩) hS ?_
              simp only [Act.put,List.getElem_toArray,List.getElem_cons_succ,List.getElem_cons_zero,List.setIfInBounds_toArray,List.set_cons_zero,List.set_cons_succ]
              refine wpAnyH_take (i:=6) (v:=.pointer (some ⟨bD,oD + i * 32,none⟩)) rfl (by kernel_rfl) (by kernel_rfl) (by kernel_rfl) (fun _ _ _ h => h) (Or.inl ⟨by rfl,fun wx hx => by exact idxD17 bD oD cD (i + 1) i (by omega) _ _ _ _ rfl rfl rfl _⟩) hS ?_
              simp only [Act.put,List.getElem_toArray,List.getElem_cons_succ,List.getElem_cons_zero,List.setIfInBounds_toArray,List.set_cons_zero,List.set_cons_succ]
              refine wpAnyH_take (i:=7) (v:=.agg (cb dp).toArray) rfl (by kernel_rfl) (by kernel_rfl) (by kernel_rfl) (fun _ _ _ h => h) (Or.inl ⟨by rfl,fun wx hx => by (rw [hx];have hr:=HRI.out _ HBQ2.out;exact load_run 39 _ rfl _ _ rfl (cb dp) _ hr Tryz.underlying39 rfl (by rw [cb_len,HDPL.out];exact info_digest))⟩) hS ?_
              simp only [Act.put,List.getElem_toArray,List.getElem_cons_succ,List.getElem_cons_zero,List.setIfInBounds_toArray,List.set_cons_zero,List.set_cons_succ]
              refine wpAnyH_take (i:=8) (v:=.bool true) rfl (by kernel_rfl) (by kernel_rfl) (by kernel_rfl) (fun _ _ _ h => h) (Or.inl ⟨by rfl,fun wx hx => by (have hq:=eq_dig dk dp HDKL.out HDPL.out wx;rw [← HCB.out] at hq;simp [go_sem,hq])⟩) hS ?_
              simp only [Act.put,List.getElem_toArray,List.getElem_cons_succ,List.getElem_cons_zero,List.setIfInBounds_toArray,List.set_cons_zero,List.set_cons_succ]
              refine wpAnyH_take (i:=9) (v:=.bool true) rfl (by kernel_rfl) (by kernel_rfl) (by kernel_rfl) (fun _ _ _ h => h) (Or.inl ⟨by rfl,fun wx hx => by simp [go_sem]⟩) hS ?_
              simp only [Act.put,List.getElem_toArray,List.getElem_cons_succ,List.getElem_cons_zero,List.setIfInBounds_toArray,List.set_cons_zero,List.set_cons_succ]
              refine wpAnyH_take (i:=10) (v:=.slice (some ⟨bb,off,none⟩) n cap) rfl (by kernel_rfl) (by kernel_rfl) (by kernel_rfl) (fun _ _ _ h => h) (Or.inl ⟨by rfl,fun wx hx => by simp [go_sem]⟩) hS ?_
              simp only [Act.put,List.getElem_toArray,List.getElem_cons_succ,List.getElem_cons_zero,List.setIfInBounds_toArray,List.set_cons_zero,List.set_cons_succ]
              refine wpAnyH_take (i:=11) (v:=.int .i64 (k:Int)) rfl (by kernel_rfl) (by kernel_rfl) (by kernel_rfl) (fun _ _ _ h => h) (Or.inl ⟨by rfl,fun wx hx => by simp [go_sem]⟩) hS ?_
              simp only [Act.put,List.getElem_toArray,List.getElem_cons_succ,List.getElem_cons_zero,List.setIfInBounds_toArray,List.set_cons_zero,List.set_cons_succ]
              refine wpAnyH_take (i:=12) (v:=.pointer (some ⟨bb,off + k,none⟩)) rfl (by kernel_rfl) (by kernel_rfl) (by kernel_rfl) (fun _ _ _ h => h) (Or.inl ⟨by rfl,fun wx hx => by exact idxQ bb off n cap k (by omega) _ _ _ _ rfl rfl rfl _⟩) hS ?_
              simp only [Act.put,List.getElem_toArray,List.getElem_cons_succ,List.getElem_cons_zero,List.setIfInBounds_toArray,List.set_cons_zero,List.set_cons_succ]
              refine wpAnyH_take (i:=13) (v:=.slice a2 n2 c2) rfl (by kernel_rfl) (by kernel_rfl) (by kernel_rfl) (fun _ _ _ h => h) (Or.inl ⟨by rfl,fun wx hx => by (rw [hx];have hc:=HC2.out _ (HBZZ.out _ HBQ2.out);simp [go_sem,hc])⟩) hS ?_
              simp only [Act.put,List.getElem_toArray,List.getElem_cons_succ,List.getElem_cons_zero,List.setIfInBounds_toArray,List.set_cons_zero,List.set_cons_succ]
              refine wpAnyH_take (i:=14) (v:=.string (strB q)) rfl (by kernel_rfl) (by kernel_rfl) (by kernel_rfl) (fun _ _ _ h => h) (Or.inl ⟨by rfl,fun wx hx => by (rw [hx];have hc:=conv_reads (HR2.out _ (HBZZ.out _ HBQ2.out));simp [go_sem,hc])⟩) hS ?_
              simp only [Act.put,List.getElem_toArray,List.getElem_cons_succ,List.getElem_cons_zero,List.setIfInBounds_toArray,List.set_cons_zero,List.set_cons_succ]
              refine wpAnyH_take (i:=15) (v:=.slice (some ⟨bb,off,none⟩) n cap) rfl (by kernel_rfl) (by kernel_rfl) (by kernel_rfl) (fun _ _ _ h => h) (Or.inl ⟨by rfl,fun wx hx => by simp [go_sem]⟩) hS ?_
              simp only [Act.put,List.getElem_toArray,List.getElem_cons_succ,List.getElem_cons_zero,List.setIfInBounds_toArray,List.set_cons_zero,List.set_cons_succ]
              refine wpAnyH_take (i:=16) (v:=.int .i64 (i:Int)) rfl (by kernel_rfl) (by kernel_rfl) (by kernel_rfl) (fun _ _ _ h => h) (Or.inl ⟨by rfl,fun wx hx => by simp [go_sem]⟩) hS ?_
              simp only [Act.put,List.getElem_toArray,List.getElem_cons_succ,List.getElem_cons_zero,List.setIfInBounds_toArray,List.set_cons_zero,List.set_cons_succ]
              refine wpAnyH_take (i:=17) (v:=.pointer (some ⟨bb,off + i,none⟩)) rfl (by kernel_rfl) (by kernel_rfl) (by kernel_rfl) (fun _ _ _ h => h) (Or.inl ⟨by rfl,fun wx hx => by exact idxQ bb off n cap i hlt _ _ _ _ rfl rfl rfl _⟩) hS ?_
              simp only [Act.put,List.getElem_toArray,List.getElem_cons_succ,List.getElem_cons_zero,List.setIfInBounds_toArray,List.set_cons_zero,List.set_cons_succ]
              refine wpAnyH_take (i:=18) (v:=.slice a1 n1 c1) rfl (by kernel_rfl) (by kernel_rfl) (by kernel_rfl) (fun _ _ _ h => h) (Or.inl ⟨by rfl,fun wx hx => by (rw [hx];have hc:=HCE.out _ (HBZZ.out _ HBQ2.out);simp [go_sem,hc])⟩) hS ?_
              simp only [Act.put,List.getElem_toArray,List.getElem_cons_succ,List.getElem_cons_zero,List.setIfInBounds_toArray,List.set_cons_zero,List.set_cons_succ]
              refine wpAnyH_take (i:=19) (v:=.string (strB p)) rfl (by kernel_rfl) (by kernel_rfl) (by kernel_rfl) (fun _ _ _ h => h) (Or.inl ⟨by rfl,fun wx hx => by (rw [hx];have hc:=conv_reads (HRP.out _ (HBZZ.out _ HBQ2.out));simp [go_sem,hc])⟩) hS ?_
              simp only [Act.put,List.getElem_toArray,List.getElem_cons_succ,List.getElem_cons_zero,List.setIfInBounds_toArray,List.set_cons_zero,List.set_cons_succ]
              refine wpAnyH_take (i:=20) (v:=.bool false) rfl (by kernel_rfl) (by kernel_rfl) (by kernel_rfl) (fun _ _ _ h => h) (Or.inl ⟨by rfl,fun wx hx => by (have hs:=HEQ.out;simpa [go_sem] using hs)⟩) hS ?_
              simp only [Act.put,List.getElem_toArray,List.getElem_cons_succ,List.getElem_cons_zero,List.setIfInBounds_toArray,List.set_cons_zero,List.set_cons_succ]
              refine wpAnyH_take (i:=21) (v:=.bool false) rfl (by kernel_rfl) (by kernel_rfl) (by kernel_rfl) (fun _ _ _ h => h) (Or.inl ⟨by rfl,fun wx hx => by simp [go_sem]⟩) hS ?_
              simp only [Act.put,List.getElem_toArray,List.getElem_cons_succ,List.getElem_cons_zero,List.setIfInBounds_toArray,List.set_cons_zero,List.set_cons_succ]
              refine wpAnyH_done (by kernel_rfl) ?_ _
              clear hS HY
              go_wp2
              go_roundw
              case rel => exact ⟨k + 1,by omega,by simp,HN2,HBQ2⟩
              case measure => simp [intOf];omega
            | true =>
              go_wp2
              refine wp_region_held_drew (S:=fun W => W = wq.drew) (by kernel_rfl) rfl ?_
              intro hS
              have HBQ2:Hid (Below wz.heap.size wz wq.drew):=HBQ.out.drew
              obtain ⟨y,HY⟩:∃ z,z = wq.drew:=⟨_,rfl⟩
              rw [← HY] at HBQ2 hS ⊢
              refine wpAnyH_take (i:=0) (v:=.slice (some ⟨bD,oD,none⟩) (i + 1) cD) rfl (by kernel_rfl) (by kernel_rfl) (by kernel_rfl) (fun _ _ _ h => h) (Or.inl ⟨by rfl,fun wx hx => by simp [go_sem]⟩) hS ?_
              simp only [Act.put,List.getElem_toArray,List.getElem_cons_zero,List.setIfInBounds_toArray,List.set_cons_zero,List.set_cons_succ]
              refine wpAnyH_take (i:=1) (v:=.int .i64 (k:Int)) rfl (by kernel_rfl) (by kernel_rfl) (by kernel_rfl) (fun _ _ _ h => h) (Or.inl ⟨by rfl,fun wx hx => by simp [go_sem]⟩) hS ?_
              simp only [Act.put,List.getElem_toArray,List.getElem_cons_succ,List.getElem_cons_zero,List.setIfInBounds_toArray,List.set_cons_zero,List.set_cons_succ]
              refine wpAnyH_take (i:=2) (v:=.pointer (some ⟨bD,oD + k * 32,none⟩)) rfl (by kernel_rfl) (by kernel_rfl) (by kernel_rfl) (fun _ _ _ h => h) (Or.inl ⟨by rfl,fun wx hx => by exact idxD17 bD oD cD (i + 1) k (by omega) _ _ _ _ rfl rfl rfl _⟩) hS ?_
              simp only [Act.put,List.getElem_toArray,List.getElem_cons_succ,List.getElem_cons_zero,List.setIfInBounds_toArray,List.set_cons_zero,List.set_cons_succ]
              refine wpAnyH_take (i:=3) (v:=.agg (cb dk).toArray) rfl (by kernel_rfl) (by kernel_rfl) (by kernel_rfl) (fun _ _ _ h => h) (Or.inl ⟨by rfl,fun wx hx => by (rw [hx];have hr:=HRK.out _ HBQ2.out;exact load_run 39 _ rfl _ _ rfl (cb dk) _ hr Tryz.underlying39 rfl (by rw [cb_len,HDKL.out];exact info_digest))⟩) hS ?_
              simp only [Act.put,List.getElem_toArray,List.getElem_cons_succ,List.getElem_cons_zero,List.setIfInBounds_toArray,List.set_cons_zero,List.set_cons_succ]
              refine wpAnyH_take (i:=4) (v:=.slice (some ⟨bD,oD,none⟩) (i + 1) cD) rfl (by kernel_rfl) (by kernel_rfl) (by kernel_rfl) (fun _ _ _ h => h) (Or.inl ⟨by rfl,fun wx hx => by simp [go_sem]⟩) hS ?_
              simp only [Act.put,List.getElem_toArray,List.getElem_cons_succ,List.getElem_cons_zero,List.setIfInBounds_toArray,List.set_cons_zero,List.set_cons_succ]
              refine wpAnyH_take (i:=5) (v:=.int .i64 (i:Int)) rfl (by kernel_rfl) (by kernel_rfl) (by kernel_rfl) (fun _ _ _ h => h) (Or.inl ⟨by rfl,fun wx hx => by simp [go_sem]⟩) hS ?_
              simp only [Act.put,List.getElem_toArray,List.getElem_cons_succ,List.getElem_cons_zero,List.setIfInBounds_toArray,List.set_cons_zero,List.set_cons_succ]
              refine wpAnyH_take (i:=6) (v:=.pointer (some ⟨bD,oD + i * 32,none⟩)) rfl (by kernel_rfl) (by kernel_rfl) (by kernel_rfl) (fun _ _ _ h => h) (Or.inl ⟨by rfl,fun wx hx => by exact idxD17 bD oD cD (i + 1) i (by omega) _ _ _ _ rfl rfl rfl _⟩) hS ?_
              simp only [Act.put,List.getElem_toArray,List.getElem_cons_succ,List.getElem_cons_zero,List.setIfInBounds_toArray,List.set_cons_zero,List.set_cons_succ]
              refine wpAnyH_take (i:=7) (v:=.agg (cb dp).toArray) rfl (by kernel_rfl) (by kernel_rfl) (by kernel_rfl) (fun _ _ _ h => h) (Or.inl ⟨by rfl,fun wx hx => by (rw [hx];have hr:=HRI.out _ HBQ2.out;exact load_run 39 _ rfl _ _ rfl (cb dp) _ hr Tryz.underlying39 rfl (by rw [cb_len,HDPL.out];exact info_digest))⟩) hS ?_
              simp only [Act.put,List.getElem_toArray,List.getElem_cons_succ,List.getElem_cons_zero,List.setIfInBounds_toArray,List.set_cons_zero,List.set_cons_succ]
              refine wpAnyH_take (i:=8) (v:=.bool true) rfl (by kernel_rfl) (by kernel_rfl) (by kernel_rfl) (fun _ _ _ h => h) (Or.inl ⟨by rfl,fun wx hx => by (have hq:=eq_dig dk dp HDKL.out HDPL.out wx;rw [← HCB.out] at hq;simp [go_sem,hq])⟩) hS ?_
              simp only [Act.put,List.getElem_toArray,List.getElem_cons_succ,List.getElem_cons_zero,List.setIfInBounds_toArray,List.set_cons_zero,List.set_cons_succ]
              refine wpAnyH_take (i:=9) (v:=.bool true) rfl (by kernel_rfl) (by kernel_rfl) (by kernel_rfl) (fun _ _ _ h => h) (Or.inl ⟨by rfl,fun wx hx => by simp [go_sem]⟩) hS ?_
              simp only [Act.put,List.getElem_toArray,List.getElem_cons_succ,List.getElem_cons_zero,List.setIfInBounds_toArray,List.set_cons_zero,List.set_cons_succ]
              refine wpAnyH_take (i:=10) (v:=.slice (some ⟨bb,off,none⟩) n cap) rfl (by kernel_rfl) (by kernel_rfl) (by kernel_rfl) (fun _ _ _ h => h) (Or.inl ⟨by rfl,fun wx hx => by simp [go_sem]⟩) hS ?_
              simp only [Act.put,List.getElem_toArray,List.getElem_cons_succ,List.getElem_cons_zero,List.setIfInBounds_toArray,List.set_cons_zero,List.set_cons_succ]
              refine wpAnyH_take (i:=11) (v:=.int .i64 (k:Int)) rfl (by kernel_rfl) (by kernel_rfl) (by kernel_rfl) (fun _ _ _ h => h) (Or.inl ⟨by rfl,fun wx hx => by simp [go_sem]⟩) hS ?_
              simp only [Act.put,List.getElem_toArray,List.getElem_cons_succ,List.getElem_cons_zero,List.setIfInBounds_toArray,List.set_cons_zero,List.set_cons_succ]
              refine wpAnyH_take (i:=12) (v:=.pointer (some ⟨bb,off + k,none⟩)) rfl (by kernel_rfl) (by kernel_rfl) (by kernel_rfl) (fun _ _ _ h => h) (Or.inl ⟨by rfl,fun wx hx => by exact idxQ bb off n cap k (by omega) _ _ _ _ rfl rfl rfl _⟩) hS ?_
              simp only [Act.put,List.getElem_toArray,List.getElem_cons_succ,List.getElem_cons_zero,List.setIfInBounds_toArray,List.set_cons_zero,List.set_cons_succ]
              refine wpAnyH_take (i:=13) (v:=.slice a2 n2 c2) rfl (by kernel_rfl) (by kernel_rfl) (by kernel_rfl) (fun _ _ _ h => h) (Or.inl ⟨by rfl,fun wx hx => by (rw [hx];have hc:=HC2.out _ (HBZZ.out _ HBQ2.out);simp [go_sem,hc])⟩) hS ?_
              simp only [Act.put,List.getElem_toArray,List.getElem_cons_succ,List.getElem_cons_zero,List.setIfInBounds_toArray,List.set_cons_zero,List.set_cons_succ]
              refine wpAnyH_take (i:=14) (v:=.string (strB q)) rfl (by kernel_rfl) (by kernel_rfl) (by kernel_rfl) (fun _ _ _ h => h) (Or.inl ⟨by rfl,fun wx hx => by (rw [hx];have hc:=conv_reads (HR2.out _ (HBZZ.out _ HBQ2.out));simp [go_sem,hc])⟩) hS ?_
              simp only [Act.put,List.getElem_toArray,List.getElem_cons_succ,List.getElem_cons_zero,List.setIfInBounds_toArray,List.set_cons_zero,List.set_cons_succ]
              refine wpAnyH_take (i:=15) (v:=.slice (some ⟨bb,off,none⟩) n cap) rfl (by kernel_rfl) (by kernel_rfl) (by kernel_rfl) (fun _ _ _ h => h) (Or.inl ⟨by rfl,fun wx hx => by simp [go_sem]⟩) hS ?_
              simp only [Act.put,List.getElem_toArray,List.getElem_cons_succ,List.getElem_cons_zero,List.setIfInBounds_toArray,List.set_cons_zero,List.set_cons_succ]
              refine wpAnyH_take (i:=16) (v:=.int .i64 (i:Int)) rfl (by kernel_rfl) (by kernel_rfl) (by kernel_rfl) (fun _ _ _ h => h) (Or.inl ⟨by rfl,fun wx hx => by simp [go_sem]⟩) hS ?_
              simp only [Act.put,List.getElem_toArray,List.getElem_cons_succ,List.getElem_cons_zero,List.setIfInBounds_toArray,List.set_cons_zero,List.set_cons_succ]
              refine wpAnyH_take (i:=17) (v:=.pointer (some ⟨bb,off + i,none⟩)) rfl (by kernel_rfl) (by kernel_rfl) (by kernel_rfl) (fun _ _ _ h => h) (Or.inl ⟨by rfl,fun wx hx => by exact idxQ bb off n cap i hlt _ _ _ _ rfl rfl rfl _⟩) hS ?_
              simp only [Act.put,List.getElem_toArray,List.getElem_cons_succ,List.getElem_cons_zero,List.setIfInBounds_toArray,List.set_cons_zero,List.set_cons_succ]
              refine wpAnyH_take (i:=18) (v:=.slice a1 n1 c1) rfl (by kernel_rfl) (by kernel_rfl) (by kernel_rfl) (fun _ _ _ h => h) (Or.inl ⟨by rfl,fun wx hx => by (rw [hx];have hc:=HCE.out _ (HBZZ.out _ HBQ2.out);simp [go_sem,hc])⟩) hS ?_
              simp only [Act.put,List.getElem_toArray,List.getElem_cons_succ,List.getElem_cons_zero,List.setIfInBounds_toArray,List.set_cons_zero,List.set_cons_succ]
              refine wpAnyH_take (i:=19) (v:=.string (strB p)) rfl (by kernel_rfl) (by kernel_rfl) (by kernel_rfl) (fun _ _ _ h => h) (Or.inl ⟨by rfl,fun wx hx => by (rw [hx];have hc:=conv_reads (HRP.out _ (HBZZ.out _ HBQ2.out));simp [go_sem,hc])⟩) hS ?_
              simp only [Act.put,List.getElem_toArray,List.getElem_cons_succ,List.getElem_cons_zero,List.setIfInBounds_toArray,List.set_cons_zero,List.set_cons_succ]
              refine wpAnyH_take (i:=20) (v:=.bool true) rfl (by kernel_rfl) (by kernel_rfl) (by kernel_rfl) (fun _ _ _ h => h) (Or.inl ⟨by rfl,fun wx hx => by (have hs:=HEQ.out;simpa [go_sem] using hs)⟩) hS ?_
              simp only [Act.put,List.getElem_toArray,List.getElem_cons_succ,List.getElem_cons_zero,List.setIfInBounds_toArray,List.set_cons_zero,List.set_cons_succ]
              refine wpAnyH_take (i:=21) (v:=.bool true) rfl (by kernel_rfl) (by kernel_rfl) (by kernel_rfl) (fun _ _ _ h => h) (Or.inl ⟨by rfl,fun wx hx => by simp [go_sem]⟩) hS ?_
              simp only [Act.put,List.getElem_toArray,List.getElem_cons_succ,List.getElem_cons_zero,List.setIfInBounds_toArray,List.set_cons_zero,List.set_cons_succ]
              refine wpAnyH_done (by kernel_rfl) ?_ _
              clear hS HY
              go_wp2
              go_ret
              exact ⟨true,rfl,(fun h => by cases h),HBZZ.out _ HBQ2.out⟩
        case neg =>
          have hke:k = i:=by omega
          subst hke
          have HF2:Hid (Apart17 (ls.take (k + 1))):=apart_more HAP.out (by rw [← HP.out,← HDP.out];exact HJ.out)
          have HF3:Hid (OwnD wq w.heap.size (.slice (some ⟨bD,oD,none⟩) (k + 1) cD) ((ls.take (k + 1)).map dig)):=by rw [← HDD.out];exact HOK.out _ HBQ.out
          go_wp2
          go_roundw
          case rel => exact ⟨k + 1,some ⟨bD,oD,none⟩,k + 1,cD,by omega,rfl,by simp,HF3,HF2,HBZZ.out _ HBQ.out⟩
          case measure => simp [intOf];omega
    case neg =>
      have hke:i = n:=by omega
      have HF:Hid (Apart17 ls):=by have h:=HAP.out;rw [hke,HN.out,List.take_length] at h;exact h
      subst hke
      go_wp2
      go_ret
      exact ⟨false,rfl,fun _ => HF.out,HBW.out⟩
end Go.Proofs.YtphmmnffgknkcaaGreatDoor
namespace Go.Proofs.YtphmmnffgknkcaaGreatDoor
open Go.RowKit
set_option maxRecDepth 100000
theorem cells_of_cell {w:World} {b o:Nat} {v:Value} (h:w.cell? ⟨b,o,none⟩ = some v):∃ cs t fr,w.heap[b]? = some (.cells cs t fr):=by
  unfold World.cell? at h
  split at h
  · rename_i cs t fr e;exact ⟨cs,t,fr,e⟩
  all_goals first | cases h | skip
theorem Reads.mapped {w w':World} {gm n:Nat} {F:By → Option Nat} {v:Value} {l:By} (h:Reads w v l) (ho:Only gm w w') (hm:MapP w gm n F):Reads w' v l:=by
  obtain ⟨ad,cap,rfl,h2,h3,h4⟩:=h
  refine ⟨ad,cap,rfl,h2,h3,fun hp => ?_⟩
  obtain ⟨b,off,rfl,h5⟩:=h4 hp
  refine ⟨b,off,rfl,fun j hj => ?_⟩
  obtain ⟨cs,t,fr,e⟩:=cells_of_cell (h5 j hj)
  rw [World.cell?_of_block (w:=w) (ho.block b (fun e2 => hm.ne e e2.symm) (block_lt_of_cell (h5 j hj)))]
  exact h5 j hj
theorem Row17.mapped {w w':World} {gm n g nn c:Nat} {F:By → Option Nat} {ps:List By} (h:Row17 w g nn c ps) (ho:Only gm w w') (hm:MapP w gm n F):Row17 w' g nn c ps:=by
  have key:∀ {b o:Nat} {u:Value},w.cell? ⟨b,o,none⟩ = some u → w'.cell? ⟨b,o,none⟩ = some u:=fun {b o u} hc => by
    obtain ⟨cs,t,fr,e⟩:=cells_of_cell hc
    rw [World.cell?_of_block (w:=w) (ho.block b (fun e2 => hm.ne e e2.symm) (block_lt_of_cell hc))]
    exact hc
  refine ⟨h.len,fun j hj => ?_,?_⟩
  · obtain ⟨u,h1,h2⟩:=h.at_ j hj
    exact ⟨u,key h1,h2.mapped ho hm⟩
  · obtain ⟨ad,cap,h1,h2,h3,h4⟩:=h.rd
    refine ⟨ad,cap,h1,h2,h3,fun hp => ?_⟩
    obtain ⟨b,off,h5,h6⟩:=h4 hp
    refine ⟨b,off,h5,fun j hj => ?_⟩
    obtain ⟨vj,h7,h8⟩:=h6 j hj
    exact ⟨vj,key h7,h8.mapped ho hm⟩
theorem Blk.mapped {w w':World} {gm n g:Nat} {F:By → Option Nat} {cs:List Value} {t:TypeId} (h:Blk w g cs t) (ho:Only gm w w') (hm:MapP w gm n F):Blk w' g cs t:=h.only ho fun e => hm.ne (show w.heap[g]? = some (.cells cs.toArray t) from h) e.symm
theorem MapP.look1 {w:World} {gm n:Nat} {F:By → Option Nat} (h:MapP w gm n F) {x:By} (hx:x.length = 32):(Instr.lookup 52 (.map (some gm)) (.agg (cb x).toArray) false).run Tryz.prog w = .ok (.int .i64 (((F x).getD 0:Nat):Int)) w:=by
  obtain ⟨D,h1,h2⟩:=h.ex
  obtain ⟨v,ps,hr,hv⟩:=h1.lookup kD Tryz.underlying52 (z:=.int .i64 0) (by kernel_rfl) (intE (i:=0) (by decide)) (keyD hx)
  obtain ⟨h3,h4⟩:=h2 x hx
  cases hf:F x with
  | some i =>
    have hv2:plainElem (H:=Unit) Tryz.prog 3 v = some (.lit (.int .i64 (i:Int)),ps):=by rw [← h4 i hf];exact hv
    rw [intE_inv hv2] at hr
    exact hr
  | none =>
    have hn:Maps.has D (litD x) = false:=by rw [h3,hf];rfl
    rw [Maps.atKey_of_not_has hn] at hv
    have hv2:v = .int .i64 0:=intE_inv hv
    rw [hv2] at hr
    exact hr
def keyIn (ks:List (List Lf)) (x:By):Prop:=∃ l ∈ ks,∃ p ∈ saveL 0 l,dig p = x
theorem keyIn_snoc {ks:List (List Lf)} {l:List Lf} {x:By}:keyIn (ks ++ [l]) x ↔ keyIn ks x ∨ ∃ p ∈ saveL 0 l,dig p = x:=by
  unfold keyIn
  constructor
  · rintro ⟨m,hm,h⟩
    rcases List.mem_append.1 hm with h1 | h1
    · exact Or.inl ⟨m,h1,h⟩
    · rw [List.mem_singleton.1 h1] at h;exact Or.inr h
  · rintro (⟨m,hm,h⟩ | h)
    · exact ⟨m,List.mem_append_left _ hm,h⟩
    · exact ⟨l,List.mem_append_right _ (List.mem_singleton.2 rfl),h⟩
structure GoodT (ps:List By) (l:List Lf):Prop where
  ok:okLf l
  up:Up l
  few:l.length ≤ 60
  has:∀ p ∈ saveL 0 l,p ∈ ps
theorem GoodT.fits {ps:List By} {l:List Lf} (h:GoodT ps l):Fits l 0:=fits_zero h.ok h.up
theorem top_mem (l:List Lf):topPg 0 l ∈ saveL 0 l:=by rw [save_top];simp
theorem GoodT.same {ps:List By} {l m:List Lf} (h:GoodT ps l) (h2:GoodT ps m) (ha:Apart17 ps) (he:dig (topPg 0 l) = dig (topPg 0 m)):l = m:=by
  have e:=apart_mem ha _ (h.has _ (top_mem l)) _ (h2.has _ (top_mem m)) he
  have hi:Inj17 (saveL 0 l).tail (saveL 0 m).tail:=fun p hp q hq hd => apart_mem ha p (h.has p (by rw [save_top];exact List.mem_cons_of_mem _ hp)) q (h2.has q (by rw [save_top];exact List.mem_cons_of_mem _ hq)) hd
  exact ((top_pc 256 0 l rfl h.fits).same [] [] (top_pc 256 0 m rfl h2.fits) hi (by rw [List.append_nil,List.append_nil,e])).1
theorem nodup_sub_len {α:Type} [DecidableEq α]:∀ {a b:List α},a.Nodup → (∀ x ∈ a,x ∈ b) → a.length ≤ b.length
  | [],b,_,_ => Nat.zero_le _
  | x :: a,b,hn,hs => by
    obtain ⟨h1,h2⟩:=List.nodup_cons.1 hn
    have hx:x ∈ b:=hs x (by simp)
    have h3:=nodup_sub_len h2 (b:=b.erase x) fun y hy => by
      rw [List.mem_erase_of_ne (fun e => h1 (by rw [← e];exact hy))]
      exact hs y (List.mem_cons_of_mem _ hy)
    rw [List.length_erase_of_mem hx] at h3
    have:0 < b.length:=List.length_pos_of_mem hx
    rw [List.length_cons];omega
structure KnI (w:World) (gm n:Nat) (F:By → Option Nat) (ks:List (List Lf)) (W:World):Prop where
  bel:Below w.heap.size w W
  ge:w.heap.size ≤ gm
  mp:MapP W gm n F
  has:∀ x,(F x).isSome = true ↔ keyIn ks x
  two:∀ x i,F x = some i → (i = 1 ∨ i = 2) ∧ (i = 2 → ∃ l ∈ ks,x = dig (topPg 0 l))
theorem knI_new {w W:World} {gm:Nat} (hb:Below w.heap.size w W) (hg:w.heap.size ≤ gm) (hm:MapP W gm 0 (fun _ => none)):KnI w gm 0 (fun _ => none) [] W:=
  ⟨hb,hg,hm,fun x => ⟨fun h => by simp at h,fun ⟨l,h,_⟩ => by cases h⟩,fun x i h => by simp at h⟩
theorem KnI.next {w W W':World} {gm n:Nat} {F:By → Option Nat} {ks:List (List Lf)} (h:KnI w gm n F ks W) (hb:Below W.heap.size W W'):KnI w gm n F ks W':=
  ⟨h.bel.trans (hb.mono h.bel.size),h.ge,h.mp.next hb,h.has,h.two⟩
structure KnJ (w:World) (gm n:Nat) (F:By → Option Nat) (ks:List (List Lf)) (q:List By) (W:World):Prop where
  bel:Below w.heap.size w W
  ge:w.heap.size ≤ gm
  mp:MapP W gm n F
  has:∀ x,(F x).isSome = true ↔ keyIn ks x ∨ ∃ p ∈ q,dig p = x
  two:∀ x i,F x = some i → (i = 1 ∨ i = 2) ∧ (i = 2 → ∃ l ∈ ks,x = dig (topPg 0 l))
theorem KnJ.next {w W W':World} {gm n:Nat} {F:By → Option Nat} {ks:List (List Lf)} {q:List By} (h:KnJ w gm n F ks q W) (hb:Below W.heap.size W W'):KnJ w gm n F ks q W':=
  ⟨h.bel.trans (hb.mono h.bel.size),h.ge,h.mp.next hb,h.has,h.two⟩
theorem KnJ.lay {w W W':World} {gm n n2:Nat} {F:By → Option Nat} {ks:List (List Lf)} {q:List By} {p:By} (h:KnJ w gm n F ks q W) (hm:MapP W' gm n2 (fun x => if x = dig p then some 1 else F x)) (ho:Only gm W W'):KnJ w gm n2 (fun x => if x = dig p then some 1 else F x) ks (q ++ [p]) W':=by
  refine ⟨h.bel.trans (ho.below h.ge h.bel.size),h.ge,hm,fun x => ?_,fun x i hx => ?_⟩
  · by_cases e:x = dig p
    · simp only [if_pos e,Option.isSome_some,true_iff]
      exact Or.inr ⟨p,by simp,e.symm⟩
    · simp only [if_neg e]
      rw [h.has x]
      constructor
      · rintro (h1 | ⟨r,h1,h2⟩)
        · exact Or.inl h1
        · exact Or.inr ⟨r,List.mem_append_left _ h1,h2⟩
      · rintro (h1 | ⟨r,h1,h2⟩)
        · exact Or.inl h1
        · rcases List.mem_append.1 h1 with h3 | h3
          · exact Or.inr ⟨r,h3,h2⟩
          · rw [List.mem_singleton.1 h3] at h2;exact absurd h2.symm e
  · by_cases e:x = dig p
    · simp only [if_pos e,Option.some.injEq] at hx
      subst hx
      exact ⟨Or.inl rfl,fun h => by cases h⟩
    · simp only [if_neg e] at hx
      exact h.two x i hx
theorem KnJ.done {w W W':World} {gm n n2:Nat} {F:By → Option Nat} {ks:List (List Lf)} {l:List Lf} (h:KnJ w gm n F ks (saveL 0 l) W) (hm:MapP W' gm n2 (fun x => if x = dig (topPg 0 l) then some 2 else F x)) (ho:Only gm W W'):KnI w gm n2 (fun x => if x = dig (topPg 0 l) then some 2 else F x) (ks ++ [l]) W':=by
  refine ⟨h.bel.trans (ho.below h.ge h.bel.size),h.ge,hm,fun x => ?_,fun x i hx => ?_⟩
  · rw [keyIn_snoc,← h.has x]
    by_cases e:x = dig (topPg 0 l)
    · simp only [if_pos e,Option.isSome_some,true_iff]
      rw [h.has x]
      exact Or.inr ⟨_,top_mem l,e.symm⟩
    · simp only [if_neg e]
  · by_cases e:x = dig (topPg 0 l)
    · simp only [if_pos e,Option.some.injEq] at hx
      subst hx
      exact ⟨Or.inr rfl,fun _ => ⟨l,by simp,e⟩⟩
    · simp only [if_neg e] at hx
      exact ⟨(h.two x i hx).1,fun h2 => by obtain ⟨m,h3,h4⟩:=(h.two x i hx).2 h2;exact ⟨m,List.mem_append_left _ h3,h4⟩⟩
theorem KnI.again {w W:World} {gm n:Nat} {F:By → Option Nat} {ks:List (List Lf)} {l:List Lf} {ps:List By} (h:KnI w gm n F ks W) (hg:∀ m ∈ ks,GoodT ps m) (hl:GoodT ps l) (ha:Apart17 ps) (h2:F (dig (topPg 0 l)) = some 2):KnI w gm n F (ks ++ [l]) W:=by
  obtain ⟨m,hm,he⟩:=(h.two _ _ h2).2 rfl
  have e:=hl.same (hg m hm) ha he
  refine ⟨h.bel,h.ge,h.mp,fun x => ?_,fun x i hx => ⟨(h.two x i hx).1,fun h3 => by obtain ⟨k,h4,h5⟩:=(h.two x i hx).2 h3;exact ⟨k,List.mem_append_left _ h4,h5⟩⟩⟩
  rw [h.has x,keyIn_snoc]
  exact ⟨Or.inl,fun h3 => h3.elim id fun ⟨p,h4,h5⟩ => ⟨m,hm,p,by rw [← e];exact h4,h5⟩⟩
theorem wpSeq_idxD17 {ops:Array Oper} {Q:Exit → Act → World → Prop} {rest:List Oper} {o:Oper} {a:Act} {w:World} (x y:Operand) (b off n c k:Nat) (hk:k < n) (ho:o.op = .indexAddr 22 x y) (hx:a.eval x = .slice (some ⟨b,off,none⟩) n c) (hy:a.eval y = .int .i64 (k:Int)) (hw:Region.wanted o (yielded ops a.tmps) = true)
    (h:wpList Tryz.prog ops Q rest (a.put o.dst (.pointer (some ⟨b,off + k * 32,none⟩))) w):wpList Tryz.prog ops Q (o :: rest) a w:=
  wpSeq_val _ _ hw (idxD17 b off c n k hk _ _ x y ho hx hy w) h
theorem wpSeq_ldAt17 {ops:Array Oper} {Q:Exit → Act → World → Prop} {rest:List Oper} {o:Oper} {a:Act} {w:World} (x:Operand) (b off:Nat) (d:By) (hd:d.length = 32) (hr:w.rangeAt b off (cb d)) (ho:o.op = .load 39 x) (hx:a.eval x = .pointer (some ⟨b,off,none⟩)) (hw:Region.wanted o (yielded ops a.tmps) = true)
    (h:wpList Tryz.prog ops Q rest (a.put o.dst (.agg (cb d).toArray)) w):wpList Tryz.prog ops Q (o :: rest) a w:=
  wpSeq_val _ _ hw (load_run 39 x ho b off hx (cb d) _ hr Tryz.underlying39 rfl (by rw [cb_len,hd];exact info_digest)) h
set_option maxRecDepth 100000 in
set_option maxHeartbeats 16000000 in
theorem reapKnown_any (vl vp:Value) (ks:List (List Lf)) (ps:List By) (w:World) (hK:KOk w) (hD:ReadsD w vl (ks.map fun l => dig (topPg 0 l))) (hP:ReadsL w vp ps) (hg:∀ l ∈ ks,GoodT ps l) (ha:Apart17 ps) (hk:ks.length ≤ 1000) (hn:ps.length < 100000) (hb:∀ p ∈ ps,p.length < 1000000) :
    Calls Tryz.prog 15 #[vl,vp] w fun e w' => ∃ gm n F,e = .returned (.tuple #[.map (some gm),.int .i64 0]) ∧ KnI w gm n F ks w' ∧ n ≤ ks.length * 30000:=by
  have HK:Hid (KOk w):=hK
  have HP:Hid (ReadsL w vp ps):=hP
  have HG:Hid (∀ l ∈ ks,GoodT ps l):=hg
  have HA:Hid (Apart17 ps):=ha
  have HKL:Hid (ks.length ≤ 1000):=hk
  have HPL:Hid (ps.length < 100000 ∧ ∀ p ∈ ps,p.length < 1000000):=⟨hn,hb⟩
  have HD:Hid (ReadsD w vl (ks.map fun l => dig (topPg 0 l))):=hD
  obtain ⟨adl,cpl,hvl⟩:=hD.slice
  obtain ⟨m,HM⟩:∃ z,Hid (z = ks.length):=⟨_,rfl⟩
  rw [List.length_map,← HM.out] at hvl
  subst hvl
  clear hK hP hg ha hk hn hb hD
  go_enter Tryz.func15,Tryz.ntmps15
  have ta0:Hid True:=trivial
  go_wp2_with (first
    | (clear ta0;with_reducible refine wpSeq_mkMapP ?_ ?_ ?_
       · rfl
       · rfl
       intro gm w1 hm hge hb1
       have HI0:Hid (KnI w gm 0 (fun _ => none) [] w1):=knI_new hb1 hge hm
       clear hm hge hb1))
  go_loopw [18] (fun i W => ∃ (k n:Nat) (F:By → Option Nat),k ≤ m ∧ i = .int .i64 (k:Int) ∧ Hid (KnI w gm n F (ks.take k) W) ∧ n ≤ k * 30000) (fun i _ => m - (intOf i).toNat)
  case atStart => exact ⟨0,0,fun _ => none,Nat.zero_le _,rfl,HI0.out,Nat.zero_le _⟩
  case round =>
    obtain ⟨k,n,F,hk,rfl,HI,hn⟩:=hrel
    by_cases hlt:k < m
    case pos =>
      have hlti:(k:Int) < (m:Int):=by omega
      have hk1:k < ks.length:=by rw [← HM.out];exact hlt
      have fk:IntKind.i64.wrap ((k:Int) + 1) = (k:Int) + 1:=by rw [IntKind.wrap_i64];have:=HKL.out;omega
      obtain ⟨l,HL⟩:∃ z,Hid (z = ks.getD k []):=⟨_,rfl⟩
      have hlm:l ∈ ks:=by rw [HL.out,List.getD_eq_getElem?_getD,List.getElem?_eq_getElem hk1];exact List.getElem_mem hk1
      have HGL:Hid (GoodT ps l):=HG.out l hlm
      have HTK:Hid (ks.take (k + 1) = ks.take k ++ [l]):=by show _ = _;rw [HL.out,List.take_add_one,List.getElem?_eq_getElem hk1,List.getD_eq_getElem?_getD,List.getElem?_eq_getElem hk1,Option.toList_some,Option.getD_some]
      have HGK:Hid (∀ l ∈ ks.take k,GoodT ps l):=fun l hl => HG.out l (List.mem_of_mem_take hl)
      obtain ⟨d,HDD⟩:∃ z,Hid (z = dig (topPg 0 l)):=⟨_,rfl⟩
      have HDL:Hid (d.length = 32):=by show _ = _;rw [HDD.out];exact len_dig' _
      obtain ⟨bl,ol,cl2,hva,hya⟩:=HD.out.at (by rw [List.length_map];omega)
      rw [List.length_map,← HM.out] at hva
      simp only [Value.slice.injEq,true_and] at hva
      obtain ⟨rfl,rfl⟩:=hva
      have hrk:=hya k (by rw [List.length_map];exact hk1)
      have hdk:(ks.map fun l => dig (topPg 0 l)).getD k [] = d:=by
        rw [HDD.out,HL.out,List.getD_eq_getElem?_getD,List.getElem?_map,List.getElem?_eq_getElem hk1,List.getD_eq_getElem?_getD,List.getElem?_eq_getElem hk1,Option.map_some,Option.getD_some,Option.getD_some]
      rw [hdk] at hrk
      have HRK:Hid (∀ W,Below w.heap.size w W → W.rangeAt bl (ol + k * 32) (cb d)):=fun W hW => rangeAt_below hrk hW (range_lt hrk (by rw [cb_len,HDL.out];decide))
      clear hya hrk hdk hlm
      by_cases h2:F d = some 2
      case pos =>
        have e2:((((F d).getD 0:Nat):Int) == 2) = true:=by rw [h2];rfl
        have HF2:Hid (F d = some 2):=h2
        obtain ⟨fv,HFV⟩:∃ z,Hid (z = (F d).getD 0):=⟨_,rfl⟩
        clear h2
        have tb0:Hid True:=trivial
        have tb1:Hid True:=trivial
        have tb2:Hid True:=trivial
        have tb3:Hid True:=trivial
        have tb4:Hid True:=trivial
        go_wp2_with (first
          | (clear tb0;with_reducible refine wpSeq_idxD17 (.tmp 16) (.tmp 18) bl ol m cpl k hlt ?_ ?_ ?_ ?_ ?_
             · rfl
             · rfl
             · rfl
             · rfl
             have HQ1:Hid True:=trivial)
          | (clear tb1;with_reducible refine wpSeq_ldAt17 (.tmp 20) bl (ol + k * 32) d HDL.out (HRK.out _ HI.out.bel) ?_ ?_ ?_ ?_
             · rfl
             · rfl
             · rfl
             have HQ2:Hid True:=trivial)
          | (clear tb2;with_reducible refine wpSeq_allocD ?_ ?_ ?_
             · rfl
             · rfl
             intro g8 w2 nn
             have HNN:Hid (Blk w2 g8 (cb zb32) 39 ∧ wr.heap.size ≤ g8 ∧ Below wr.heap.size wr w2):=⟨nn.blk,nn.ge,nn.below⟩
             clear nn)
          | (clear tb3;with_reducible refine wpSeq_storeD (.tmp 8) (.tmp 21) g8 zb32 d zb32_len HDL.out HNN.out.1 ?_ ?_ ?_ ?_ ?_
             · rfl
             · rfl
             · rfl
             · rfl
             intro w3 h9
             have hb:Below wr.heap.size wr w3:=HNN.out.2.2.trans (h9.only.below HNN.out.2.1 HNN.out.2.2.size)
             have H8:Hid (Blk w3 g8 (cb d) 39):=h9.blk
             replace HI:Hid (KnI w gm n F (ks.take k) w3):=HI.out.next hb
             have hlk:=HI.out.mp.look1 HDL.out
             clear h9 HNN hb)
          | (clear tb4;with_reducible refine wpSeq_loadD (.tmp 8) g8 d HDL.out H8.out ?_ ?_ ?_ ?_
             · rfl
             · rfl
             · rfl
             have HQ3:Hid True:=trivial))
        go_roundw
        case rel => exact ⟨k + 1,n,F,by omega,by simp,by rw [HTK.out];exact HI.out.again HGK.out HGL.out HA.out (by rw [← HDD.out];exact HF2.out),by omega⟩
        case measure => simp [intOf];omega
      case neg =>
        have e2:((((F d).getD 0:Nat):Int) == 2) = false:=by
          rw [beq_eq_false_iff_ne]
          intro h
          cases hf:F d with
          | none => rw [hf] at h;simp at h
          | some i => rw [hf] at h;simp only [Option.getD_some] at h;exact h2 (by rw [hf];congr 1;omega)
        clear h2
        obtain ⟨S,HS⟩:∃ z,Hid (z = saveL 0 l):=⟨_,rfl⟩
        have HSL:Hid (S.length ≤ 25601):=by show _ ≤ _;rw [HS.out];exact save_few HGL.out.ok HGL.out.up (by have:=HGL.out.few;omega)
        have HLD:Hid (∀ W,Below w.heap.size w W → Calls Tryz.prog 8 #[.agg (cb d).toArray,vp] W fun e w' => ∃ g,e = .returned (.tuple #[.pointer (some ⟨g,0,none⟩),.int .i64 0]) ∧ TT w' g l ∧ Below W.heap.size W w'):=fun W hW => by
          rw [HDD.out]
          exact pgLoad_ok l vp ps W (HK.out.below hW HK.out.lt) HGL.out.ok HGL.out.up HGL.out.few (HP.out.below hW) HPL.out.1 (fun p hp => Nat.lt_trans (HPL.out.2 p hp) (by decide)) (fun p hp q hq he => apart_mem HA.out q hq p (HGL.out.has p hp) he) (by
            have h3:=save_nodup 256 0 l (by omega) HGL.out.fits (fun p hp q hq hd => apart_mem HA.out p (HGL.out.has p hp) q (HGL.out.has q hq) hd)
            have h4:=nodup_sub_len h3 HGL.out.has
            omega) HGL.out.has
        have tc0:Hid True:=trivial
        have tc1:Hid True:=trivial
        have tc2:Hid True:=trivial
        have tc3:Hid True:=trivial
        have tc4:Hid True:=trivial
        have tc5:Hid True:=trivial
        have tc6:Hid True:=trivial
        have tc7:Hid True:=trivial
        have tc8:Hid True:=trivial
        have tc9:Hid True:=trivial
        go_wp2_with (first
          | (clear tc0;with_reducible refine wpSeq_idxD17 (.tmp 16) (.tmp 18) bl ol m cpl k hlt ?_ ?_ ?_ ?_ ?_
             · rfl
             · rfl
             · rfl
             · rfl
             have HQ1:Hid True:=trivial)
          | (clear tc1;with_reducible refine wpSeq_ldAt17 (.tmp 20) bl (ol + k * 32) d HDL.out (HRK.out _ HI.out.bel) ?_ ?_ ?_ ?_
             · rfl
             · rfl
             · rfl
             have HQ2:Hid True:=trivial)
          | (clear tc2;with_reducible refine wpSeq_allocD ?_ ?_ ?_
             · rfl
             · rfl
             intro g8 w2 nn
             have HNN:Hid (Blk w2 g8 (cb zb32) 39 ∧ wr.heap.size ≤ g8 ∧ Below wr.heap.size wr w2):=⟨nn.blk,nn.ge,nn.below⟩
             clear nn)
          | (clear tc3;with_reducible refine wpSeq_storeD (.tmp 8) (.tmp 21) g8 zb32 d zb32_len HDL.out HNN.out.1 ?_ ?_ ?_ ?_ ?_
             · rfl
             · rfl
             · rfl
             · rfl
             intro w3 h9
             have hb:Below wr.heap.size wr w3:=HNN.out.2.2.trans (h9.only.below HNN.out.2.1 HNN.out.2.2.size)
             have H8:Hid (Blk w3 g8 (cb d) 39):=h9.blk
             replace HI:Hid (KnI w gm n F (ks.take k) w3):=HI.out.next hb
             have hlk:=HI.out.mp.look1 HDL.out
             clear h9 HNN hb)
          | (clear tc4;with_reducible refine wpSeq_loadD (.tmp 8) g8 d HDL.out H8.out ?_ ?_ ?_ ?_
             · rfl
             · rfl
             · rfl
             have HQ3:Hid True:=trivial)
          | (clear tc5;with_reducible refine wpSeq_loadD (.tmp 8) g8 d HDL.out H8.out ?_ ?_ ?_ ?_
             · rfl
             · rfl
             · rfl
             have HQ4:Hid True:=trivial)
          | (clear tc6;go_at_call 8;refine (HLD.out _ HI.out.bel).mono ?_;rintro e w4 ⟨gt,rfl,ht,hb⟩
             have HT:Hid (TT w4 gt l):=ht
             replace H8:Hid (Blk w4 g8 (cb d) 39):=H8.out.below hb H8.out.lt
             replace HI:Hid (KnI w gm n F (ks.take k) w4):=HI.out.next hb
             clear ht hb hlk)
          | (clear tc7;go_at_call 21;refine (pgSave_any gt l _ (HK.out.below HI.out.bel HK.out.lt) HT.out (Nat.le_trans HGL.out.few (by decide))).mono ?_;rintro e w5 ⟨vv5,us5,rfl,hp,hb⟩
             rw [← HDD.out]
             obtain ⟨gs,ns,cs,hvv,hrow⟩:=row17_of hp (save_pos 0 l)
             subst hvv
             rw [← HS.out] at hrow
             have HRW:Hid (Row17 w5 gs ns cs S):=hrow
             replace H8:Hid (Blk w5 g8 (cb d) 39):=H8.out.below hb H8.out.lt
             replace HI:Hid (KnI w gm n F (ks.take k) w5):=HI.out.next hb
             clear hp hrow hb HT)
          | (clear tc8;with_reducible refine wpSeq_allocD ?_ ?_ ?_
             · rfl
             · rfl
             intro g11 w6 nn
             have HNN:Hid (Blk w6 g11 (cb zb32) 39 ∧ w5.heap.size ≤ g11 ∧ Below w5.heap.size w5 w6):=⟨nn.blk,nn.ge,nn.below⟩
             clear nn)
          | (clear tc9;with_reducible refine wpSeq_storeD (.tmp 11) (.tmp 38) g11 zb32 d zb32_len HDL.out HNN.out.1 ?_ ?_ ?_ ?_ ?_
             · rfl
             · rfl
             · rfl
             · rfl
             intro w7 h9
             have hb:Below w5.heap.size w5 w7:=HNN.out.2.2.trans (h9.only.below HNN.out.2.1 HNN.out.2.2.size)
             replace H8:Hid (Blk w7 g8 (cb d) 39):=H8.out.below hb H8.out.lt
             replace HI:Hid (KnI w gm n F (ks.take k) w7):=HI.out.next hb
             replace HRW:Hid (Row17 w7 gs ns cs S):=HRW.out.next hb
             clear h9 HNN hb))
        have HNS:Hid (ns = S.length):=HRW.out.len
        have HJ0:Hid (KnJ w gm n F (ks.take k) [] w7):=⟨HI.out.bel,HI.out.ge,HI.out.mp,fun x => by rw [HI.out.has x];exact ⟨Or.inl,fun h => h.elim id fun ⟨p,hp,_⟩ => by cases hp⟩,HI.out.two⟩
        clear HI
        go_loopw [42] (fun i W => ∃ (j n2:Nat) (F2:By → Option Nat),j ≤ ns ∧ i = .int .i64 (j:Int) ∧ Hid (KnJ w gm n2 F2 (ks.take k) (S.take j) W) ∧ n2 ≤ n + j ∧ Hid (Row17 W gs ns cs S) ∧ Hid (Blk W g8 (cb d) 39)) (fun i _ => ns - (intOf i).toNat)
        case atStart => exact ⟨0,n,F,Nat.zero_le _,rfl,HJ0.out,Nat.le_refl _,HRW.out,H8.out⟩
        case round =>
          rename World => wq
          clear HRW H8
          obtain ⟨j,n2,F2,hj,rfl,HJ,hn2,HRW,H8⟩:=hrel
          by_cases hjl:j < ns
          case pos =>
            have hjli:(j:Int) < (ns:Int):=by omega
            have fj:IntKind.i64.wrap ((j:Int) + 1) = (j:Int) + 1:=by rw [IntKind.wrap_i64];have:=HSL.out;have:=HNS.out;omega
            have hjs:j < S.length:=by rw [← HNS.out];exact hjl
            obtain ⟨p,HPP⟩:∃ z,Hid (z = S.getD j []):=⟨_,rfl⟩
            have HTJ:Hid (S.take (j + 1) = S.take j ++ [p]):=by show _ = _;rw [HPP.out,List.take_add_one,List.getElem?_eq_getElem hjs,List.getD_eq_getElem?_getD,List.getElem?_eq_getElem hjs,Option.toList_some,Option.getD_some]
            obtain ⟨u,hc,hr⟩:=HRW.out.at_ j hjl
            rw [← HPP.out] at hr
            obtain ⟨np,HNP⟩:∃ z,Hid (z = p.length):=⟨_,rfl⟩
            obtain ⟨ap,cp,hvu⟩:∃ a c,u = .slice a np c:=by
              obtain ⟨a,c,h1,_⟩:=hr
              exact ⟨a,c,by rw [h1,HNP.out]⟩
            subst hvu
            have HRP:Hid (Reads wq (.slice ap np cp) p):=hr
            have HPS:Hid (p.length < 2305843009213693952):=by
              have hm:p ∈ saveL 0 l:=by rw [← HS.out,HPP.out,List.getD_eq_getElem?_getD,List.getElem?_eq_getElem hjs];exact List.getElem_mem hjs
              show _ < _
              have:=HPL.out.2 p (HGL.out.has p hm)
              omega
            obtain ⟨x,HX⟩:∃ z,Hid (z = dig p):=⟨_,rfl⟩
            have HXL:Hid (x.length = 32):=by show _ = _;rw [HX.out];exact len_dig' _
            have hnb:n2 < 100000000:=by have:=HKL.out;have:=HSL.out;have:=HNS.out;have:=HM.out;have:k * 30000 ≤ 1000 * 30000:=Nat.mul_le_mul_right _ (by omega);omega
            have HNB:Hid (n2 < 100000000):=hnb
            clear hr hnb
            have td0:Hid True:=trivial
            have td1:Hid True:=trivial
            go_wp2_with (first
              | (clear td0;with_reducible refine wpSeq_idxQ17 (.tmp 40) (.tmp 42) gs 0 ns cs j hjl ?_ ?_ ?_ ?_ ?_
                 · rfl
                 · rfl
                 · rfl
                 · rfl
                 rw [Nat.zero_add]
                 have HQ5:Hid True:=trivial)
              | (clear td1;go_at_call 16;refine (tOf_any _ p _ (HK.out.below HJ.out.bel HK.out.lt) HRP.out HPS.out).mono ?_;rintro e w8 ⟨rfl,hb⟩
                 rw [← HX.out]
                 obtain ⟨w9,hrun0,hm9,ho9⟩:=(HJ.out.mp.next hb).lay HNB.out HXL.out (i:=1) (by decide)
                 have hrun:(Instr.mapUpdate 52 (.map (some gm)) (.agg (cb x).toArray) (.int .i64 1)).run Tryz.prog w8 = .ok () w9:=hrun0
                 have hm8:=HJ.out.mp.next hb
                 have HJ9:Hid (KnJ w gm (n2 + 1) (fun y => if y = x then some 1 else F2 y) (ks.take k) (S.take (j + 1)) w9):=by
                   have h:=(HJ.out.next hb).lay (p:=p) (by rw [← HX.out];exact hm9) ho9
                   rw [← HX.out,← HTJ.out] at h
                   exact h
                 have HR9:Hid (Row17 w9 gs ns cs S):=(HRW.out.next hb).mapped ho9 hm8
                 have H89:Hid (Blk w9 g8 (cb d) 39):=(H8.out.below hb H8.out.lt).mapped ho9 hm8
                 clear hrun0 hm9 ho9 hm8 hb HJ HRW H8 hc))
            clear hrun
            go_roundw
            case rel => exact ⟨j + 1,n2 + 1,_,by omega,by simp,HJ9.out,by omega,HR9.out,H89.out⟩
            case measure => simp [intOf];omega
          case neg =>
            have hje:j = ns:=by omega
            have HNB:Hid (n2 < 100000000):=by have:=HKL.out;have:=HSL.out;have:=HNS.out;have:=HM.out;have:k * 30000 ≤ 1000 * 30000:=Nat.mul_le_mul_right _ (by omega);show _ < _;omega
            have hJ:=HJ.out
            rw [hje,HNS.out,List.take_length] at hJ
            have HJ2:Hid (KnJ w gm n2 F2 (ks.take k) S wq):=hJ
            obtain ⟨w9,hrun0,hm9,ho9⟩:=hJ.mp.lay HNB.out HDL.out (i:=2) (by decide)
            have hrun:(Instr.mapUpdate 52 (.map (some gm)) (.agg (cb d).toArray) (.int .i64 2)).run Tryz.prog wq = .ok () w9:=hrun0
            have HI9:Hid (KnI w gm (n2 + 1) (fun y => if y = d then some 2 else F2 y) (ks.take (k + 1)) w9):=by
              rw [HS.out] at hJ
              have h:=hJ.done (l:=l) (by rw [← HDD.out];exact hm9) ho9
              rw [← HDD.out,← HTK.out] at h
              exact h
            subst hje
            have hnn:n2 + 1 ≤ (k + 1) * 30000:=by have:=HSL.out;have:=HNS.out;omega
            clear hrun0 hm9 ho9 hJ HJ HJ2
            have te0:Hid True:=trivial
            go_wp2_with (first
              | (clear te0;with_reducible refine wpSeq_loadD (.tmp 8) g8 d HDL.out H8.out ?_ ?_ ?_ ?_
                 · rfl
                 · rfl
                 · rfl
                 have HQ6:Hid True:=trivial))
            clear hrun
            go_roundw
            case rel => exact ⟨k + 1,n2 + 1,_,by omega,by simp,HI9.out,hnn⟩
            case measure => simp [intOf];omega
    case neg =>
      have hke:k = m:=by omega
      have HF:Hid (KnI w gm n F ks wr ∧ n ≤ ks.length * 30000):=by
        have h:=HI.out
        rw [hke,HM.out,List.take_length] at h
        exact ⟨h,by rw [← HM.out,← hke];exact hn⟩
      subst hke
      go_wp2
      refine bodyPost_ret (results_tmp2 rfl _ _ _) rfl ?_
      exact ⟨gm,n,F,rfl,HF.out.1,HF.out.2⟩
end Go.Proofs.YtphmmnffgknkcaaGreatDoor
namespace Go.Proofs.YtphmmnffgknkcaaGreatDoor
open Go.RowKit
set_option maxRecDepth 100000
theorem OwnB.zero9 (w:World) (base g:Nat) (hg:base ≤ g) (h:Blk w g [] 5):OwnB w base (.slice (some ⟨g,0,none⟩) 0 0) []:=
  ⟨by simp [cb],Or.inr ⟨g,0,#[],rfl,hg,h,Nat.le_refl _,by unfold maxLen;omega,rfl,rfl⟩⟩
set_option maxRecDepth 100000 in
set_option maxHeartbeats 4000000 in
theorem bclone_any (v:Value) (l:List (BitVec 8)) (w:World) (h:Reads w v l) (hl:l.length ≤ 140737488355328) :
    Calls Tryz.prog 17 #[v] w fun e w' => ∃ v',e = .returned v' ∧ OwnB w' w.heap.size v' l ∧ Below w.heap.size w w':=by
  have HR:Hid (Reads w v l):=h
  have HL:Hid (l.length ≤ 140737488355328):=hl
  obtain ⟨ad,cap,rfl,_,hn,hx⟩:=h
  cases ad with
  | none =>
    have h0:l = []:=by
      cases l with
      | nil => rfl
      | cons b r => obtain ⟨b,off,h1,_⟩:=hx (by simp);cases h1
    subst h0
    have:=hn rfl
    subst this
    clear hx hn hl
    have hnil:∀ (a:Option Addr) (n c:Nat) (w:World),(binOp .eql 48 (.slice a n c) (.slice none 0 0)).run Tryz.prog w = .ok (.bool a.isNone) w:=fun a n c w => Lib.run_eql_slice_nil w 48 5 a n c 0 0 Tryz.underlying48
    go_enter Tryz.func17,Tryz.ntmps17
    go_wp2
    go_ret
    exact ⟨_,rfl,OwnB.nil _ _,Below.refl _ _⟩
  | some ad =>
    clear hx hn hl
    obtain ⟨m,HM⟩:∃ m,Hid (m = l.length):=⟨_,rfl⟩
    rw [← HM.out] at HR ⊢
    have HB:=below_alloc w (.cells ([]:List Value).toArray 5)
    have HO:Hid (OwnB (w.alloc (.cells ([]:List Value).toArray 5)) w.heap.size (.slice (some ⟨w.heap.size,0,none⟩) 0 0) []):=OwnB.zero9 _ _ _ (Nat.le_refl _) (Blk.new w [] 5)
    have HR1:Hid (Reads (w.alloc (.cells ([]:List Value).toArray 5)) (.slice (some ad) m cap) l):=HR.out.below HB
    have HBB:Hid (Below w.heap.size w (w.alloc (.cells ([]:List Value).toArray 5))):=HB
    clear HB
    have hnil:∀ (a:Option Addr) (n c:Nat) (w:World),(binOp .eql 48 (.slice a n c) (.slice none 0 0)).run Tryz.prog w = .ok (.bool a.isNone) w:=fun a n c w => Lib.run_eql_slice_nil w 48 5 a n c 0 0 Tryz.underlying48
    go_enter Tryz.func17,Tryz.ntmps17
    go_wp2_with (at_builtin;refine wpList_appendB rfl (.tmp 5) (.tmp 6) rfl w.heap.size _ [] rfl HO.out _ l rfl HR1.out (by have:=HL.out;simp;omega) HBB.out.size ?_;intro v2 w2 hown2 hb2 _)
    have hB2:=HBB.out.trans hb2
    go_wp2
    go_ret
    exact ⟨_,rfl,hown2,hB2⟩
theorem results_tmp3 {fn:Func} {u0 u1 u2:Tmp} (h:fn.results = #[.tmp u0,.tmp u1,.tmp u2]) (tmps:Array Value) (P:Program) (w:World):(results fn tmps).run P w = .ok (.tuple #[tmps.getD u0 undef,tmps.getD u1 undef,tmps.getD u2 undef]) w:=by
  simp [results,h,go_sem]
def needB (ks:List (List Lf)) (p:By):Bool:=ks.any fun l => (saveL 0 l).any fun q => decide (dig q = dig p)
theorem needB_iff {ks:List (List Lf)} {p:By}:needB ks p = true ↔ keyIn ks (dig p):=by
  unfold needB keyIn
  simp only [List.any_eq_true,decide_eq_true_eq]
structure Sp2 (wk:World) (B:Nat) (v:Value) (us:List Value) (ps:List By) (v5:Value) (us5:List Value) (ps5:List By) (W:World):Prop where
  bel:Below B wk W
  le:B ≤ W.heap.size
  a:PgS W B v us ps (fun k => v5.ownBlock = some k)
  b:PgS W B v5 us5 ps5 (fun k => v.ownBlock = some k)
  ne:∀ k,v.ownBlock = some k → v5.ownBlock ≠ some k
theorem Sp2.swap {wk W:World} {B:Nat} {v v5:Value} {us us5:List Value} {ps ps5:List By} (h:Sp2 wk B v us ps v5 us5 ps5 W):Sp2 wk B v5 us5 ps5 v us ps W:=⟨h.bel,h.le,h.b,h.a,fun k h5 h4 => h.ne k h4 h5⟩
theorem Sp2.next {wk W W':World} {B:Nat} {v v5:Value} {us us5:List Value} {ps ps5:List By} (h:Sp2 wk B v us ps v5 us5 ps5 W) (hb:Below W.heap.size W W'):Sp2 wk B v us ps v5 us5 ps5 W':=⟨h.bel.trans (hb.mono h.le),Nat.le_trans h.le hb.size,h.a.next hb,h.b.next hb,h.ne⟩
theorem Sp2.add {wk W W':World} {B:Nat} {v v' v5 u:Value} {us us5:List Value} {ps ps5:List By} {p:By} (h:Sp2 wk B v us ps v5 us5 ps5 W) (ho:OwnX W' B v' (us ++ [u])) (hg:GrV W v W' v') (hu:Reads W u p) (hk:∀ k,u.ownBlock = some k → k < W.heap.size ∧ v.ownBlock ≠ some k ∧ v5.ownBlock ≠ some k):Sp2 wk B v' (us ++ [u]) (ps ++ [p]) v5 us5 ps5 W':=by
  refine ⟨h.bel.trans (hg.below h.le fun k hk => (h.a.own.lt k hk).1),Nat.le_trans h.le hg.mt.size,h.a.more ho hg hu hk,?_,fun k h1 h5 => ?_⟩
  · refine ⟨h.b.own.same fun k hk5 => hg.other (h.b.own.lt k hk5).2 (fun e => h.ne k e hk5),h.b.len,fun j x hj => ?_⟩
    obtain ⟨h1,h2⟩:=h.b.good j x hj
    refine ⟨h1.sameP fun k hk2 => hg.other (h2 k hk2).1 (h2 k hk2).2.2,fun k hk2 => ⟨Nat.lt_of_lt_of_le (h2 k hk2).1 hg.mt.size,(h2 k hk2).2.1,fun e => ?_⟩⟩
    rcases hg.lies k e with e2 | e2
    · exact (h2 k hk2).2.2 e2
    · have:=(h2 k hk2).1;omega
  · rcases hg.lies k h1 with e2 | e2
    · exact h.ne k e2 h5
    · have:=(h.b.own.lt k h5).2;omega
theorem filter_snoc {S:List By} {j:Nat} (hj:j < S.length) (f:By → Bool):(S.take (j + 1)).filter f = (S.take j).filter f ++ (if f (S.getD j []) = true then [S.getD j []] else []):=by
  have e:S.take (j + 1) = S.take j ++ [S.getD j []]:=by rw [List.take_add_one,List.getElem?_eq_getElem hj,List.getD_eq_getElem?_getD,List.getElem?_eq_getElem hj,Option.toList_some,Option.getD_some]
  rw [e,List.filter_append]
  congr 1
  generalize S.getD j [] = q
  cases h:f q <;> simp [h]
set_option maxRecDepth 100000 in
set_option maxHeartbeats 16000000 in
theorem reapSplit_any (vl vp:Value) (ks:List (List Lf)) (ps:List By) (w:World) (hK:KOk w) (hD:ReadsD w vl (ks.map fun l => dig (topPg 0 l))) (hP:ReadsL w vp ps) (hg:∀ l ∈ ks,GoodT ps l) (ha:Apart17 ps) (hk:ks.length ≤ 1000) (hn:ps.length < 100000) (hb:∀ p ∈ ps,p.length < 1000000) :
    Calls Tryz.prog 7 #[vl,vp] w fun e w' => ∃ v4 v5,e = .returned (.tuple #[v4,v5,.int .i64 0]) ∧ ReadsL w' v4 (ps.filter (needB ks)) ∧ ReadsL w' v5 (ps.filter fun p => !needB ks p) ∧ Below w.heap.size w w':=by
  have HKN:Hid (Calls Tryz.prog 15 #[vl,vp] w fun e w' => ∃ gm n F,e = .returned (.tuple #[.map (some gm),.int .i64 0]) ∧ KnI w gm n F ks w' ∧ n ≤ ks.length * 30000):=reapKnown_any vl vp ks ps w hK hD hP hg ha hk hn hb
  have HK:Hid (KOk w):=hK
  have HPL:Hid (ps.length < 100000 ∧ ∀ p ∈ ps,p.length < 1000000):=⟨hn,hb⟩
  obtain ⟨adp,cpp,hvp,_,_,hxp⟩:=id hP
  obtain ⟨m,HM⟩:∃ z,Hid (z = ps.length):=⟨_,rfl⟩
  rw [← HM.out] at hvp
  subst hvp
  have HXP:Hid (0 < ps.length → ∃ b off,adp = some ⟨b,off,none⟩ ∧ ∀ j,j < ps.length → ∃ vj,w.cell? ⟨b,off + j,none⟩ = some vj ∧ Reads w vj (ps.getD j [])):=hxp
  clear hK hD hP hg ha hk hn hb hxp
  go_enter Tryz.func7,Tryz.ntmps7
  have ta0:Hid True:=trivial
  go_wp2_with (first
    | (clear ta0;go_at_call 15;refine (HKN.out).mono ?_;rintro e wk ⟨gm,nm,F,rfl,hI,hnm⟩
       have HI:Hid (KnI w gm nm F ks wk):=hI
       clear hI hnm HKN))
  obtain ⟨B,HB⟩:∃ z,Hid (z = wk.heap.size):=⟨_,rfl⟩
  have HW:Hid (∀ W,Below B wk W → Below w.heap.size w W ∧ KOk W ∧ MapP W gm nm F):=fun W hW => by
    rw [HB.out] at hW
    exact ⟨HI.out.bel.trans (hW.mono HI.out.bel.size),HK.out.below (HI.out.bel.trans (hW.mono HI.out.bel.size)) HK.out.lt,HI.out.mp.next hW⟩
  have H0:Hid (Sp2 wk B (.slice none 0 0) [] [] (.slice none 0 0) [] [] wk):=⟨Below.refl _ _,(by rw [HB.out];exact Nat.le_refl _),PgS.nil _ _ _,PgS.nil _ _ _,fun k h => by cases h⟩
  have HHS:Hid (∀ x,(F x).isSome = true ↔ keyIn ks x):=HI.out.has
  have HTW:Hid (∀ x i,F x = some i → i = 1 ∨ i = 2):=fun x i h => (HI.out.two x i h).1
  clear HI
  go_loopw [4,5,21] (fun a b i W => ∃ (j:Nat) (a4:Option Addr) (n4 c4:Nat) (us4:List Value) (a5:Option Addr) (n5 c5:Nat) (us5:List Value),j ≤ m ∧ a = .slice a4 n4 c4 ∧ b = .slice a5 n5 c5 ∧ i = .int .i64 (j:Int) ∧ Hid (Sp2 wk B (.slice a4 n4 c4) us4 ((ps.take j).filter (needB ks)) (.slice a5 n5 c5) us5 ((ps.take j).filter fun p => !needB ks p) W)) (fun _ _ i _ => m - (intOf i).toNat)
  case atStart => exact ⟨0,none,0,0,[],none,0,0,[],Nat.zero_le _,rfl,rfl,rfl,H0.out⟩
  case round =>
    obtain ⟨j,a4,n4,c4,us4,a5,n5,c5,us5,hj,rfl,rfl,rfl,HR⟩:=hrel
    by_cases hjl:j < m
    case pos =>
      have hjli:(j:Int) < (m:Int):=by omega
      have hjs:j < ps.length:=by rw [← HM.out];exact hjl
      have fj:IntKind.i64.wrap ((j:Int) + 1) = (j:Int) + 1:=by rw [IntKind.wrap_i64];have:=HPL.out.1;have:=HM.out;omega
      obtain ⟨bp,op,rfl,hat⟩:=HXP.out (by omega)
      obtain ⟨u,hc,hr⟩:=hat j hjs
      obtain ⟨p,HPP⟩:∃ z,Hid (z = ps.getD j []):=⟨_,rfl⟩
      rw [← HPP.out] at hr
      obtain ⟨np,HNP⟩:∃ z,Hid (z = p.length):=⟨_,rfl⟩
      obtain ⟨ap,cp,hvu⟩:∃ a c,u = .slice a np c:=by
        obtain ⟨a,c,h1,_⟩:=hr
        exact ⟨a,c,by rw [h1,HNP.out]⟩
      subst hvu
      have HRP:Hid (∀ W,Below w.heap.size w W → W.cell? ⟨bp,op + j,none⟩ = some (.slice ap np cp) ∧ Reads W (.slice ap np cp) p):=fun W hW => ⟨by rw [hW.cell (p:=⟨bp,op + j,none⟩) (block_lt_of_cell hc)];exact hc,hr.below hW⟩
      have HPS:Hid (p.length < 1000000):=HPL.out.2 p (by rw [HPP.out,List.getD_eq_getElem?_getD,List.getElem?_eq_getElem hjs];exact List.getElem_mem hjs)
      obtain ⟨x,HX⟩:∃ z,Hid (z = dig p):=⟨_,rfl⟩
      have HXL:Hid (x.length = 32):=by show _ = _;rw [HX.out];exact len_dig' _
      have HFA:Hid ((ps.take (j + 1)).filter (needB ks) = (ps.take j).filter (needB ks) ++ (if needB ks p = true then [p] else [])):=by show _ = _;rw [HPP.out];exact filter_snoc hjs _
      have HFB:Hid ((ps.take (j + 1)).filter (fun p => !needB ks p) = (ps.take j).filter (fun p => !needB ks p) ++ (if (!needB ks p) = true then [p] else [])):=by show _ = _;rw [HPP.out];exact filter_snoc hjs _
      obtain ⟨P4,HP4⟩:∃ z,Hid (z = (ps.take j).filter (needB ks)):=⟨_,rfl⟩
      obtain ⟨P5,HP5⟩:∃ z,Hid (z = (ps.take j).filter fun p => !needB ks p):=⟨_,rfl⟩
      rw [← HP4.out] at HR HFA
      rw [← HP5.out] at HR HFB
      have HLN:Hid (P4.length < 100000 ∧ P5.length < 100000):=by
        show _ ∧ _
        rw [HP4.out,HP5.out]
        have h1:=List.length_filter_le (needB ks) (ps.take j)
        have h2:=List.length_filter_le (fun p => !needB ks p) (ps.take j)
        rw [List.length_take] at h1 h2
        have:=HPL.out.1
        omega
      obtain ⟨nb,HNB⟩:∃ z,Hid (z = needB ks p):=⟨_,rfl⟩
      have e0:((((F x).getD 0:Nat):Int) == 0) = !nb:=by
        rw [HNB.out]
        cases hf:F x with
        | none =>
          have:needB ks p = false:=by
            cases hq:needB ks p with
            | false => rfl
            | true => have h1:=(HHS.out x).2 (by rw [HX.out];exact needB_iff.1 hq);rw [hf] at h1;cases h1
          rw [this];rfl
        | some i =>
          have h1:needB ks p = true:=needB_iff.2 (by rw [← HX.out];exact (HHS.out x).1 (by rw [hf];rfl))
          rw [h1,Bool.not_true,beq_eq_false_iff_ne]
          have:=HTW.out x i hf
          simp only [Option.getD_some]
          omega
      have hce:=(HRP.out wr (HW.out _ HR.out.bel).1).1
      rw [← HNB.out] at HFA HFB
      clear hat hc hr HXP
      cases nb with
      | true =>
        have HGA:Hid ((ps.take (j + 1)).filter (needB ks) = P4 ++ [p] ∧ (ps.take (j + 1)).filter (fun p => !needB ks p) = P5):=⟨by rw [HFA.out,if_pos rfl],by rw [HFB.out,if_neg (by decide),List.append_nil]⟩
        clear HFA HFB
        have tb0:Hid True:=trivial
        have tb1:Hid True:=trivial
        have tb2:Hid True:=trivial
        have tb3:Hid True:=trivial
        have tb4:Hid True:=trivial
        go_wp2_with (first
          | (clear tb0;with_reducible refine wpSeq_idxQ17 (.tmp 19) (.tmp 21) bp op m cpp j hjl ?_ ?_ ?_ ?_ ?_
             · rfl
             · rfl
             · rfl
             · rfl
             have HQ1:Hid True:=trivial)
          | (clear tb1;go_at_call 16;refine (tOf_any _ p _ (HW.out _ HR.out.bel).2.1 (HRP.out _ (HW.out _ HR.out.bel).1).2 (Nat.lt_trans HPS.out (by decide))).mono ?_;rintro e w2 ⟨rfl,hb⟩
             rw [← HX.out]
             replace HR:Hid (Sp2 wk B (.slice a4 n4 c4) us4 P4 (.slice a5 n5 c5) us5 P5 w2):=HR.out.next hb
             have hlk:=(HW.out _ HR.out.bel).2.2.look1 HXL.out
             clear hb hce)
          | (clear tb2;go_at_call 17;refine (bclone_any (.slice ap np cp) p _ (HRP.out _ (HW.out _ HR.out.bel).1).2 (by have:=HPS.out;omega)).mono ?_;rintro e w3 ⟨u3,rfl,ho,hb⟩
             obtain ⟨a3,c3,hu3⟩:=ho.formP
             rw [← HNP.out] at hu3
             subst hu3
             have HUB:Hid (∀ k,(Value.slice a3 np c3).ownBlock = some k → k < w3.heap.size ∧ (Value.slice a4 n4 c4).ownBlock ≠ some k ∧ (Value.slice a5 n5 c5).ownBlock ≠ some k):=fun k hk => ⟨(ho.ltP k hk).2,(fun e => by have h1:=(ho.ltP k hk).1;have h2:=(HR.out.a.own.lt k e).2;omega),fun e => by have h1:=(ho.ltP k hk).1;have h2:=(HR.out.b.own.lt k e).2;omega⟩
             have HU3:Hid (Reads w3 (.slice a3 np c3) p):=ho.reads
             replace HR:Hid (Sp2 wk B (.slice a4 n4 c4) us4 P4 (.slice a5 n5 c5) us5 P5 w3):=HR.out.next hb
             clear ho hb hlk)
          | (clear tb3;with_reducible refine wpSeq_buildX (.tmp 37) a3 np c3 ?_ ?_ ?_ ?_
             · rfl
             · rfl
             · rfl
             intro g4 w4 hy hge hb
             have HY:Hid (Blk w4 g4 [.slice a3 np c3] 48):=hy
             replace HUB:Hid (∀ k,(Value.slice a3 np c3).ownBlock = some k → k < w4.heap.size ∧ (Value.slice a4 n4 c4).ownBlock ≠ some k ∧ (Value.slice a5 n5 c5).ownBlock ≠ some k):=fun k hk => ⟨Nat.lt_of_lt_of_le (HUB.out k hk).1 hb.size,(HUB.out k hk).2⟩
             replace HU3:Hid (Reads w4 (.slice a3 np c3) p):=HU3.out.below hb
             replace HR:Hid (Sp2 wk B (.slice a4 n4 c4) us4 P4 (.slice a5 n5 c5) us5 P5 w4):=HR.out.next hb
             clear hy hge hb)
          | (clear tb4;with_reducible refine wpSeq_appX (.tmp 35) (.tmp 38) B (Value.slice a4 n4 c4) (.slice a3 np c3) us4 g4 HR.out.a.own HY.out rfl (by have h1:=HR.out.a.len;have h2:=HLN.out;omega) HR.out.le ?_ ?_ ?_ ?_ ?_
             · rfl
             · rfl
             · rfl
             · rfl
             intro v5x w5 ho hg
             obtain ⟨a6,c6,hv6⟩:=ho.form
             generalize hn6:(us4 ++ [Value.slice a3 np c3]).length = n6 at hv6
             clear hn6
             subst hv6
             have HR5:Hid (Sp2 wk B (.slice a6 n6 c6) (us4 ++ [Value.slice a3 np c3]) (P4 ++ [p]) (.slice a5 n5 c5) us5 P5 w5):=HR.out.add ho hg HU3.out HUB.out
             clear ho hg HR HU3 HUB HY))
        go_roundw
        case rel => exact ⟨j + 1,a6,n6,c6,us4 ++ [Value.slice a3 np c3],a5,n5,c5,us5,by omega,rfl,rfl,by simp,by rw [HGA.out.1,HGA.out.2];exact HR5.out⟩
        case measure => simp [intOf];omega
      | false =>
        have HGA:Hid ((ps.take (j + 1)).filter (needB ks) = P4 ∧ (ps.take (j + 1)).filter (fun p => !needB ks p) = P5 ++ [p]):=⟨by rw [HFA.out,if_neg (by decide),List.append_nil],by rw [HFB.out,if_pos (by decide)]⟩
        clear HFA HFB
        have tc0:Hid True:=trivial
        have tc1:Hid True:=trivial
        have tc2:Hid True:=trivial
        have tc3:Hid True:=trivial
        have tc4:Hid True:=trivial
        go_wp2_with (first
          | (clear tc0;with_reducible refine wpSeq_idxQ17 (.tmp 19) (.tmp 21) bp op m cpp j hjl ?_ ?_ ?_ ?_ ?_
             · rfl
             · rfl
             · rfl
             · rfl
             have HQ1:Hid True:=trivial)
          | (clear tc1;go_at_call 16;refine (tOf_any _ p _ (HW.out _ HR.out.bel).2.1 (HRP.out _ (HW.out _ HR.out.bel).1).2 (Nat.lt_trans HPS.out (by decide))).mono ?_;rintro e w2 ⟨rfl,hb⟩
             rw [← HX.out]
             replace HR:Hid (Sp2 wk B (.slice a4 n4 c4) us4 P4 (.slice a5 n5 c5) us5 P5 w2):=HR.out.next hb
             have hlk:=(HW.out _ HR.out.bel).2.2.look1 HXL.out
             clear hb hce)
          | (clear tc2;go_at_call 17;refine (bclone_any (.slice ap np cp) p _ (HRP.out _ (HW.out _ HR.out.bel).1).2 (by have:=HPS.out;omega)).mono ?_;rintro e w3 ⟨u3,rfl,ho,hb⟩
             obtain ⟨a3,c3,hu3⟩:=ho.formP
             rw [← HNP.out] at hu3
             subst hu3
             have HUB:Hid (∀ k,(Value.slice a3 np c3).ownBlock = some k → k < w3.heap.size ∧ (Value.slice a5 n5 c5).ownBlock ≠ some k ∧ (Value.slice a4 n4 c4).ownBlock ≠ some k):=fun k hk => ⟨(ho.ltP k hk).2,(fun e => by have h1:=(ho.ltP k hk).1;have h2:=(HR.out.b.own.lt k e).2;omega),fun e => by have h1:=(ho.ltP k hk).1;have h2:=(HR.out.a.own.lt k e).2;omega⟩
             have HU3:Hid (Reads w3 (.slice a3 np c3) p):=ho.reads
             replace HR:Hid (Sp2 wk B (.slice a4 n4 c4) us4 P4 (.slice a5 n5 c5) us5 P5 w3):=HR.out.next hb
             clear ho hb hlk)
          | (clear tc3;with_reducible refine wpSeq_buildX (.tmp 32) a3 np c3 ?_ ?_ ?_ ?_
             · rfl
             · rfl
             · rfl
             intro g4 w4 hy hge hb
             have HY:Hid (Blk w4 g4 [.slice a3 np c3] 48):=hy
             replace HUB:Hid (∀ k,(Value.slice a3 np c3).ownBlock = some k → k < w4.heap.size ∧ (Value.slice a5 n5 c5).ownBlock ≠ some k ∧ (Value.slice a4 n4 c4).ownBlock ≠ some k):=fun k hk => ⟨Nat.lt_of_lt_of_le (HUB.out k hk).1 hb.size,(HUB.out k hk).2⟩
             replace HU3:Hid (Reads w4 (.slice a3 np c3) p):=HU3.out.below hb
             replace HR:Hid (Sp2 wk B (.slice a4 n4 c4) us4 P4 (.slice a5 n5 c5) us5 P5 w4):=HR.out.next hb
             clear hy hge hb)
          | (clear tc4;with_reducible refine wpSeq_appX (.tmp 30) (.tmp 33) B (Value.slice a5 n5 c5) (.slice a3 np c3) us5 g4 HR.out.b.own HY.out rfl (by have h1:=HR.out.b.len;have h2:=HLN.out;omega) HR.out.le ?_ ?_ ?_ ?_ ?_
             · rfl
             · rfl
             · rfl
             · rfl
             intro v5x w5 ho hg
             obtain ⟨a6,c6,hv6⟩:=ho.form
             generalize hn6:(us5 ++ [Value.slice a3 np c3]).length = n6 at hv6
             clear hn6
             subst hv6
             have HR5:Hid (Sp2 wk B (.slice a4 n4 c4) us4 P4 (.slice a6 n6 c6) (us5 ++ [Value.slice a3 np c3]) (P5 ++ [p]) w5):=(HR.out.swap.add ho hg HU3.out HUB.out).swap
             clear ho hg HR HU3 HUB HY))
        go_roundw
        case rel => exact ⟨j + 1,a4,n4,c4,us4,a6,n6,c6,us5 ++ [Value.slice a3 np c3],by omega,rfl,rfl,by simp,by rw [HGA.out.1,HGA.out.2];exact HR5.out⟩
        case measure => simp [intOf];omega
    case neg =>
      have hje:j = m:=by omega
      have hR:=HR.out
      rw [hje,HM.out,List.take_length] at hR
      have HF:Hid (ReadsL wr (.slice a4 n4 c4) (ps.filter (needB ks)) ∧ ReadsL wr (.slice a5 n5 c5) (ps.filter fun p => !needB ks p) ∧ Below w.heap.size w wr):=⟨hR.a.readsL,hR.b.readsL,(HW.out _ hR.bel).1⟩
      subst hje
      clear hR
      go_wp2
      refine bodyPost_ret (results_tmp3 rfl _ _ _) rfl ?_
      exact ⟨_,_,rfl,HF.out.1,HF.out.2.1,HF.out.2.2⟩
end Go.Proofs.YtphmmnffgknkcaaGreatDoor
namespace Go.Proofs.YtphmmnffgknkcaaGreatDoor
open Go.RowKit
set_option maxRecDepth 100000
def Fr4 (v5 v6 v7:Value) (g8:Nat) (W:World) (k:Nat):Prop:=k < W.heap.size ∧ v5.ownBlock ≠ some k ∧ v6.ownBlock ≠ some k ∧ v7.ownBlock ≠ some k ∧ k ≠ g8
structure St4 (v5 v6 v7 v5' v6' v7':Value) (g8:Nat) (W W':World):Prop where
  size:W.heap.size ≤ W'.heap.size
  keep:∀ k,Fr4 v5 v6 v7 g8 W k → W'.heap[k]? = W.heap[k]?
  l5:∀ k,v5'.ownBlock = some k → v5.ownBlock = some k ∨ W.heap.size ≤ k
  l6:∀ k,v6'.ownBlock = some k → v6.ownBlock = some k ∨ W.heap.size ≤ k
  l7:∀ k,v7'.ownBlock = some k → v7.ownBlock = some k ∨ W.heap.size ≤ k
theorem St4.of_below {v5 v6 v7:Value} {g8:Nat} {W W':World} (h:Below W.heap.size W W'):St4 v5 v6 v7 v5 v6 v7 g8 W W':=⟨h.size,fun k hk => h.block k hk.1,fun _ h => Or.inl h,fun _ h => Or.inl h,fun _ h => Or.inl h⟩
theorem St4.of_five {v5 v6 v7 v5':Value} {g8 B:Nat} {W W':World} (h:Grow B W v5 W' v5'):St4 v5 v6 v7 v5' v6 v7 g8 W W':=
  ⟨h.below.size,fun k hk => h.other k (fun e => hk.2.1 e.symm) hk.1,fun _ hk => h.lies.elim (fun e => Or.inl (by rw [← e];exact hk)) (fun e => Or.inr (by rw [e] at hk;cases hk;exact Nat.le_refl _)),fun _ h => Or.inl h,fun _ h => Or.inl h⟩
theorem St4.of_six {v5 v6 v7 v6':Value} {g8:Nat} {W W':World} (h:GrV W v6 W' v6'):St4 v5 v6 v7 v5 v6' v7 g8 W W':=⟨h.mt.size,fun _ hk => h.other hk.1 hk.2.2.1,fun _ h => Or.inl h,h.lies,fun _ h => Or.inl h⟩
theorem St4.of_seven {v5 v6 v7 v7':Value} {g8:Nat} {W W':World} (h:GrV W v7 W' v7'):St4 v5 v6 v7 v5 v6 v7' g8 W W':=⟨h.mt.size,fun _ hk => h.other hk.1 hk.2.2.2.1,fun _ h => Or.inl h,fun _ h => Or.inl h,h.lies⟩
theorem St4.of_set {v5 v6 v7:Value} {g8:Nat} {W W':World} (h:Only g8 W W'):St4 v5 v6 v7 v5 v6 v7 g8 W W':=⟨h.size,fun k hk => h.block k hk.2.2.2.2 hk.1,fun _ h => Or.inl h,fun _ h => Or.inl h,fun _ h => Or.inl h⟩
theorem Fr4.step {v5 v6 v7 v5' v6' v7':Value} {g8 k:Nat} {W W':World} (h:Fr4 v5 v6 v7 g8 W k) (s:St4 v5 v6 v7 v5' v6' v7' g8 W W'):Fr4 v5' v6' v7' g8 W' k:=by
  obtain ⟨h1,h2,h3,h4,h5⟩:=h
  exact ⟨Nat.lt_of_lt_of_le h1 s.size,fun e => (s.l5 k e).elim h2 (fun h => by omega),fun e => (s.l6 k e).elim h3 (fun h => by omega),fun e => (s.l7 k e).elim h4 (fun h => by omega),h5⟩
def RdF (v5 v6 v7:Value) (g8:Nat) (W:World) (u:Value) (p:By):Prop:=Reads W u p ∧ ∀ k,u.ownBlock = some k → Fr4 v5 v6 v7 g8 W k
theorem RdF.step {v5 v6 v7 v5' v6' v7':Value} {g8:Nat} {W W':World} {u:Value} {p:By} (h:RdF v5 v6 v7 g8 W u p) (s:St4 v5 v6 v7 v5' v6' v7' g8 W W'):RdF v5' v6' v7' g8 W' u p:=
  ⟨h.1.sameP fun k hk => s.keep k (h.2 k hk),fun k hk => (h.2 k hk).step s⟩
theorem ReadsD.same18 {W W':World} {v:Value} {ds:List By} (h:ReadsD W v ds) (hs:∀ k,v.ownBlock = some k → W'.heap[k]? = W.heap[k]?):ReadsD W' v ds:=by
  obtain ⟨⟨ad,cap,rfl,h2,h3,h4⟩,h5⟩:=h
  refine ⟨⟨ad,cap,rfl,h2,h3,fun hp => ?_⟩,h5⟩
  obtain ⟨b,off,rfl,h6⟩:=h4 hp
  exact ⟨b,off,rfl,fun j hj i v hv => by rw [World.cell?_of_block (w:=W) (hs b rfl)];exact h6 j hj i v hv⟩
def LfF (v5 v6 v7:Value) (g8:Nat) (W:World) (xa xv:Value) (l:List Lf):Prop:=ReadsLf W xa xv l ∧ ∀ k,(xa.ownBlock = some k ∨ xv.ownBlock = some k) → Fr4 v5 v6 v7 g8 W k
theorem LfF.step {v5 v6 v7 v5' v6' v7':Value} {g8:Nat} {W W':World} {xa xv:Value} {l:List Lf} (h:LfF v5 v6 v7 g8 W xa xv l) (s:St4 v5 v6 v7 v5' v6' v7' g8 W W'):LfF v5' v6' v7' g8 W' xa xv l:=
  ⟨⟨h.1.1.same18 fun k hk => s.keep k (h.2 k (Or.inl hk)),h.1.2.same18 fun k hk => s.keep k (h.2 k (Or.inr hk))⟩,fun k hk => (h.2 k hk).step s⟩
def flatT (ts:List (Value × Value)):List Value:=(ts.map fun t => [t.1,t.2]).flatten
def OwnT18 (W:World) (B:Nat) (v:Value) (ts:List (Value × Value)):Prop:=W.ownsRow B 43 2 v ts.length (flatT ts)
theorem OwnT18.nil (W:World) (B:Nat):OwnT18 W B (.slice none 0 0) []:=World.ownsRow_nil _ _ _ _
theorem OwnT18.lt {W:World} {B:Nat} {v:Value} {ts:List (Value × Value)} (h:OwnT18 W B v ts):∀ k,v.ownBlock = some k → B ≤ k ∧ k < W.heap.size:=World.ownsRow.lt h
theorem ownsRow_same18 {W W':World} {B z n:Nat} {t:TypeId} {v:Value} {xs:List Value} (h:W.ownsRow B t z v n xs) (hs:∀ k,v.ownBlock = some k → W'.heap[k]? = W.heap[k]?):W'.ownsRow B t z v n xs:=by
  rcases h with ⟨h1,⟨rfl,h2⟩ | ⟨g,cap,cur,rfl,hg,hh,h3⟩⟩
  · exact ⟨h1,Or.inl ⟨rfl,h2⟩⟩
  · exact ⟨h1,Or.inr ⟨g,cap,cur,rfl,hg,by rw [hs g rfl];exact hh,h3⟩⟩
theorem rows_ne18 {W:World} {B B2 z z2 n n2:Nat} {t t2:TypeId} {v v2:Value} {xs xs2:List Value} (h:W.ownsRow B t z v n xs) (h2:W.ownsRow B2 t2 z2 v2 n2 xs2) (ht:t ≠ t2):∀ k,v.ownBlock = some k → v2.ownBlock ≠ some k:=fun k hk e => by
  rcases h with ⟨_,⟨rfl,_⟩ | ⟨g,cap,cur,rfl,_,hh,_⟩⟩
  · cases hk
  rcases h2 with ⟨_,⟨rfl,_⟩ | ⟨g2,cap2,cur2,rfl,_,hh2,_⟩⟩
  · cases e
  simp only [Value.ownBlock,Option.some.injEq] at hk e
  rw [← e] at hk
  rw [hk,hh2] at hh
  simp only [Option.some.injEq,Obj.cells.injEq] at hh
  exact ht hh.2.1.symm
structure AlI (w1:World) (B g8:Nat) (v5 v6 v7 xa xv:Value) (us:List Value) (ts:List (Value × Value)) (ds5:List By) (ks:List (List Lf)) (ps:List By) (l:List Lf) (W:World):Prop where
  bel:Below B w1 W
  le:B ≤ W.heap.size
  ge:B ≤ g8
  n7:v7.ownBlock ≠ some g8
  own5:OwnD W B v5 ds5
  own6:OwnX W B v6 us
  own7:OwnT18 W B v7 ts
  len6:us.length = ps.length
  e6:∀ (j:Nat) (u:Value),us[j]? = some u → RdF v5 v6 v7 g8 W u (ps.getD j [])
  len7:ts.length = ks.length
  e7:∀ (j:Nat) (t:Value × Value),ts[j]? = some t → LfF v5 v6 v7 g8 W t.1 t.2 (ks.getD j [])
  b8:Blk W g8 [xa,xv] 43
  e8:LfF v5 v6 v7 g8 W xa xv l
theorem blk_ne18 {W:World} {B z n g:Nat} {t t2:TypeId} {v:Value} {xs cs:List Value} (h:W.ownsRow B t z v n xs) (hb:Blk W g cs t2) (ht:t ≠ t2):v.ownBlock ≠ some g:=fun e => by
  rcases h with ⟨_,⟨rfl,_⟩ | ⟨g2,cap,cur,rfl,_,hh,_⟩⟩
  · cases e
  simp only [Value.ownBlock,Option.some.injEq] at e
  subst e
  unfold Blk at hb
  rw [hh] at hb
  simp only [Option.some.injEq,Obj.cells.injEq] at hb
  exact ht hb.2.1
section
variable {w1 W W':World} {B g8:Nat} {v5 v6 v7 xa xv:Value} {us:List Value} {ts:List (Value × Value)} {ds5:List By} {ks:List (List Lf)} {ps:List By} {l:List Lf}
theorem AlI.next (h:AlI w1 B g8 v5 v6 v7 xa xv us ts ds5 ks ps l W) (hb:Below W.heap.size W W'):AlI w1 B g8 v5 v6 v7 xa xv us ts ds5 ks ps l W':=
  have s:St4 v5 v6 v7 v5 v6 v7 g8 W W':=.of_below hb
  ⟨h.bel.trans (hb.mono h.le),Nat.le_trans h.le hb.size,h.ge,h.n7,⟨ownsRow_same18 h.own5.1 fun k hk => hb.block k (h.own5.lt k hk).2,h.own5.2⟩,h.own6.same fun k hk => hb.block k (h.own6.lt k hk).2,ownsRow_same18 h.own7 fun k hk => hb.block k (h.own7.lt k hk).2,h.len6,fun j u hj => (h.e6 j u hj).step s,h.len7,fun j t hj => (h.e7 j t hj).step s,h.b8.below hb h.b8.lt,h.e8.step s⟩
theorem AlI.set {ya yv:Value} {l':List Lf} (h:AlI w1 B g8 v5 v6 v7 xa xv us ts ds5 ks ps l W) (hb:Blk W' g8 [ya,yv] 43) (ho:Only g8 W W') (he:LfF v5 v6 v7 g8 W ya yv l'):AlI w1 B g8 v5 v6 v7 ya yv us ts ds5 ks ps l' W':=
  have s:St4 v5 v6 v7 v5 v6 v7 g8 W W':=.of_set ho
  have h5:v5.ownBlock ≠ some g8:=blk_ne18 h.own5.1 h.b8 (by decide)
  have h6:v6.ownBlock ≠ some g8:=blk_ne18 h.own6 h.b8 (by decide)
  ⟨h.bel.trans (ho.below h.ge h.le),Nat.le_trans h.le ho.size,h.ge,h.n7,⟨ownsRow_same18 h.own5.1 fun k hk => ho.block k (fun e => h5 (e ▸ hk)) (h.own5.lt k hk).2,h.own5.2⟩,h.own6.same fun k hk => ho.block k (fun e => h6 (e ▸ hk)) (h.own6.lt k hk).2,ownsRow_same18 h.own7 fun k hk => ho.block k (fun e => h.n7 (e ▸ hk)) (h.own7.lt k hk).2,h.len6,fun j u hj => (h.e6 j u hj).step s,h.len7,fun j t hj => (h.e7 j t hj).step s,hb,he.step s⟩
theorem AlI.add5 {v5':Value} {d:By} (h:AlI w1 B g8 v5 v6 v7 xa xv us ts ds5 ks ps l W) (ho:OwnD W' B v5' (ds5 ++ [d])) (hg:Grow B W v5 W' v5'):AlI w1 B g8 v5' v6 v7 xa xv us ts (ds5 ++ [d]) ks ps l W':=
  have s:St4 v5 v6 v7 v5' v6 v7 g8 W W':=.of_five hg
  ⟨h.bel.trans hg.below,Nat.le_trans h.le hg.below.size,h.ge,h.n7,ho,h.own6.same fun k hk => hg.other k (fun e => rows_ne18 h.own5.1 h.own6 (by decide) k e.symm hk) (h.own6.lt k hk).2,ownsRow_same18 h.own7 fun k hk => hg.other k (fun e => rows_ne18 h.own5.1 h.own7 (by decide) k e.symm hk) (h.own7.lt k hk).2,h.len6,fun j u hj => (h.e6 j u hj).step s,h.len7,fun j t hj => (h.e7 j t hj).step s,by
    have hl:=h.b8.lt
    have hb:=h.b8
    unfold Blk at hb ⊢
    rw [hg.other g8 (fun e => blk_ne18 h.own5.1 h.b8 (by decide) e.symm) hl]
    exact hb,h.e8.step s⟩
theorem AlI.add6 {v6' u:Value} {p:By} (h:AlI w1 B g8 v5 v6 v7 xa xv us ts ds5 ks ps l W) (ho:OwnX W' B v6' (us ++ [u])) (hg:GrV W v6 W' v6') (hu:RdF v5 v6 v7 g8 W u p):AlI w1 B g8 v5 v6' v7 xa xv (us ++ [u]) ts ds5 ks (ps ++ [p]) l W':=
  have s:St4 v5 v6 v7 v5 v6' v7 g8 W W':=.of_six hg
  ⟨h.bel.trans (hg.below h.le fun k hk => (h.own6.lt k hk).1),Nat.le_trans h.le hg.mt.size,h.ge,h.n7,⟨ownsRow_same18 h.own5.1 fun k hk => hg.other (h.own5.lt k hk).2 fun e => rows_ne18 h.own6 h.own5.1 (by decide) k e hk,h.own5.2⟩,ho,ownsRow_same18 h.own7 fun k hk => hg.other (h.own7.lt k hk).2 (fun e => rows_ne18 h.own6 h.own7 (by decide) k e hk),by rw [List.length_append,List.length_append,h.len6];rfl,fun j x hj => by
    rcases Nat.lt_or_ge j us.length with hl | hl
    · rw [List.getElem?_append_left hl] at hj
      rw [List.getD_eq_getElem?_getD,List.getElem?_append_left (by rw [← h.len6];exact hl),← List.getD_eq_getElem?_getD]
      exact (h.e6 j x hj).step s
    · rw [List.getElem?_append_right hl] at hj
      have hj0:j - us.length = 0:=by have:=(List.getElem?_eq_some_iff.1 hj).1;simp at this;omega
      rw [hj0] at hj
      cases hj
      rw [List.getD_eq_getElem?_getD,List.getElem?_append_right (by rw [← h.len6];exact hl),← h.len6,hj0]
      exact hu.step s,h.len7,fun j t hj => (h.e7 j t hj).step s,hg.mt.blk h.b8 fun e => blk_ne18 h.own6 h.b8 (by decide) e,h.e8.step s⟩
theorem AlI.add7 {v7':Value} (h:AlI w1 B g8 v5 v6 v7 xa xv us ts ds5 ks ps l W) (ho:OwnT18 W' B v7' (ts ++ [(xa,xv)])) (hg:GrV W v7 W' v7'):AlI w1 B g8 v5 v6 v7' xa xv us (ts ++ [(xa,xv)]) ds5 (ks ++ [l]) ps l W':=
  have s:St4 v5 v6 v7 v5 v6 v7' g8 W W':=.of_seven hg
  ⟨h.bel.trans (hg.below h.le fun k hk => (h.own7.lt k hk).1),Nat.le_trans h.le hg.mt.size,h.ge,(fun e => (hg.lies g8 e).elim h.n7 fun h1 => by have:=h.b8.lt;omega),⟨ownsRow_same18 h.own5.1 fun k hk => hg.other (h.own5.lt k hk).2 fun e => rows_ne18 h.own7 h.own5.1 (by decide) k e hk,h.own5.2⟩,h.own6.same fun k hk => hg.other (h.own6.lt k hk).2 (fun e => rows_ne18 h.own7 h.own6 (by decide) k e hk),ho,h.len6,fun j u hj => (h.e6 j u hj).step s,by rw [List.length_append,List.length_append,h.len7];rfl,fun j t hj => by
    rcases Nat.lt_or_ge j ts.length with hl | hl
    · rw [List.getElem?_append_left hl] at hj
      rw [List.getD_eq_getElem?_getD,List.getElem?_append_left (by rw [← h.len7];exact hl),← List.getD_eq_getElem?_getD]
      exact (h.e7 j t hj).step s
    · rw [List.getElem?_append_right hl] at hj
      have hj0:j - ts.length = 0:=by have:=(List.getElem?_eq_some_iff.1 hj).1;simp at this;omega
      rw [hj0] at hj
      cases hj
      rw [List.getD_eq_getElem?_getD,List.getElem?_append_right (by rw [← h.len7];exact hl),← h.len7,hj0]
      exact h.e8.step s,hg.mt.blk h.b8 h.n7,h.e8.step s⟩
end
structure MoR (v5 v6 v7:Value) (g8 gm:Nat) (usm:List Value) (psm:List By) (W:World):Prop where
  fr:Fr4 v5 v6 v7 g8 W gm
  cl:∀ (j:Nat) (u:Value),usm[j]? = some u → W.cell? ⟨gm,j,none⟩ = some u
  len:usm.length = psm.length
  e:∀ (j:Nat) (u:Value),usm[j]? = some u → RdF v5 v6 v7 g8 W u (psm.getD j [])
theorem MoR.step {v5 v6 v7 v5' v6' v7':Value} {g8 gm:Nat} {usm:List Value} {psm:List By} {W W':World} (h:MoR v5 v6 v7 g8 gm usm psm W) (s:St4 v5 v6 v7 v5' v6' v7' g8 W W'):MoR v5' v6' v7' g8 gm usm psm W':=
  ⟨h.fr.step s,fun j u hj => by rw [World.cell?_of_block (w:=W) (s.keep gm h.fr)];exact h.cl j u hj,h.len,fun j u hj => (h.e j u hj).step s⟩
theorem Tryz.infoLv18:(Tryz.prog.info? 43).map (fun i => (i.zero,i.size,i.bytes)) = some (some (.agg #[.slice none 0 0,.slice none 0 0]),2,48):=by kernel_rfl
theorem flatT_snoc (ts:List (Value × Value)) (t:Value × Value):flatT (ts ++ [t]) = flatT ts ++ [t.1,t.2]:=by simp [flatT]
theorem wpSeq_appT18 {ops:Array Oper} {Q:Exit → Act → World → Prop} {rest:List Oper} {o:Oper} {a:Act} {w:World} (s x:Operand) (base:Nat) (v xa xv:Value) (ts:List (Value × Value)) (g:Nat)
    (hown:OwnT18 w base v ts) (hu:Blk w g [xa,xv] 43) (h1:∀ u ∈ [xa,xv],u.oneCell' = true) (hlen:ts.length < 1000) (hbase:base ≤ w.heap.size)
    (ho:o.op = .call { callee:=.builtin .append,args:=#[s,x],argTypes:=#[27,27] }) (hs:a.eval s = v) (hx:a.eval x = .slice (some ⟨g,0,none⟩) 1 1) (hgd:o.guard = none)
    (h:∀ v' w',OwnT18 w' base v' (ts ++ [(xa,xv)]) → GrV w v w' v' → wpList Tryz.prog ops Q rest (a.put o.dst v') w'):wpList Tryz.prog ops Q (o :: rest) a w:=by
  obtain ⟨i0,hi,hz0,hz1,hz2⟩:=info_parts Tryz.infoLv18
  refine wpList_append_own_at (P:=Tryz.prog) w hgd s x 27 ho base 43 i0 (.agg #[.slice none 0 0,.slice none 0 0]) 2 48 Tryz.underlying27 hi hz0 hz1 hz2 rfl (by decide) v ts.length (flatT ts) hs hown ⟨g,0,none⟩ 1 1 [xa,xv] hx rfl (fun j q hj => by rw [Addr.add_mid,Nat.zero_add,hu.cell];exact hj) h1 (by unfold maxLen;omega) (by omega) hbase ?_
  intro v' w' h2 h3 _ h5
  refine h v' w' ?_ ⟨mut_grown h3,fun k hk => ?_⟩
  · unfold OwnT18;rw [flatT_snoc,List.length_append];exact h2
  · rcases h5 with h5 | h5
    · exact Or.inl (h5 ▸ hk)
    · rw [h5] at hk;cases hk;exact Or.inr (Nat.le_refl _)
theorem build_t18 (f:Operand → Value) (o:Oper) (x:Operand) (a1 a2:Option Addr) (n1 n2 c1 c2:Nat) (hx:f x = .agg #[.slice a1 n1 c1,.slice a2 n2 c2]) (ho:o.op = .buildSlice 27 1 #[(0,x)]) (w:World):(execOp f o).run Tryz.prog w = .ok (.value (.slice (some ⟨w.heap.size,0,none⟩) 1 1)) (w.alloc (.cells [Value.slice a1 n1 c1,.slice a2 n2 c2].toArray 43)):=by
  unfold execOp
  rw [ho]
  simp only [List.map_toArray,List.map_cons,List.map_nil,hx]
  kernel_rfl
theorem wpSeq_buildT18 {ops:Array Oper} {Q:Exit → Act → World → Prop} {rest:List Oper} {o:Oper} {a:Act} {w:World} (x:Operand) (a1 a2:Option Addr) (n1 n2 c1 c2:Nat) (hx:a.eval x = .agg #[.slice a1 n1 c1,.slice a2 n2 c2]) (ho:o.op = .buildSlice 27 1 #[(0,x)]) (hw:Region.wanted o (yielded ops a.tmps) = true)
    (h:∀ g w',Blk w' g [.slice a1 n1 c1,.slice a2 n2 c2] 43 → w.heap.size ≤ g → Below w.heap.size w w' → wpList Tryz.prog ops Q rest (a.put o.dst (.slice (some ⟨g,0,none⟩) 1 1)) w'):wpList Tryz.prog ops Q (o :: rest) a w:=
  wpSeq_val _ _ hw (build_t18 _ o x a1 a2 n1 n2 c1 c2 hx ho w) (h _ _ (Blk.new w _ _) (Nat.le_refl _) (below_alloc w _))
def ReadsBo (w:World) (v:Value) (bs:List Bool):Prop:=∃ ad cap,v = .slice ad bs.length cap ∧ (0 < bs.length → ∃ b off,ad = some ⟨b,off,none⟩ ∧ ∀ j,j < bs.length → w.cell? ⟨b,off + j,none⟩ = some (.bool (bs.getD j false)))
theorem ReadsBo.below {w w':World} {v:Value} {bs:List Bool} (h:ReadsBo w v bs) (hb:Below w.heap.size w w'):ReadsBo w' v bs:=by
  obtain ⟨ad,cap,h1,h2⟩:=h
  refine ⟨ad,cap,h1,fun hp => ?_⟩
  obtain ⟨b,off,h3,h4⟩:=h2 hp
  exact ⟨b,off,h3,fun j hj => by rw [hb.cell (p:=⟨b,off + j,none⟩) (block_lt_of_cell (h4 j hj))];exact h4 j hj⟩
def addNew (P m:List By):List By:=m.foldl (fun P p => if p ∈ P then P else P ++ [p]) P
theorem addNew_snoc (P m:List By) (p:By):addNew P (m ++ [p]) = if p ∈ addNew P m then addNew P m else addNew P m ++ [p]:=by unfold addNew;rw [List.foldl_append];rfl
theorem addNew_spec:∀ (m P:List By),P.Nodup → (addNew P m).Nodup ∧ (∀ p,p ∈ addNew P m ↔ p ∈ P ∨ p ∈ m) ∧ (addNew P m).length ≤ P.length + m.length
  | [],P,h => ⟨h,fun p => by simp [addNew],Nat.le_refl _⟩
  | q :: m,P,h => by
    have e:addNew P (q :: m) = addNew (if q ∈ P then P else P ++ [q]) m:=rfl
    by_cases hq:q ∈ P
    · rw [e,if_pos hq]
      obtain ⟨h1,h2,h3⟩:=addNew_spec m P h
      refine ⟨h1,fun p => ?_,by rw [List.length_cons];omega⟩
      rw [h2,List.mem_cons]
      exact ⟨fun h => h.elim Or.inl fun h => Or.inr (Or.inr h),fun h => h.elim Or.inl fun h => h.elim (fun e => Or.inl (e ▸ hq)) Or.inr⟩
    · rw [e,if_neg hq]
      obtain ⟨h1,h2,h3⟩:=addNew_spec m (P ++ [q]) (List.nodup_append.2 ⟨h,by simp,fun a ha b hb hab => hq (by rw [List.mem_singleton.1 hb] at hab;exact hab ▸ ha)⟩)
      refine ⟨h1,fun p => ?_,by rw [List.length_append] at h3;simp at h3;rw [List.length_cons];omega⟩
      rw [h2,List.mem_append,List.mem_singleton,List.mem_cons]
      exact ⟨fun h => h.elim (fun h => h.elim Or.inl fun h => Or.inr (Or.inl h)) fun h => Or.inr (Or.inr h),fun h => h.elim (fun h => Or.inl (Or.inl h)) fun h => h.elim (fun h => Or.inl (Or.inr h)) Or.inr⟩
def allL (z:List Lf) (i:Nat):List Lf:=ofL (z.take i)
def pgs (z:List Lf):Nat → List By
  | 0 => []
  | i + 1 => addNew (pgs z i) (saveL 0 (allL z (i + 1)))
def kps (z:List Lf) (bs:List Bool):Nat → List (List Lf)
  | 0 => []
  | i + 1 => kps z bs i ++ (if i < bs.length ∧ bs.getD i false = true then [allL z (i + 1)] else [])
theorem allL_succ {z:List Lf} {i:Nat} (hi:i < z.length):allL z (i + 1) = putL (allL z i) (z.getD i ([],[])).1 (z.getD i ([],[])).2:=by
  unfold allL
  rw [take_map hi,ofL_snoc]
theorem allL_ok {z:List Lf} (hz:okLf z) (i:Nat):okLf (allL z i) ∧ Up (allL z i) ∧ (allL z i).length ≤ i:=by
  have h:=ofL_good (z.take i) fun p hp => hz p (List.mem_of_mem_take hp)
  have h2:=ofL_len (z.take i)
  rw [List.length_take] at h2
  exact ⟨h.1,h.2,Nat.le_trans h2 (Nat.min_le_left _ _)⟩
theorem pgs_spec {z:List Lf} (hz:okLf z):∀ i,(pgs z i).Nodup ∧ (∀ j,1 ≤ j → j ≤ i → ∀ p ∈ saveL 0 (allL z j),p ∈ pgs z i) ∧ (∀ p ∈ pgs z i,1 ≤ p.length ∧ p.length ≤ 512) ∧ (pgs z i).length ≤ i + 128 * (i * (i + 1))
  | 0 => ⟨by simp [pgs],fun j h1 h2 => by omega,fun p hp => by simp [pgs] at hp,Nat.le_refl _⟩
  | i + 1 => by
    obtain ⟨h1,h2,h3,h4⟩:=pgs_spec hz i
    obtain ⟨o1,o2,o3⟩:=allL_ok hz (i + 1)
    obtain ⟨a1,a2,a3⟩:=addNew_spec (saveL 0 (allL z (i + 1))) (pgs z i) h1
    refine ⟨a1,fun j hj1 hj2 p hp => (a2 p).2 ?_,fun p hp => ?_,?_⟩
    · rcases Nat.lt_or_ge i j with h | h
      · have:j = i + 1:=by omega
        subst this
        exact Or.inr hp
      · exact Or.inl (h2 j hj1 h p hp)
    · rcases (a2 p).1 hp with h | h
      · exact h3 p h
      · exact save_short 256 0 _ (by omega) (fits_zero o1 o2) p h
    · have hc:=save_count 256 0 _ rfl (fits_zero o1 o2)
      have e:(pgs z (i + 1)).length ≤ (pgs z i).length + (1 + 256 * (i + 1)):=Nat.le_trans a3 (Nat.add_le_add_left (Nat.le_trans hc (Nat.add_le_add_left (Nat.mul_le_mul_left 256 o3) 1)) _)
      have e2:(i + 1) * (i + 1 + 1) = i * (i + 1) + 2 * (i + 1):=by rw [Nat.add_mul,Nat.mul_add i (i + 1) 1];omega
      rw [e2];omega
theorem kps_of {z:List Lf} {bs:List Bool}:∀ i,∀ l ∈ kps z bs i,∃ j,1 ≤ j ∧ j ≤ i ∧ l = allL z j
  | 0,l,h => by cases h
  | i + 1,l,h => by
    simp only [kps,List.mem_append] at h
    rcases h with h | h
    · obtain ⟨j,h1,h2,h3⟩:=kps_of i l h
      exact ⟨j,h1,by omega,h3⟩
    · split at h
      · exact ⟨i + 1,by omega,Nat.le_refl _,List.mem_singleton.1 h⟩
      · cases h
theorem kps_len {z:List Lf} {bs:List Bool}:∀ i,(kps z bs i).length ≤ i
  | 0 => Nat.le_refl _
  | i + 1 => by
    have:=kps_len (z:=z) (bs:=bs) i
    simp only [kps,List.length_append]
    split <;> simp <;> omega
theorem kps_good {z:List Lf} {bs:List Bool} (hz:okLf z) {i:Nat} (hi:i ≤ 20):∀ l ∈ kps z bs i,GoodT (pgs z i) l:=fun l hl => by
  obtain ⟨j,h1,h2,rfl⟩:=kps_of i l hl
  obtain ⟨o1,o2,o3⟩:=allL_ok hz j
  exact ⟨o1,o2,by omega,(pgs_spec hz i).2.1 j h1 h2⟩
end Go.Proofs.YtphmmnffgknkcaaGreatDoor

import Derived.Test.YtphmmnffgknkcaaGreatDoorMzd
import Derived.Deep.RegionHeld
import Derived.RangeFuncNested
import Derived.RangeFuncFrom
import Derived.OrdersIn
import Derived.TacticsIn
import Derived.Test.YtphmmnffgknkcaaGreatDoorMzb
namespace Go.Proofs.YtphmmnffgknkcaaGreatDoor
open Go.RowKit
set_option maxRecDepth 100000
def Two (Q:Value → Value → World → Prop) (e:Ending) (w':World):Prop:=∃ a b,e = .returned (.tuple #[a,b]) ∧ Q a b w'
set_option maxHeartbeats 4000000 in
theorem pgRPiece_none (B gr:Nat) (vb:Value) (rest way:By) (d:Nat) (w:World) (hd:d ≤ 256) (hR:RdBb B w vb (0 :: rest)) :
    Calls Tryz.prog 36 #[.pointer (some ⟨gr,0,none⟩),vb,.agg (cb way).toArray,.int .i64 (d:Int)] w (Two fun a b w' => b = .int .i64 0 ∧ RdBb B w' a rest ∧ Below w.heap.size w w'):=by
  obtain ⟨b,off,c,hv,hc,hbB,hcell⟩:=hR.at (by simp)
  obtain ⟨n,HN⟩:∃ n,Hid (n = ((0:BitVec 8) :: rest).length):=⟨_,rfl⟩
  rw [← HN.out] at hv hc
  subst hv
  have HN2:Hid (n = rest.length + 1):=HN.out
  have HR:Hid (RdBb B w (.slice (some ⟨b,off,none⟩) n c) (0 :: rest)):=hR
  have h1:¬ (256:Int) < (d:Int):=by omega
  have h2:¬ ((n:Int) = 0):=by have:=HN2.out;omega
  have h2':((n:Int) == 0) = false:=by rw [beq_eq_false_iff_ne];exact h2
  have l1:(0:Int) < (n:Int):=by have:=HN2.out;omega
  obtain ⟨o2,HO2⟩:∃ o,Hid (o = if c = 1 then off else off + 1):=⟨_,rfl⟩
  obtain ⟨n2,HM2⟩:∃ x,Hid (x = n - 1):=⟨_,rfl⟩
  obtain ⟨c2,HC2⟩:∃ x,Hid (x = c - 1):=⟨_,rfl⟩
  have hsh:=slHiY b off n c 1 (by have:=HN2.out;omega)
  rw [← HO2.out,← HM2.out,← HC2.out] at hsh
  have hsh:∀ w:World,(Instr.sliceAt 48 (.slice (some ⟨b,off,none⟩) n c) (some (.int .i64 1)) none none).run Tryz.prog w = .ok (.slice (some ⟨b,o2,none⟩) n2 c2) w:=hsh
  have c0:∀ W,Below w.heap.size w W → W.cell? ⟨b,off,none⟩ = some (.int .u8 0):=fun W hW => by
    have h:=hcell 0 (by simp)
    rw [hW.cell (p:=⟨b,off,none⟩) (block_lt_of_cell h)]
    exact h
  have HC0:Hid (∀ W,Below w.heap.size w W → W.cell? ⟨b,off,none⟩ = some (.int .u8 0)):=c0
  clear hR hcell c0 hc
  go_enter Tryz.func36,Tryz.ntmps36
  go_wp2_with (with_reducible refine wpSeq_boxD (.tmp 2) way ?_ ?_ ?_ ?_
               · rfl
               · rfl
               · rfl
               intro g6 w1 nn
               have HB1:Hid (Below w.heap.size w w1):=nn.below
               have c1:w1.cell? ⟨b,off,none⟩ = some (.int .u8 0):=HC0.out w1 nn.below
               clear nn)
  refine bodyPost_ret (results_tmp2 rfl _ _ _) rfl ?_
  refine ⟨_,_,rfl,rfl,?_,HB1.out⟩
  have hr:RdBb B w1 (.slice (some ⟨b,off,none⟩) n c) (0 :: rest):=⟨HR.out.1.below HB1.out,HR.out.2⟩
  have hd:=hr.drop 1 o2 (by simp) (fun h => by rw [HO2.out,if_neg (by simp at h;have h3:=HN2.out;have h4:=hr.1;obtain ⟨_,cp,h5,h6,_⟩:=h4;simp only [Value.slice.injEq] at h5;rw [h5.2.2];simp at h6;omega)])
  show RdBb B w1 (.slice (some ⟨b,o2,none⟩) n2 c2) rest
  rw [HM2.out,HC2.out]
  exact hd
set_option maxHeartbeats 8000000 in
theorem pgRPiece_1 (B gr:Nat) (vb:Value) (tail way:By) (d:Nat) (w:World) (Q:Value → Value → World → Prop) (hd:d ≤ 256) (hway:way.length = 32) (hR:RdBb B w vb (1 :: tail))
    (hC:∀ v1 W,Below w.heap.size w W → RdBb B W v1 tail → Calls Tryz.prog 57 #[.pointer (some ⟨gr,0,none⟩),v1,.agg (cb way).toArray,.int .i64 (d:Int)] W (Two Q)) :
    Calls Tryz.prog 36 #[.pointer (some ⟨gr,0,none⟩),vb,.agg (cb way).toArray,.int .i64 (d:Int)] w (Two Q):=by
  obtain ⟨b,off,c,hv,hc,hbB,hcell⟩:=hR.at (by simp)
  obtain ⟨n,HN⟩:∃ n,Hid (n = ((1:BitVec 8) :: tail).length):=⟨_,rfl⟩
  rw [← HN.out] at hv hc
  subst hv
  have HN2:Hid (n = tail.length + 1):=HN.out
  have HR:Hid (RdBb B w (.slice (some ⟨b,off,none⟩) n c) (1 :: tail)):=hR
  have HY:Hid (way.length = 32):=hway
  have HC:Hid (∀ v1 W,Below w.heap.size w W → RdBb B W v1 tail → Calls Tryz.prog 57 #[.pointer (some ⟨gr,0,none⟩),v1,.agg (cb way).toArray,.int .i64 (d:Int)] W (Two Q)):=hC
  have h1:¬ (256:Int) < (d:Int):=by omega
  have h2:¬ ((n:Int) = 0):=by have:=HN2.out;omega
  have h2':((n:Int) == 0) = false:=by rw [beq_eq_false_iff_ne];exact h2
  have l1:(0:Int) < (n:Int):=by have:=HN2.out;omega
  obtain ⟨o2,HO2⟩:∃ o,Hid (o = if c = 1 then off else off + 1):=⟨_,rfl⟩
  obtain ⟨n2,HM2⟩:∃ x,Hid (x = n - 1):=⟨_,rfl⟩
  obtain ⟨c2,HC2⟩:∃ x,Hid (x = c - 1):=⟨_,rfl⟩
  have hsh:=slHiY b off n c 1 (by have:=HN2.out;omega)
  rw [← HO2.out,← HM2.out,← HC2.out] at hsh
  have hsh:∀ w:World,(Instr.sliceAt 48 (.slice (some ⟨b,off,none⟩) n c) (some (.int .i64 1)) none none).run Tryz.prog w = .ok (.slice (some ⟨b,o2,none⟩) n2 c2) w:=hsh
  have HT:Hid (∀ W,Below w.heap.size w W → RdBb B W (.slice (some ⟨b,o2,none⟩) n2 c2) tail):=fun W hW => by
    have hr:RdBb B W (.slice (some ⟨b,off,none⟩) n c) (1 :: tail):=⟨HR.out.1.below hW,HR.out.2⟩
    have hd:=hr.drop 1 o2 (by simp) (fun h => by rw [HO2.out,if_neg (by simp at h;have h3:=HN2.out;have h4:=hr.1;obtain ⟨_,cp,h5,h6,_⟩:=h4;simp only [Value.slice.injEq] at h5;rw [h5.2.2];simp at h6;omega)])
    rw [HM2.out,HC2.out]
    exact hd
  have HC0:Hid (∀ W,Below w.heap.size w W → W.cell? ⟨b,off,none⟩ = some (.int .u8 1)):=fun W hW => by
    have h:=hcell 0 (by simp)
    rw [hW.cell (p:=⟨b,off,none⟩) (block_lt_of_cell h)]
    exact h
  clear hR hcell hc hC hway
  go_enter Tryz.func36,Tryz.ntmps36
  go_wp2_with (with_reducible refine wpSeq_boxD (.tmp 2) way ?_ ?_ ?_ ?_
               · rfl
               · rfl
               · rfl
               intro g6 w1 nn
               have HB1:Hid (Below w.heap.size w w1):=nn.below
               have HG6:Hid (Blk w1 g6 (cb way) 39):=nn.blk
               have c1:w1.cell? ⟨b,off,none⟩ = some (.int .u8 1):=HC0.out w1 nn.below
               clear nn)
  have HG7:Hid (Blk w1.drew g6 (cb way) 39):=HG6.out
  refine wp_region_held_drew (S:=fun _ => True) (by kernel_rfl) trivial ?_
  intro hS
  refine wpAnyH_take (i:=0) (v:=.pointer (some ⟨gr,0,none⟩)) rfl (by kernel_rfl) (by kernel_rfl) (by kernel_rfl) (fun _ _ _ h => h) (Or.inl ⟨by rfl,fun wx hx => by simp [go_sem]⟩) hS ?_
  simp only [Act.put,List.getElem_toArray,List.getElem_cons_zero,List.setIfInBounds_toArray,List.set_cons_zero,List.set_cons_succ]
  refine wpAnyH_take (i:=1) (v:=.slice (some ⟨b,off,none⟩) n c) rfl (by kernel_rfl) (by kernel_rfl) (by kernel_rfl) (fun _ _ _ h => h) (Or.inl ⟨by rfl,fun wx hx => by simp [go_sem]⟩) hS ?_
  simp only [Act.put,List.getElem_toArray,List.getElem_cons_succ,List.getElem_cons_zero,List.setIfInBounds_toArray,List.set_cons_zero,List.set_cons_succ]
  refine wpAnyH_take (i:=2) (v:=.slice (some ⟨b,o2,none⟩) n2 c2) rfl (by kernel_rfl) (by kernel_rfl) (by kernel_rfl) (fun _ _ _ h => h) (Or.inl ⟨by rfl,fun wx hx => by simp [execOp,Act.eval,hsh]⟩) hS ?_
  simp only [Act.put,List.getElem_toArray,List.getElem_cons_succ,List.getElem_cons_zero,List.setIfInBounds_toArray,List.set_cons_zero,List.set_cons_succ]
  refine wpAnyH_take (i:=4) (v:=.int .i64 (d:Int)) rfl (by kernel_rfl) (by kernel_rfl) (by kernel_rfl) (fun _ _ _ h => h) (Or.inl ⟨by rfl,fun wx hx => by simp [go_sem]⟩) hS ?_
  simp only [Act.put,List.getElem_toArray,List.getElem_cons_succ,List.getElem_cons_zero,List.setIfInBounds_toArray,List.set_cons_zero,List.set_cons_succ]
  refine wpAnyH_step 3 (.agg (cb way).toArray) w1.drew (by kernel_rfl) rfl (by rfl) (loadDigest _ g6 way HY.out HG7.out rfl rfl) hS ?_
  simp only [Act.put,List.getElem_toArray,List.getElem_cons_succ,List.getElem_cons_zero,List.setIfInBounds_toArray,List.set_cons_zero,List.set_cons_succ]
  refine wpAnyH_enter 5 (by kernel_rfl) rfl (by rfl) (f:=57) (args:=#[.pointer (some ⟨gr,0,none⟩),.slice (some ⟨b,o2,none⟩) n2 c2,.agg (cb way).toArray,.int .i64 (d:Int)]) (by simp [go_sem]) (HC.out _ _ (HB1.out.drew) (HT.out _ (HB1.out.drew))) ?_
  rintro e wz ⟨va,ve,rfl,hq⟩
  refine ⟨_,rfl,trivial,?_⟩
  have HQ:Hid (Q va ve wz):=hq
  clear hq
  simp only [Act.put,List.getElem_toArray,List.getElem_cons_succ,List.getElem_cons_zero,List.setIfInBounds_toArray,List.set_cons_zero,List.set_cons_succ]
  refine wpAnyH_take (i:=6) (v:=va) rfl (by kernel_rfl) (by kernel_rfl) (by kernel_rfl) (fun _ _ _ h => h) (Or.inl ⟨by rfl,fun wx hx => by simp [go_sem]⟩) hS ?_
  simp only [Act.put,List.getElem_toArray,List.getElem_cons_succ,List.getElem_cons_zero,List.setIfInBounds_toArray,List.set_cons_zero,List.set_cons_succ]
  refine wpAnyH_take (i:=7) (v:=ve) rfl (by kernel_rfl) (by kernel_rfl) (by kernel_rfl) (fun _ _ _ h => h) (Or.inl ⟨by rfl,fun wx hx => by simp [go_sem]⟩) hS ?_
  simp only [Act.put,List.getElem_toArray,List.getElem_cons_succ,List.getElem_cons_zero,List.setIfInBounds_toArray,List.set_cons_zero,List.set_cons_succ]
  refine wpAnyH_take (i:=8) (v:=va) rfl (by kernel_rfl) (by kernel_rfl) (by kernel_rfl) (fun _ _ _ h => h) (Or.inl ⟨by rfl,fun wx hx => by simp [go_sem]⟩) hS ?_
  simp only [Act.put,List.getElem_toArray,List.getElem_cons_succ,List.getElem_cons_zero,List.setIfInBounds_toArray,List.set_cons_zero,List.set_cons_succ]
  refine wpAnyH_take (i:=9) (v:=ve) rfl (by kernel_rfl) (by kernel_rfl) (by kernel_rfl) (fun _ _ _ h => h) (Or.inl ⟨by rfl,fun wx hx => by simp [go_sem]⟩) hS ?_
  simp only [Act.put,List.getElem_toArray,List.getElem_cons_succ,List.getElem_cons_zero,List.setIfInBounds_toArray,List.set_cons_zero,List.set_cons_succ]
  refine wpAnyH_done (by kernel_rfl) ?_ _
  go_wp2_with fail
  refine bodyPost_ret (results_tmp2 rfl _ _ _) rfl ?_
  exact ⟨va,ve,rfl,HQ.out⟩
set_option maxHeartbeats 8000000 in
theorem pgRPiece_2 (B gr:Nat) (vb:Value) (tail way:By) (d:Nat) (w:World) (Q:Value → Value → World → Prop) (hd:d ≤ 256) (hway:way.length = 32) (hR:RdBb B w vb (2 :: tail))
    (hC:∀ v1 W,Below w.heap.size w W → RdBb B W v1 tail → Calls Tryz.prog 58 #[.pointer (some ⟨gr,0,none⟩),v1,.agg (cb way).toArray,.int .i64 (d:Int)] W (Two Q)) :
    Calls Tryz.prog 36 #[.pointer (some ⟨gr,0,none⟩),vb,.agg (cb way).toArray,.int .i64 (d:Int)] w (Two Q):=by
  obtain ⟨b,off,c,hv,hc,hbB,hcell⟩:=hR.at (by simp)
  obtain ⟨n,HN⟩:∃ n,Hid (n = ((2:BitVec 8) :: tail).length):=⟨_,rfl⟩
  rw [← HN.out] at hv hc
  subst hv
  have HN2:Hid (n = tail.length + 1):=HN.out
  have HR:Hid (RdBb B w (.slice (some ⟨b,off,none⟩) n c) (2 :: tail)):=hR
  have HY:Hid (way.length = 32):=hway
  have HC:Hid (∀ v1 W,Below w.heap.size w W → RdBb B W v1 tail → Calls Tryz.prog 58 #[.pointer (some ⟨gr,0,none⟩),v1,.agg (cb way).toArray,.int .i64 (d:Int)] W (Two Q)):=hC
  have h1:¬ (256:Int) < (d:Int):=by omega
  have h2:¬ ((n:Int) = 0):=by have:=HN2.out;omega
  have h2':((n:Int) == 0) = false:=by rw [beq_eq_false_iff_ne];exact h2
  have l1:(0:Int) < (n:Int):=by have:=HN2.out;omega
  obtain ⟨o2,HO2⟩:∃ o,Hid (o = if c = 1 then off else off + 1):=⟨_,rfl⟩
  obtain ⟨n2,HM2⟩:∃ x,Hid (x = n - 1):=⟨_,rfl⟩
  obtain ⟨c2,HC2⟩:∃ x,Hid (x = c - 1):=⟨_,rfl⟩
  have hsh:=slHiY b off n c 1 (by have:=HN2.out;omega)
  rw [← HO2.out,← HM2.out,← HC2.out] at hsh
  have hsh:∀ w:World,(Instr.sliceAt 48 (.slice (some ⟨b,off,none⟩) n c) (some (.int .i64 1)) none none).run Tryz.prog w = .ok (.slice (some ⟨b,o2,none⟩) n2 c2) w:=hsh
  have HT:Hid (∀ W,Below w.heap.size w W → RdBb B W (.slice (some ⟨b,o2,none⟩) n2 c2) tail):=fun W hW => by
    have hr:RdBb B W (.slice (some ⟨b,off,none⟩) n c) (2 :: tail):=⟨HR.out.1.below hW,HR.out.2⟩
    have hd:=hr.drop 1 o2 (by simp) (fun h => by rw [HO2.out,if_neg (by simp at h;have h3:=HN2.out;have h4:=hr.1;obtain ⟨_,cp,h5,h6,_⟩:=h4;simp only [Value.slice.injEq] at h5;rw [h5.2.2];simp at h6;omega)])
    rw [HM2.out,HC2.out]
    exact hd
  have HC0:Hid (∀ W,Below w.heap.size w W → W.cell? ⟨b,off,none⟩ = some (.int .u8 2)):=fun W hW => by
    have h:=hcell 0 (by simp)
    rw [hW.cell (p:=⟨b,off,none⟩) (block_lt_of_cell h)]
    exact h
  clear hR hcell hc hC hway
  go_enter Tryz.func36,Tryz.ntmps36
  go_wp2_with (with_reducible refine wpSeq_boxD (.tmp 2) way ?_ ?_ ?_ ?_
               · rfl
               · rfl
               · rfl
               intro g6 w1 nn
               have HB1:Hid (Below w.heap.size w w1):=nn.below
               have HG6:Hid (Blk w1 g6 (cb way) 39):=nn.blk
               have c1:w1.cell? ⟨b,off,none⟩ = some (.int .u8 2):=HC0.out w1 nn.below
               clear nn)
  have HG7:Hid (Blk w1.drew g6 (cb way) 39):=HG6.out
  refine wp_region_held_drew (S:=fun _ => True) (by kernel_rfl) trivial ?_
  intro hS
  refine wpAnyH_take (i:=0) (v:=.pointer (some ⟨gr,0,none⟩)) rfl (by kernel_rfl) (by kernel_rfl) (by kernel_rfl) (fun _ _ _ h => h) (Or.inl ⟨by rfl,fun wx hx => by simp [go_sem]⟩) hS ?_
  simp only [Act.put,List.getElem_toArray,List.getElem_cons_zero,List.setIfInBounds_toArray,List.set_cons_zero,List.set_cons_succ]
  refine wpAnyH_take (i:=1) (v:=.slice (some ⟨b,off,none⟩) n c) rfl (by kernel_rfl) (by kernel_rfl) (by kernel_rfl) (fun _ _ _ h => h) (Or.inl ⟨by rfl,fun wx hx => by simp [go_sem]⟩) hS ?_
  simp only [Act.put,List.getElem_toArray,List.getElem_cons_succ,List.getElem_cons_zero,List.setIfInBounds_toArray,List.set_cons_zero,List.set_cons_succ]
  refine wpAnyH_take (i:=2) (v:=.slice (some ⟨b,o2,none⟩) n2 c2) rfl (by kernel_rfl) (by kernel_rfl) (by kernel_rfl) (fun _ _ _ h => h) (Or.inl ⟨by rfl,fun wx hx => by simp [execOp,Act.eval,hsh]⟩) hS ?_
  simp only [Act.put,List.getElem_toArray,List.getElem_cons_succ,List.getElem_cons_zero,List.setIfInBounds_toArray,List.set_cons_zero,List.set_cons_succ]
  refine wpAnyH_take (i:=4) (v:=.int .i64 (d:Int)) rfl (by kernel_rfl) (by kernel_rfl) (by kernel_rfl) (fun _ _ _ h => h) (Or.inl ⟨by rfl,fun wx hx => by simp [go_sem]⟩) hS ?_
  simp only [Act.put,List.getElem_toArray,List.getElem_cons_succ,List.getElem_cons_zero,List.setIfInBounds_toArray,List.set_cons_zero,List.set_cons_succ]
  refine wpAnyH_step 3 (.agg (cb way).toArray) w1.drew (by kernel_rfl) rfl (by rfl) (loadDigest _ g6 way HY.out HG7.out rfl rfl) hS ?_
  simp only [Act.put,List.getElem_toArray,List.getElem_cons_succ,List.getElem_cons_zero,List.setIfInBounds_toArray,List.set_cons_zero,List.set_cons_succ]
  refine wpAnyH_enter 5 (by kernel_rfl) rfl (by rfl) (f:=58) (args:=#[.pointer (some ⟨gr,0,none⟩),.slice (some ⟨b,o2,none⟩) n2 c2,.agg (cb way).toArray,.int .i64 (d:Int)]) (by simp [go_sem]) (HC.out _ _ (HB1.out.drew) (HT.out _ (HB1.out.drew))) ?_
  rintro e wz ⟨va,ve,rfl,hq⟩
  refine ⟨_,rfl,trivial,?_⟩
  have HQ:Hid (Q va ve wz):=hq
  clear hq
  simp only [Act.put,List.getElem_toArray,List.getElem_cons_succ,List.getElem_cons_zero,List.setIfInBounds_toArray,List.set_cons_zero,List.set_cons_succ]
  refine wpAnyH_take (i:=6) (v:=va) rfl (by kernel_rfl) (by kernel_rfl) (by kernel_rfl) (fun _ _ _ h => h) (Or.inl ⟨by rfl,fun wx hx => by simp [go_sem]⟩) hS ?_
  simp only [Act.put,List.getElem_toArray,List.getElem_cons_succ,List.getElem_cons_zero,List.setIfInBounds_toArray,List.set_cons_zero,List.set_cons_succ]
  refine wpAnyH_take (i:=7) (v:=ve) rfl (by kernel_rfl) (by kernel_rfl) (by kernel_rfl) (fun _ _ _ h => h) (Or.inl ⟨by rfl,fun wx hx => by simp [go_sem]⟩) hS ?_
  simp only [Act.put,List.getElem_toArray,List.getElem_cons_succ,List.getElem_cons_zero,List.setIfInBounds_toArray,List.set_cons_zero,List.set_cons_succ]
  refine wpAnyH_take (i:=8) (v:=va) rfl (by kernel_rfl) (by kernel_rfl) (by kernel_rfl) (fun _ _ _ h => h) (Or.inl ⟨by rfl,fun wx hx => by simp [go_sem]⟩) hS ?_
  simp only [Act.put,List.getElem_toArray,List.getElem_cons_succ,List.getElem_cons_zero,List.setIfInBounds_toArray,List.set_cons_zero,List.set_cons_succ]
  refine wpAnyH_take (i:=9) (v:=ve) rfl (by kernel_rfl) (by kernel_rfl) (by kernel_rfl) (fun _ _ _ h => h) (Or.inl ⟨by rfl,fun wx hx => by simp [go_sem]⟩) hS ?_
  simp only [Act.put,List.getElem_toArray,List.getElem_cons_succ,List.getElem_cons_zero,List.setIfInBounds_toArray,List.set_cons_zero,List.set_cons_succ]
  refine wpAnyH_done (by kernel_rfl) ?_ _
  go_wp2_with fail
  refine bodyPost_ret (results_tmp2 rfl _ _ _) rfl ?_
  exact ⟨va,ve,rfl,HQ.out⟩
set_option maxHeartbeats 8000000 in
theorem pgRPiece_3 (B gr:Nat) (vb:Value) (tail way:By) (d:Nat) (w:World) (Q:Value → Value → World → Prop) (hd:d ≤ 256) (hway:way.length = 32) (hR:RdBb B w vb (3 :: tail))
    (hC:∀ v1 W,Below w.heap.size w W → RdBb B W v1 tail → Calls Tryz.prog 59 #[.pointer (some ⟨gr,0,none⟩),v1,.agg (cb way).toArray,.int .i64 (d:Int)] W (Two Q)) :
    Calls Tryz.prog 36 #[.pointer (some ⟨gr,0,none⟩),vb,.agg (cb way).toArray,.int .i64 (d:Int)] w (Two Q):=by
  obtain ⟨b,off,c,hv,hc,hbB,hcell⟩:=hR.at (by simp)
  obtain ⟨n,HN⟩:∃ n,Hid (n = ((3:BitVec 8) :: tail).length):=⟨_,rfl⟩
  rw [← HN.out] at hv hc
  subst hv
  have HN2:Hid (n = tail.length + 1):=HN.out
  have HR:Hid (RdBb B w (.slice (some ⟨b,off,none⟩) n c) (3 :: tail)):=hR
  have HY:Hid (way.length = 32):=hway
  have HC:Hid (∀ v1 W,Below w.heap.size w W → RdBb B W v1 tail → Calls Tryz.prog 59 #[.pointer (some ⟨gr,0,none⟩),v1,.agg (cb way).toArray,.int .i64 (d:Int)] W (Two Q)):=hC
  have h1:¬ (256:Int) < (d:Int):=by omega
  have h2:¬ ((n:Int) = 0):=by have:=HN2.out;omega
  have h2':((n:Int) == 0) = false:=by rw [beq_eq_false_iff_ne];exact h2
  have l1:(0:Int) < (n:Int):=by have:=HN2.out;omega
  obtain ⟨o2,HO2⟩:∃ o,Hid (o = if c = 1 then off else off + 1):=⟨_,rfl⟩
  obtain ⟨n2,HM2⟩:∃ x,Hid (x = n - 1):=⟨_,rfl⟩
  obtain ⟨c2,HC2⟩:∃ x,Hid (x = c - 1):=⟨_,rfl⟩
  have hsh:=slHiY b off n c 1 (by have:=HN2.out;omega)
  rw [← HO2.out,← HM2.out,← HC2.out] at hsh
  have hsh:∀ w:World,(Instr.sliceAt 48 (.slice (some ⟨b,off,none⟩) n c) (some (.int .i64 1)) none none).run Tryz.prog w = .ok (.slice (some ⟨b,o2,none⟩) n2 c2) w:=hsh
  have HT:Hid (∀ W,Below w.heap.size w W → RdBb B W (.slice (some ⟨b,o2,none⟩) n2 c2) tail):=fun W hW => by
    have hr:RdBb B W (.slice (some ⟨b,off,none⟩) n c) (3 :: tail):=⟨HR.out.1.below hW,HR.out.2⟩
    have hd:=hr.drop 1 o2 (by simp) (fun h => by rw [HO2.out,if_neg (by simp at h;have h3:=HN2.out;have h4:=hr.1;obtain ⟨_,cp,h5,h6,_⟩:=h4;simp only [Value.slice.injEq] at h5;rw [h5.2.2];simp at h6;omega)])
    rw [HM2.out,HC2.out]
    exact hd
  have HC0:Hid (∀ W,Below w.heap.size w W → W.cell? ⟨b,off,none⟩ = some (.int .u8 3)):=fun W hW => by
    have h:=hcell 0 (by simp)
    rw [hW.cell (p:=⟨b,off,none⟩) (block_lt_of_cell h)]
    exact h
  clear hR hcell hc hC hway
  go_enter Tryz.func36,Tryz.ntmps36
  go_wp2_with (with_reducible refine wpSeq_boxD (.tmp 2) way ?_ ?_ ?_ ?_
               · rfl
               · rfl
               · rfl
               intro g6 w1 nn
               have HB1:Hid (Below w.heap.size w w1):=nn.below
               have HG6:Hid (Blk w1 g6 (cb way) 39):=nn.blk
               have c1:w1.cell? ⟨b,off,none⟩ = some (.int .u8 3):=HC0.out w1 nn.below
               clear nn)
  have HG7:Hid (Blk w1.drew g6 (cb way) 39):=HG6.out
  refine wp_region_held_drew (S:=fun _ => True) (by kernel_rfl) trivial ?_
  intro hS
  refine wpAnyH_take (i:=0) (v:=.pointer (some ⟨gr,0,none⟩)) rfl (by kernel_rfl) (by kernel_rfl) (by kernel_rfl) (fun _ _ _ h => h) (Or.inl ⟨by rfl,fun wx hx => by simp [go_sem]⟩) hS ?_
  simp only [Act.put,List.getElem_toArray,List.getElem_cons_zero,List.setIfInBounds_toArray,List.set_cons_zero,List.set_cons_succ]
  refine wpAnyH_take (i:=1) (v:=.slice (some ⟨b,off,none⟩) n c) rfl (by kernel_rfl) (by kernel_rfl) (by kernel_rfl) (fun _ _ _ h => h) (Or.inl ⟨by rfl,fun wx hx => by simp [go_sem]⟩) hS ?_
  simp only [Act.put,List.getElem_toArray,List.getElem_cons_succ,List.getElem_cons_zero,List.setIfInBounds_toArray,List.set_cons_zero,List.set_cons_succ]
  refine wpAnyH_take (i:=2) (v:=.slice (some ⟨b,o2,none⟩) n2 c2) rfl (by kernel_rfl) (by kernel_rfl) (by kernel_rfl) (fun _ _ _ h => h) (Or.inl ⟨by rfl,fun wx hx => by simp [execOp,Act.eval,hsh]⟩) hS ?_
  simp only [Act.put,List.getElem_toArray,List.getElem_cons_succ,List.getElem_cons_zero,List.setIfInBounds_toArray,List.set_cons_zero,List.set_cons_succ]
  refine wpAnyH_take (i:=4) (v:=.int .i64 (d:Int)) rfl (by kernel_rfl) (by kernel_rfl) (by kernel_rfl) (fun _ _ _ h => h) (Or.inl ⟨by rfl,fun wx hx => by simp [go_sem]⟩) hS ?_
  simp only [Act.put,List.getElem_toArray,List.getElem_cons_succ,List.getElem_cons_zero,List.setIfInBounds_toArray,List.set_cons_zero,List.set_cons_succ]
  refine wpAnyH_step 3 (.agg (cb way).toArray) w1.drew (by kernel_rfl) rfl (by rfl) (loadDigest _ g6 way HY.out HG7.out rfl rfl) hS ?_
  simp only [Act.put,List.getElem_toArray,List.getElem_cons_succ,List.getElem_cons_zero,List.setIfInBounds_toArray,List.set_cons_zero,List.set_cons_succ]
  refine wpAnyH_enter 5 (by kernel_rfl) rfl (by rfl) (f:=59) (args:=#[.pointer (some ⟨gr,0,none⟩),.slice (some ⟨b,o2,none⟩) n2 c2,.agg (cb way).toArray,.int .i64 (d:Int)]) (by simp [go_sem]) (HC.out _ _ (HB1.out.drew) (HT.out _ (HB1.out.drew))) ?_
  rintro e wz ⟨va,ve,rfl,hq⟩
  refine ⟨_,rfl,trivial,?_⟩
  have HQ:Hid (Q va ve wz):=hq
  clear hq
  simp only [Act.put,List.getElem_toArray,List.getElem_cons_succ,List.getElem_cons_zero,List.setIfInBounds_toArray,List.set_cons_zero,List.set_cons_succ]
  refine wpAnyH_take (i:=6) (v:=va) rfl (by kernel_rfl) (by kernel_rfl) (by kernel_rfl) (fun _ _ _ h => h) (Or.inl ⟨by rfl,fun wx hx => by simp [go_sem]⟩) hS ?_
  simp only [Act.put,List.getElem_toArray,List.getElem_cons_succ,List.getElem_cons_zero,List.setIfInBounds_toArray,List.set_cons_zero,List.set_cons_succ]
  refine wpAnyH_take (i:=7) (v:=ve) rfl (by kernel_rfl) (by kernel_rfl) (by kernel_rfl) (fun _ _ _ h => h) (Or.inl ⟨by rfl,fun wx hx => by simp [go_sem]⟩) hS ?_
  simp only [Act.put,List.getElem_toArray,List.getElem_cons_succ,List.getElem_cons_zero,List.setIfInBounds_toArray,List.set_cons_zero,List.set_cons_succ]
  refine wpAnyH_take (i:=8) (v:=va) rfl (by kernel_rfl) (by kernel_rfl) (by kernel_rfl) (fun _ _ _ h => h) (Or.inl ⟨by rfl,fun wx hx => by simp [go_sem]⟩) hS ?_
  simp only [Act.put,List.getElem_toArray,List.getElem_cons_succ,List.getElem_cons_zero,List.setIfInBounds_toArray,List.set_cons_zero,List.set_cons_succ]
  refine wpAnyH_take (i:=9) (v:=ve) rfl (by kernel_rfl) (by kernel_rfl) (by kernel_rfl) (fun _ _ _ h => h) (Or.inl ⟨by rfl,fun wx hx => by simp [go_sem]⟩) hS ?_
  simp only [Act.put,List.getElem_toArray,List.getElem_cons_succ,List.getElem_cons_zero,List.setIfInBounds_toArray,List.set_cons_zero,List.set_cons_succ]
  refine wpAnyH_done (by kernel_rfl) ?_ _
  go_wp2_with fail
  refine bodyPost_ret (results_tmp2 rfl _ _ _) rfl ?_
  exact ⟨va,ve,rfl,HQ.out⟩
set_option maxHeartbeats 4000000 in
theorem pgSides_no (gr:Nat) (vb:Value) (way:By) (d:Nat) (w:World) (P:World → Prop) (hd:d ≤ 256) (hway:way.length = 32)
    (hA:∀ W,Below w.heap.size w W → Calls Tryz.prog 36 #[.pointer (some ⟨gr,0,none⟩),vb,.agg (cb way).toArray,.int .i64 ((d + 1:Nat):Int)] W (Two fun _ b w' => b = .int .i64 7 ∧ P w')) :
    Calls Tryz.prog 58 #[.pointer (some ⟨gr,0,none⟩),vb,.agg (cb way).toArray,.int .i64 (d:Int)] w (Two fun _ b w' => b = .int .i64 7 ∧ P w'):=by
  have HY:Hid (way.length = 32):=hway
  obtain ⟨d1,HD1⟩:∃ x,Hid (x = d + 1):=⟨_,rfl⟩
  have rd:IntKind.i64.wrap ((d:Int) + 1) = (d1:Int):=by rw [IntKind.wrap_i64,HD1.out];omega
  have HA:Hid (∀ W,Below w.heap.size w W → Calls Tryz.prog 36 #[.pointer (some ⟨gr,0,none⟩),vb,.agg (cb way).toArray,.int .i64 (d1:Int)] W (Two fun _ b w' => b = .int .i64 7 ∧ P w')):=by rw [HD1.out];exact hA
  clear hA hway hd
  go_enter Tryz.func58,Tryz.ntmps58
  have tk0:Hid True:=trivial
  have tk1:Hid True:=trivial
  have tk2:Hid True:=trivial
  go_wp2_with (first
    | (clear tk0;with_reducible refine wpSeq_boxD (.tmp 2) way ?_ ?_ ?_ ?_
       · rfl
       · rfl
       · rfl
       intro g6 w1 nn
       have HB1:Hid (Below w.heap.size w w1):=nn.below
       have HG6:Hid (Blk w1 g6 (cb way) 39):=nn.blk
       clear nn)
    | (clear tk1;with_reducible refine wpSeq_loadD (.tmp 6) g6 way HY.out HG6.out ?_ ?_ ?_ ?_
       · rfl
       · rfl
       · rfl
       have HQ1:Hid True:=trivial)
    | (clear tk2;go_at_call 36;refine (HA.out _ HB1.out).mono ?_;rintro e w2 ⟨va,vx,rfl,rfl,hp⟩
       have HP:Hid (P w2):=hp
       clear hp))
  refine bodyPost_ret (results_tmp2 rfl _ _ _) rfl ?_
  exact ⟨_,_,rfl,rfl,HP.out⟩
set_option maxHeartbeats 4000000 in
theorem pgSides_ok (gr:Nat) (vb:Value) (way:By) (d:Nat) (w:World) (P:Value → World → Prop) (Q:Value → Value → World → Prop) (hd:d ≤ 256) (hway:way.length = 32)
    (hA:∀ W,Below w.heap.size w W → Calls Tryz.prog 36 #[.pointer (some ⟨gr,0,none⟩),vb,.agg (cb way).toArray,.int .i64 ((d + 1:Nat):Int)] W (Two fun a b w' => b = .int .i64 0 ∧ P a w' ∧ ∀ g,w.heap.size ≤ g → Blk W g (cb way) 39 → Blk w' g (cb way) 39))
    (hB:∀ a w1 W,P a w1 → Below w1.heap.size w1 W → Calls Tryz.prog 36 #[.pointer (some ⟨gr,0,none⟩),a,.agg (cb (setI way (d:Int) true)).toArray,.int .i64 ((d + 1:Nat):Int)] W (Two Q)) :
    Calls Tryz.prog 58 #[.pointer (some ⟨gr,0,none⟩),vb,.agg (cb way).toArray,.int .i64 (d:Int)] w (Two Q):=by
  have HY:Hid (way.length = 32):=hway
  obtain ⟨d1,HD1⟩:∃ x,Hid (x = d + 1):=⟨_,rfl⟩
  have rd:IntKind.i64.wrap ((d:Int) + 1) = (d1:Int):=by rw [IntKind.wrap_i64,HD1.out];omega
  have HA:Hid (∀ W,Below w.heap.size w W → Calls Tryz.prog 36 #[.pointer (some ⟨gr,0,none⟩),vb,.agg (cb way).toArray,.int .i64 (d1:Int)] W (Two fun a b w' => b = .int .i64 0 ∧ P a w' ∧ ∀ g,w.heap.size ≤ g → Blk W g (cb way) 39 → Blk w' g (cb way) 39)):=by rw [HD1.out];exact hA
  obtain ⟨wy,HWY⟩:∃ x,Hid (x = setI way (d:Int) true):=⟨_,rfl⟩
  have HB:Hid (∀ a w1 W,P a w1 → Below w1.heap.size w1 W → Calls Tryz.prog 36 #[.pointer (some ⟨gr,0,none⟩),a,.agg (cb wy).toArray,.int .i64 (d1:Int)] W (Two Q)):=by rw [HD1.out,HWY.out];exact hB
  clear hA hB hway hd
  go_enter Tryz.func58,Tryz.ntmps58
  have tk0:Hid True:=trivial
  have tk1:Hid True:=trivial
  have tk2:Hid True:=trivial
  have tk3:Hid True:=trivial
  have tk4:Hid True:=trivial
  have tk5:Hid True:=trivial
  go_wp2_with (first
    | (clear tk0;with_reducible refine wpSeq_boxD (.tmp 2) way ?_ ?_ ?_ ?_
       · rfl
       · rfl
       · rfl
       intro g6 w1 nn
       have HB1:Hid (Below w.heap.size w w1):=nn.below
       have HG6:Hid (Blk w1 g6 (cb way) 39 ∧ w.heap.size ≤ g6):=⟨nn.blk,nn.ge⟩
       clear nn)
    | (clear tk1;with_reducible refine wpSeq_loadD (.tmp 6) g6 way HY.out HG6.out.1 ?_ ?_ ?_ ?_
       · rfl
       · rfl
       · rfl
       have HQ1:Hid True:=trivial)
    | (clear tk2;go_at_call 36;refine (HA.out _ HB1.out).mono ?_;rintro e w2 ⟨va,vx,rfl,rfl,hp,hg⟩
       have HP:Hid (P va w2):=hp
       have HG7:Hid (Blk w2 g6 (cb way) 39):=hg g6 HG6.out.2 HG6.out.1
       clear hp hg)
    | (clear tk3;with_reducible refine wpSeq_loadD (.tmp 6) g6 way HY.out HG7.out ?_ ?_ ?_ ?_
       · rfl
       · rfl
       · rfl
       have HQ2:Hid True:=trivial)
    | (clear tk4;go_at_call 88;refine (pSet_any way HY.out (d:Int) true _).mono ?_;rintro e w3 ⟨rfl,hb⟩
       rw [← HWY.out]
       have HB3:Hid (Below w2.heap.size w2 w3):=hb
       clear hb)
    | (clear tk5;go_at_call 36;refine (HB.out va w2 _ HP.out HB3.out).mono ?_;rintro e w4 ⟨vc,ve,rfl,hq⟩
       have HQ:Hid (Q vc ve w4):=hq
       clear hq))
  refine bodyPost_ret (results_tmp2 rfl _ _ _) rfl ?_
  exact ⟨_,_,rfl,HQ.out⟩
end Go.Proofs.YtphmmnffgknkcaaGreatDoor
namespace Go.Proofs.YtphmmnffgknkcaaGreatDoor
open Go.RowKit
set_option maxRecDepth 100000
theorem wpSeq_cellI {ops:Array Oper} {Q:Exit → Act → World → Prop} {rest:List Oper} {o:Oper} {a:Act} {w:World} (x y:Operand) (g k:Nat) (cs:List Value) (n:Int) (tb:TypeId) (hk:k < cs.length) (hb:Blk w g cs tb) (ho:o.op = .store 3 x y) (hx:a.eval x = .pointer (some ⟨g,k,none⟩)) (hy:a.eval y = .int .i64 n) (hw:Region.wanted o (yielded ops a.tmps) = true)
    (h:∀ w',Blk w' g (cs.set k (.int .i64 n)) tb → Only g w w' → wpList Tryz.prog ops Q rest (a.put o.dst undef) w'):wpList Tryz.prog ops Q (o :: rest) a w:=by
  have hc:w.cell? ⟨g,k,none⟩ = some cs[k]:=by rw [hb.cell,List.getElem?_eq_getElem hk]
  have hf:w.frozen? ⟨g,k,none⟩ = false:=hb.frozen k
  have he:(execOp a.eval o).run Tryz.prog w = .ok .skip (w.setCell ⟨g,k,none⟩ (.int .i64 n)):=by
    clear h hw
    generalize a.eval = f at hx hy ⊢
    unfold execOp
    rw [ho]
    simp [go_sem,hx,hy,hc,hf]
  unfold wpList
  simp only [hw,if_true]
  left
  unfold Oper.wp
  rw [he,Oper.upon_skip]
  exact h _ (hb.set k _) (Only.setCell (Only.refl g w) k _)
theorem RdG.belowB {w0:World} {B gr gm k:Nat} {pv:Value} {ps la lv:List By} {ix iv ix' iv':Value} {w w':World} (h:RdG gr ix iv w ix' iv' w') (hi:RrI w0 B gr gm pv ps k ix iv la lv w):Below B w w':=
  h.mt.below hi.ge fun j e => e.elim (fun e => e ▸ hi.gg) fun e => e.elim (fun e => (hi.oi.lt j e).1) fun e => (hi.ov.lt j e).1
set_option maxHeartbeats 4000000 in
theorem pgPage_none (w0:World) (B gr gm:Nat) (ap:Option Addr) (np cp:Nat) (ps:List By) (k:Nat) (ix iv:Value) (la lv:List By) (x way:By) (d:Nat) (w:World) (hI:RrI w0 B gr gm (.slice ap np cp) ps k ix iv la lv w) (hx:x.length = 32) (hp:plK ps ps.length x = none) :
    Calls Tryz.prog 19 #[.pointer (some ⟨gr,0,none⟩),.agg (cb x).toArray,.agg (cb way).toArray,.int .i64 (d:Int)] w fun e w' => e = .returned (.int .i64 7) ∧ Below w.heap.size w w':=by
  have HI:Hid (RrI w0 B gr gm (.slice ap np cp) ps k ix iv la lv w):=hI
  have HX:Hid (x.length = 32):=hx
  have HPL:Hid (plK ps ps.length x = none):=hp
  clear hI hx hp
  go_enter Tryz.func19,Tryz.ntmps19
  go_upto_region 1 with (first
    | (with_reducible refine wpSeq_boxD (.tmp 1) x ?_ ?_ ?_ ?_
       · rfl
       · rfl
       · rfl
       intro g5 w1 nn
       have HB1:Hid (Below w.heap.size w w1):=nn.below
       have HG5:Hid (Blk w1 g5 (cb x) 39):=nn.blk
       clear nn)
    | (with_reducible refine wpSeq_boxD (.tmp 2) way ?_ ?_ ?_ ?_
       · rfl
       · rfl
       · rfl
       intro g6 w2 nn
       have HB2:Hid (Below w.heap.size w w2):=HB1.out.trans (nn.below.mono HB1.out.size)
       have HG6:Hid (Blk w2 g6 (cb way) 39):=nn.blk
       replace HG5:Hid (Blk w2 g5 (cb x) 39):=HG5.out.below nn.below HG5.out.lt
       clear nn))
  have HI2:Hid (RrI w0 B gr gm (.slice ap np cp) ps k ix iv la lv w2.drew):=(HI.out.next HB2.out).drew
  have HBD:Hid (Below w.heap.size w w2.drew):=HB2.out.drew
  have HG5d:Hid (Blk w2.drew g5 (cb x) 39):=HG5.out
  have HG6d:Hid (Blk w2.drew g6 (cb way) 39):=HG6.out
  refine wp_region_held_drew (S:=fun W => W = w2.drew) (by kernel_rfl) rfl ?_
  intro hS
  obtain ⟨y,HY⟩:∃ z,z = w2.drew:=⟨_,rfl⟩
  rw [← HY] at HI2 HBD HG5d HG6d hS ⊢
  have hlk:=HI2.out.mp.look HX.out
  have hc1:y.cell? ⟨gr,1,none⟩ = some (.map (some gm)):=HI2.out.blk.cell 1
  rw [HPL.out] at hlk
  have hlk:(Instr.lookup 52 (.map (some gm)) (.agg (cb x).toArray) true).run Tryz.prog y = .ok (.tuple #[.int .i64 0,.bool false]) y:=hlk
  refine wpAnyH_take (i:=0) (v:=.pointer (some ⟨gr,0,none⟩)) rfl (by kernel_rfl) (by kernel_rfl) (by kernel_rfl) (fun _ _ _ h => h) (Or.inl ⟨by rfl,fun wx hx => by simp [go_sem]⟩) hS ?_
  simp only [Act.put,List.getElem_toArray,List.getElem_cons_zero,List.setIfInBounds_toArray,List.set_cons_zero,List.set_cons_succ]
  refine wpAnyH_take (i:=1) (v:=.pointer (some ⟨gr,0,none⟩)) rfl (by kernel_rfl) (by kernel_rfl) (by kernel_rfl) (fun _ _ _ h => h) (Or.inl ⟨by rfl,fun wx hx => by simp [go_sem]⟩) hS ?_
  simp only [Act.put,List.getElem_toArray,List.getElem_cons_succ,List.getElem_cons_zero,List.setIfInBounds_toArray,List.set_cons_zero,List.set_cons_succ]
  refine wpAnyH_take (i:=2) (v:=.pointer (some ⟨gr,1,none⟩)) rfl (by kernel_rfl) (by kernel_rfl) (by kernel_rfl) (fun _ _ _ h => h) (Or.inl ⟨by rfl,fun wx hx => by simp [go_sem]⟩) hS ?_
  simp only [Act.put,List.getElem_toArray,List.getElem_cons_succ,List.getElem_cons_zero,List.setIfInBounds_toArray,List.set_cons_zero,List.set_cons_succ]
  refine wpAnyH_take (i:=3) (v:=.map (some gm)) rfl (by kernel_rfl) (by kernel_rfl) (by kernel_rfl) (fun _ _ _ h => h) (Or.inl ⟨by rfl,fun wx hx => by (rw [hx];simp [go_sem,hc1])⟩) hS ?_
  simp only [Act.put,List.getElem_toArray,List.getElem_cons_succ,List.getElem_cons_zero,List.setIfInBounds_toArray,List.set_cons_zero,List.set_cons_succ]
  refine wpAnyH_take (i:=4) (v:=.agg (cb x).toArray) rfl (by kernel_rfl) (by kernel_rfl) (by kernel_rfl) (fun _ _ _ h => h) (Or.inl ⟨by rfl,fun wx hx => by (rw [hx];exact loadDigest _ g5 x HX.out HG5d.out rfl rfl)⟩) hS ?_
  simp only [Act.put,List.getElem_toArray,List.getElem_cons_succ,List.getElem_cons_zero,List.setIfInBounds_toArray,List.set_cons_zero,List.set_cons_succ]
  refine wpAnyH_take (i:=5) (v:=.tuple #[.int .i64 0,.bool false]) rfl (by kernel_rfl) (by kernel_rfl) (by kernel_rfl) (fun _ _ _ h => h) (Or.inl ⟨by rfl,fun wx hx => by (rw [hx];simp [execOp,Act.eval,hlk])⟩) hS ?_
  simp only [Act.put,List.getElem_toArray,List.getElem_cons_succ,List.getElem_cons_zero,List.setIfInBounds_toArray,List.set_cons_zero,List.set_cons_succ]
  refine wpAnyH_take (i:=6) (v:=.tuple #[.int .i64 0,.bool false]) rfl (by kernel_rfl) (by kernel_rfl) (by kernel_rfl) (fun _ _ _ h => h) (Or.inl ⟨by rfl,fun wx hx => by simp [go_sem]⟩) hS ?_
  simp only [Act.put,List.getElem_toArray,List.getElem_cons_succ,List.getElem_cons_zero,List.setIfInBounds_toArray,List.set_cons_zero,List.set_cons_succ]
  refine wpAnyH_take (i:=7) (v:=.int .i64 0) rfl (by kernel_rfl) (by kernel_rfl) (by kernel_rfl) (fun _ _ _ h => h) (Or.inl ⟨by rfl,fun wx hx => by simp [go_sem]⟩) hS ?_
  simp only [Act.put,List.getElem_toArray,List.getElem_cons_succ,List.getElem_cons_zero,List.setIfInBounds_toArray,List.set_cons_zero,List.set_cons_succ]
  refine wpAnyH_take (i:=8) (v:=.bool false) rfl (by kernel_rfl) (by kernel_rfl) (by kernel_rfl) (fun _ _ _ h => h) (Or.inl ⟨by rfl,fun wx hx => by simp [go_sem]⟩) hS ?_
  simp only [Act.put,List.getElem_toArray,List.getElem_cons_succ,List.getElem_cons_zero,List.setIfInBounds_toArray,List.set_cons_zero,List.set_cons_succ]
  refine wpAnyH_take (i:=9) (v:=.int .i64 0) rfl (by kernel_rfl) (by kernel_rfl) (by kernel_rfl) (fun _ _ _ h => h) (Or.inl ⟨by rfl,fun wx hx => by simp [go_sem]⟩) hS ?_
  simp only [Act.put,List.getElem_toArray,List.getElem_cons_succ,List.getElem_cons_zero,List.setIfInBounds_toArray,List.set_cons_zero,List.set_cons_succ]
  refine wpAnyH_take (i:=10) (v:=.bool false) rfl (by kernel_rfl) (by kernel_rfl) (by kernel_rfl) (fun _ _ _ h => h) (Or.inl ⟨by rfl,fun wx hx => by simp [go_sem]⟩) hS ?_
  simp only [Act.put,List.getElem_toArray,List.getElem_cons_succ,List.getElem_cons_zero,List.setIfInBounds_toArray,List.set_cons_zero,List.set_cons_succ]
  refine wpAnyH_done (by kernel_rfl) ?_ _
  clear hlk hc1
  clear HI2 HG5d HG6d hS HY
  go_wp2_with fail
  go_ret
  exact ⟨rfl,HBD.out⟩
set_option maxHeartbeats 8000000 in
theorem pgPage_ok (w0:World) (B gr gm:Nat) (ap:Option Addr) (np cp:Nat) (ps:List By) (k:Nat) (ix iv:Value) (la lv:List By) (x way:By) (d:Nat) (w:World) (hI:RrI w0 B gr gm (.slice ap np cp) ps k ix iv la lv w) (hx:x.length = 32) (hway:way.length = 32) (i b off:Nat) (vj:Value) (Q:World → Prop) (hp:plK ps ps.length x = some i) (hi:i < np) (hap:ap = some ⟨b,off,none⟩) (hrow:w.cell? ⟨b,off + i,none⟩ = some vj) (hvj:∃ ad n c,vj = .slice ad n c)
    (hC:∀ W,Below w.heap.size w W → Calls Tryz.prog 36 #[.pointer (some ⟨gr,0,none⟩),vj,.agg (cb way).toArray,.int .i64 (d:Int)] W (Two fun a b w' => b = .int .i64 0 ∧ (∃ ad c,a = .slice ad 0 c) ∧ Q w')) :
    Calls Tryz.prog 19 #[.pointer (some ⟨gr,0,none⟩),.agg (cb x).toArray,.agg (cb way).toArray,.int .i64 (d:Int)] w fun e w' => e = .returned (.int .i64 0) ∧ Q w':=by
  have HI:Hid (RrI w0 B gr gm (.slice ap np cp) ps k ix iv la lv w):=hI
  have HX:Hid (x.length = 32):=hx
  have HYW:Hid (way.length = 32):=hway
  have HPL:Hid (plK ps ps.length x = some i):=hp
  subst hap
  obtain ⟨aj,nj,cj,hvj⟩:=hvj
  subst hvj
  have HROW:Hid (∀ W,Below w.heap.size w W → W.cell? ⟨b,off + i,none⟩ = some (.slice aj nj cj)):=fun W hW => by rw [hW.cell (p:=⟨b,off + i,none⟩) (block_lt_of_cell hrow)];exact hrow
  have HC:Hid (∀ W,Below w.heap.size w W → Calls Tryz.prog 36 #[.pointer (some ⟨gr,0,none⟩),.slice aj nj cj,.agg (cb way).toArray,.int .i64 (d:Int)] W (Two fun a b w' => b = .int .i64 0 ∧ (∃ ad c,a = .slice ad 0 c) ∧ Q w')):=hC
  have i0:(0:Int) ≤ (i:Int):=by omega
  have i1:(i:Int) < (np:Int):=by omega
  clear hI hx hp hrow hC hway
  go_enter Tryz.func19,Tryz.ntmps19
  go_upto_region 1 with (first
    | (with_reducible refine wpSeq_boxD (.tmp 1) x ?_ ?_ ?_ ?_
       · rfl
       · rfl
       · rfl
       intro g5 w1 nn
       have HB1:Hid (Below w.heap.size w w1):=nn.below
       have HG5:Hid (Blk w1 g5 (cb x) 39):=nn.blk
       clear nn)
    | (with_reducible refine wpSeq_boxD (.tmp 2) way ?_ ?_ ?_ ?_
       · rfl
       · rfl
       · rfl
       intro g6 w2 nn
       have HB2:Hid (Below w.heap.size w w2):=HB1.out.trans (nn.below.mono HB1.out.size)
       have HG6:Hid (Blk w2 g6 (cb way) 39):=nn.blk
       replace HG5:Hid (Blk w2 g5 (cb x) 39):=HG5.out.below nn.below HG5.out.lt
       clear nn))
  have HI2:Hid (RrI w0 B gr gm (.slice (some ⟨b,off,none⟩) np cp) ps k ix iv la lv w2.drew):=(HI.out.next HB2.out).drew
  have HBD:Hid (Below w.heap.size w w2.drew):=HB2.out.drew
  have HG5d:Hid (Blk w2.drew g5 (cb x) 39):=HG5.out
  have HG6d:Hid (Blk w2.drew g6 (cb way) 39):=HG6.out
  refine wp_region_held_drew (S:=fun W => W = w2.drew) (by kernel_rfl) rfl ?_
  intro hS
  obtain ⟨y,HY⟩:∃ z,z = w2.drew:=⟨_,rfl⟩
  rw [← HY] at HI2 HBD HG5d HG6d hS ⊢
  have hlk:=HI2.out.mp.look HX.out
  have hc1:y.cell? ⟨gr,1,none⟩ = some (.map (some gm)):=HI2.out.blk.cell 1
  rw [HPL.out] at hlk
  have hlk:(Instr.lookup 52 (.map (some gm)) (.agg (cb x).toArray) true).run Tryz.prog y = .ok (.tuple #[.int .i64 (i:Int),.bool true]) y:=hlk
  refine wpAnyH_take (i:=0) (v:=.pointer (some ⟨gr,0,none⟩)) rfl (by kernel_rfl) (by kernel_rfl) (by kernel_rfl) (fun _ _ _ h => h) (Or.inl ⟨by rfl,fun wx hx => by simp [go_sem]⟩) hS ?_
  simp only [Act.put,List.getElem_toArray,List.getElem_cons_zero,List.setIfInBounds_toArray,List.set_cons_zero,List.set_cons_succ]
  refine wpAnyH_take (i:=1) (v:=.pointer (some ⟨gr,0,none⟩)) rfl (by kernel_rfl) (by kernel_rfl) (by kernel_rfl) (fun _ _ _ h => h) (Or.inl ⟨by rfl,fun wx hx => by simp [go_sem]⟩) hS ?_
  simp only [Act.put,List.getElem_toArray,List.getElem_cons_succ,List.getElem_cons_zero,List.setIfInBounds_toArray,List.set_cons_zero,List.set_cons_succ]
  refine wpAnyH_take (i:=2) (v:=.pointer (some ⟨gr,1,none⟩)) rfl (by kernel_rfl) (by kernel_rfl) (by kernel_rfl) (fun _ _ _ h => h) (Or.inl ⟨by rfl,fun wx hx => by simp [go_sem]⟩) hS ?_
  simp only [Act.put,List.getElem_toArray,List.getElem_cons_succ,List.getElem_cons_zero,List.setIfInBounds_toArray,List.set_cons_zero,List.set_cons_succ]
  refine wpAnyH_take (i:=3) (v:=.map (some gm)) rfl (by kernel_rfl) (by kernel_rfl) (by kernel_rfl) (fun _ _ _ h => h) (Or.inl ⟨by rfl,fun wx hx => by (rw [hx];simp [go_sem,hc1])⟩) hS ?_
  simp only [Act.put,List.getElem_toArray,List.getElem_cons_succ,List.getElem_cons_zero,List.setIfInBounds_toArray,List.set_cons_zero,List.set_cons_succ]
  refine wpAnyH_take (i:=4) (v:=.agg (cb x).toArray) rfl (by kernel_rfl) (by kernel_rfl) (by kernel_rfl) (fun _ _ _ h => h) (Or.inl ⟨by rfl,fun wx hx => by (rw [hx];exact loadDigest _ g5 x HX.out HG5d.out rfl rfl)⟩) hS ?_
  simp only [Act.put,List.getElem_toArray,List.getElem_cons_succ,List.getElem_cons_zero,List.setIfInBounds_toArray,List.set_cons_zero,List.set_cons_succ]
  refine wpAnyH_take (i:=5) (v:=.tuple #[.int .i64 (i:Int),.bool true]) rfl (by kernel_rfl) (by kernel_rfl) (by kernel_rfl) (fun _ _ _ h => h) (Or.inl ⟨by rfl,fun wx hx => by (rw [hx];simp [execOp,Act.eval,hlk])⟩) hS ?_
  simp only [Act.put,List.getElem_toArray,List.getElem_cons_succ,List.getElem_cons_zero,List.setIfInBounds_toArray,List.set_cons_zero,List.set_cons_succ]
  refine wpAnyH_take (i:=6) (v:=.tuple #[.int .i64 (i:Int),.bool true]) rfl (by kernel_rfl) (by kernel_rfl) (by kernel_rfl) (fun _ _ _ h => h) (Or.inl ⟨by rfl,fun wx hx => by simp [go_sem]⟩) hS ?_
  simp only [Act.put,List.getElem_toArray,List.getElem_cons_succ,List.getElem_cons_zero,List.setIfInBounds_toArray,List.set_cons_zero,List.set_cons_succ]
  refine wpAnyH_take (i:=7) (v:=.int .i64 (i:Int)) rfl (by kernel_rfl) (by kernel_rfl) (by kernel_rfl) (fun _ _ _ h => h) (Or.inl ⟨by rfl,fun wx hx => by simp [go_sem]⟩) hS ?_
  simp only [Act.put,List.getElem_toArray,List.getElem_cons_succ,List.getElem_cons_zero,List.setIfInBounds_toArray,List.set_cons_zero,List.set_cons_succ]
  refine wpAnyH_take (i:=8) (v:=.bool true) rfl (by kernel_rfl) (by kernel_rfl) (by kernel_rfl) (fun _ _ _ h => h) (Or.inl ⟨by rfl,fun wx hx => by simp [go_sem]⟩) hS ?_
  simp only [Act.put,List.getElem_toArray,List.getElem_cons_succ,List.getElem_cons_zero,List.setIfInBounds_toArray,List.set_cons_zero,List.set_cons_succ]
  refine wpAnyH_take (i:=9) (v:=.int .i64 (i:Int)) rfl (by kernel_rfl) (by kernel_rfl) (by kernel_rfl) (fun _ _ _ h => h) (Or.inl ⟨by rfl,fun wx hx => by simp [go_sem]⟩) hS ?_
  simp only [Act.put,List.getElem_toArray,List.getElem_cons_succ,List.getElem_cons_zero,List.setIfInBounds_toArray,List.set_cons_zero,List.set_cons_succ]
  refine wpAnyH_take (i:=10) (v:=.bool true) rfl (by kernel_rfl) (by kernel_rfl) (by kernel_rfl) (fun _ _ _ h => h) (Or.inl ⟨by rfl,fun wx hx => by simp [go_sem]⟩) hS ?_
  simp only [Act.put,List.getElem_toArray,List.getElem_cons_succ,List.getElem_cons_zero,List.setIfInBounds_toArray,List.set_cons_zero,List.set_cons_succ]
  refine wpAnyH_done (by kernel_rfl) ?_ _
  clear hlk hc1
  have HI3:Hid (RrI w0 B gr gm (.slice (some ⟨b,off,none⟩) np cp) ps k ix iv la lv y.drew):=HI2.out.drew
  have HB3:Hid (Below w.heap.size w y.drew):=HBD.out.drew
  have HG6e:Hid (Blk y.drew g6 (cb way) 39):=HG6d.out
  have hc0:y.drew.cell? ⟨gr,0,none⟩ = some (.slice (some ⟨b,off,none⟩) np cp):=HI3.out.blk.cell 0
  have hcr:=HROW.out _ HB3.out
  clear HI2 HG5d HG6d hS HY HI HBD
  go_wp2_with fail
  refine wp_region_held_drew (S:=fun _ => True) (by kernel_rfl) trivial ?_
  intro hS
  refine wpAnyH_take (i:=0) (v:=.pointer (some ⟨gr,0,none⟩)) rfl (by kernel_rfl) (by kernel_rfl) (by kernel_rfl) (fun _ _ _ h => h) (Or.inl ⟨by rfl,fun wx hx => by simp [go_sem]⟩) hS ?_
  simp only [Act.put,List.getElem_toArray,List.getElem_cons_zero,List.setIfInBounds_toArray,List.set_cons_zero,List.set_cons_succ]
  refine wpAnyH_take (i:=1) (v:=.pointer (some ⟨gr,0,none⟩)) rfl (by kernel_rfl) (by kernel_rfl) (by kernel_rfl) (fun _ _ _ h => h) (Or.inl ⟨by rfl,fun wx hx => by simp [go_sem]⟩) hS ?_
  simp only [Act.put,List.getElem_toArray,List.getElem_cons_succ,List.getElem_cons_zero,List.setIfInBounds_toArray,List.set_cons_zero,List.set_cons_succ]
  refine wpAnyH_take (i:=2) (v:=.pointer (some ⟨gr,0,none⟩)) rfl (by kernel_rfl) (by kernel_rfl) (by kernel_rfl) (fun _ _ _ h => h) (Or.inl ⟨by rfl,fun wx hx => by simp [go_sem]⟩) hS ?_
  simp only [Act.put,List.getElem_toArray,List.getElem_cons_succ,List.getElem_cons_zero,List.setIfInBounds_toArray,List.set_cons_zero,List.set_cons_succ]
  refine wpAnyH_take (i:=3) (v:=.pointer (some ⟨gr,0,none⟩)) rfl (by kernel_rfl) (by kernel_rfl) (by kernel_rfl) (fun _ _ _ h => h) (Or.inl ⟨by rfl,fun wx hx => by simp [go_sem]⟩) hS ?_
  simp only [Act.put,List.getElem_toArray,List.getElem_cons_succ,List.getElem_cons_zero,List.setIfInBounds_toArray,List.set_cons_zero,List.set_cons_succ]
  refine wpAnyH_take (i:=5) (v:=.int .i64 (i:Int)) rfl (by kernel_rfl) (by kernel_rfl) (by kernel_rfl) (fun _ _ _ h => h) (Or.inl ⟨by rfl,fun wx hx => by simp [go_sem]⟩) hS ?_
  simp only [Act.put,List.getElem_toArray,List.getElem_cons_succ,List.getElem_cons_zero,List.setIfInBounds_toArray,List.set_cons_zero,List.set_cons_succ]
  refine wpAnyH_take (i:=9) (v:=.int .i64 (d:Int)) rfl (by kernel_rfl) (by kernel_rfl) (by kernel_rfl) (fun _ _ _ h => h) (Or.inl ⟨by rfl,fun wx hx => by simp [go_sem]⟩) hS ?_
  simp only [Act.put,List.getElem_toArray,List.getElem_cons_succ,List.getElem_cons_zero,List.setIfInBounds_toArray,List.set_cons_zero,List.set_cons_succ]
  have hld:=fun (a:Act) (o:Oper) (h1:o.op = .load 39 (.tmp 6)) (h2:a.eval (.tmp 6) = .pointer (some ⟨g6,0,none⟩)) => loadDigest (w:=y.drew) (.tmp 6) g6 way HYW.out HG6e.out h1 h2
  refine wpAnyH_pair 4 8 (by kernel_rfl) ?_ ?_
  · skip
    refine wpOp_vl 4 (.slice (some ⟨b,off,none⟩) np cp) y.drew rfl (by rfl) (by simp [go_sem,hc0]) ⟨trivial,?_⟩
    simp only [Act.put,List.getElem_toArray,List.getElem_cons_succ,List.getElem_cons_zero,List.setIfInBounds_toArray,List.set_cons_zero,List.set_cons_succ]
    refine wpAnyH_take (i:=6) (v:=.pointer (some ⟨b,off + i,none⟩)) rfl (by kernel_rfl) (by kernel_rfl) (by kernel_rfl) (fun _ _ _ h => h) (Or.inl ⟨by rfl,fun wx hx => by simp [go_sem,i0,i1]⟩) hS ?_
    simp only [Act.put,List.getElem_toArray,List.getElem_cons_succ,List.getElem_cons_zero,List.setIfInBounds_toArray,List.set_cons_zero,List.set_cons_succ]
    refine wpAnyH_comm 7 8 (.slice aj nj cj) (.agg (cb way).toArray) y.drew (by kernel_rfl) rfl rfl (by rfl) (by rfl) (by rfl) (by rfl) (by simp [go_sem,hcr]) (hld _ _ rfl rfl) (by simp [go_sem,hcr]) (hld _ _ rfl rfl) (by kernel_rfl) (by kernel_rfl) (by rfl) (by rfl) trivial trivial ?_
    simp only [Act.put,List.getElem_toArray,List.getElem_cons_succ,List.getElem_cons_zero,List.setIfInBounds_toArray,List.set_cons_zero,List.set_cons_succ]
    refine wpAnyH_enter 10 (by kernel_rfl) rfl (by rfl) (f:=36) (args:=#[.pointer (some ⟨gr,0,none⟩),.slice aj nj cj,.agg (cb way).toArray,.int .i64 (d:Int)]) (by simp [go_sem]) (HC.out _ HB3.out) ?_
    rintro e wz ⟨va,ve,rfl,rfl,⟨ad,c,rfl⟩,hq⟩
    refine ⟨_,rfl,trivial,?_⟩
    have HQ:Hid (Q wz):=hq
    clear hq hld hc0 hcr HI3 HG6e
    simp only [Act.put,List.getElem_toArray,List.getElem_cons_succ,List.getElem_cons_zero,List.setIfInBounds_toArray,List.set_cons_zero,List.set_cons_succ]
    refine wpAnyH_take (i:=11) (v:=.tuple #[(.slice ad 0 c),.int .i64 0]) rfl (by kernel_rfl) (by kernel_rfl) (by kernel_rfl) (fun _ _ _ h => h) (Or.inl ⟨by rfl,fun wx hx => by simp [go_sem]⟩) hS ?_
    simp only [Act.put,List.getElem_toArray,List.getElem_cons_succ,List.getElem_cons_zero,List.setIfInBounds_toArray,List.set_cons_zero,List.set_cons_succ]
    refine wpAnyH_take (i:=12) (v:=(.slice ad 0 c)) rfl (by kernel_rfl) (by kernel_rfl) (by kernel_rfl) (fun _ _ _ h => h) (Or.inl ⟨by rfl,fun wx hx => by simp [go_sem]⟩) hS ?_
    simp only [Act.put,List.getElem_toArray,List.getElem_cons_succ,List.getElem_cons_zero,List.setIfInBounds_toArray,List.set_cons_zero,List.set_cons_succ]
    refine wpAnyH_take (i:=13) (v:=.int .i64 0) rfl (by kernel_rfl) (by kernel_rfl) (by kernel_rfl) (fun _ _ _ h => h) (Or.inl ⟨by rfl,fun wx hx => by simp [go_sem]⟩) hS ?_
    simp only [Act.put,List.getElem_toArray,List.getElem_cons_succ,List.getElem_cons_zero,List.setIfInBounds_toArray,List.set_cons_zero,List.set_cons_succ]
    refine wpAnyH_take (i:=14) (v:=(.slice ad 0 c)) rfl (by kernel_rfl) (by kernel_rfl) (by kernel_rfl) (fun _ _ _ h => h) (Or.inl ⟨by rfl,fun wx hx => by simp [go_sem]⟩) hS ?_
    simp only [Act.put,List.getElem_toArray,List.getElem_cons_succ,List.getElem_cons_zero,List.setIfInBounds_toArray,List.set_cons_zero,List.set_cons_succ]
    refine wpAnyH_take (i:=15) (v:=.int .i64 0) rfl (by kernel_rfl) (by kernel_rfl) (by kernel_rfl) (fun _ _ _ h => h) (Or.inl ⟨by rfl,fun wx hx => by simp [go_sem]⟩) hS ?_
    simp only [Act.put,List.getElem_toArray,List.getElem_cons_succ,List.getElem_cons_zero,List.setIfInBounds_toArray,List.set_cons_zero,List.set_cons_succ]
    refine wpAnyH_done (by kernel_rfl) ?_ _
    go_wp2_with fail
    go_ret
    exact ⟨rfl,HQ.out⟩
  · skip
    refine wpOp_vl 8 (.agg (cb way).toArray) y.drew rfl (by rfl) (hld _ _ rfl rfl) ⟨trivial,?_⟩
    simp only [Act.put,List.getElem_toArray,List.getElem_cons_succ,List.getElem_cons_zero,List.setIfInBounds_toArray,List.set_cons_zero,List.set_cons_succ]
    refine wpAnyH_step 4 (.slice (some ⟨b,off,none⟩) np cp) y.drew (by kernel_rfl) rfl (by rfl) (by simp [go_sem,hc0]) trivial ?_
    simp only [Act.put,List.getElem_toArray,List.getElem_cons_succ,List.getElem_cons_zero,List.setIfInBounds_toArray,List.set_cons_zero,List.set_cons_succ]
    refine wpAnyH_take (i:=6) (v:=.pointer (some ⟨b,off + i,none⟩)) rfl (by kernel_rfl) (by kernel_rfl) (by kernel_rfl) (fun _ _ _ h => h) (Or.inl ⟨by rfl,fun wx hx => by simp [go_sem,i0,i1]⟩) hS ?_
    simp only [Act.put,List.getElem_toArray,List.getElem_cons_succ,List.getElem_cons_zero,List.setIfInBounds_toArray,List.set_cons_zero,List.set_cons_succ]
    refine wpAnyH_step 7 (.slice aj nj cj) y.drew (by kernel_rfl) rfl (by rfl) (by simp [go_sem,hcr]) trivial ?_
    simp only [Act.put,List.getElem_toArray,List.getElem_cons_succ,List.getElem_cons_zero,List.setIfInBounds_toArray,List.set_cons_zero,List.set_cons_succ]
    refine wpAnyH_enter 10 (by kernel_rfl) rfl (by rfl) (f:=36) (args:=#[.pointer (some ⟨gr,0,none⟩),.slice aj nj cj,.agg (cb way).toArray,.int .i64 (d:Int)]) (by simp [go_sem]) (HC.out _ HB3.out) ?_
    rintro e wz ⟨va,ve,rfl,rfl,⟨ad,c,rfl⟩,hq⟩
    refine ⟨_,rfl,trivial,?_⟩
    have HQ:Hid (Q wz):=hq
    clear hq hld hc0 hcr HI3 HG6e
    simp only [Act.put,List.getElem_toArray,List.getElem_cons_succ,List.getElem_cons_zero,List.setIfInBounds_toArray,List.set_cons_zero,List.set_cons_succ]
    refine wpAnyH_take (i:=11) (v:=.tuple #[(.slice ad 0 c),.int .i64 0]) rfl (by kernel_rfl) (by kernel_rfl) (by kernel_rfl) (fun _ _ _ h => h) (Or.inl ⟨by rfl,fun wx hx => by simp [go_sem]⟩) hS ?_
    simp only [Act.put,List.getElem_toArray,List.getElem_cons_succ,List.getElem_cons_zero,List.setIfInBounds_toArray,List.set_cons_zero,List.set_cons_succ]
    refine wpAnyH_take (i:=12) (v:=(.slice ad 0 c)) rfl (by kernel_rfl) (by kernel_rfl) (by kernel_rfl) (fun _ _ _ h => h) (Or.inl ⟨by rfl,fun wx hx => by simp [go_sem]⟩) hS ?_
    simp only [Act.put,List.getElem_toArray,List.getElem_cons_succ,List.getElem_cons_zero,List.setIfInBounds_toArray,List.set_cons_zero,List.set_cons_succ]
    refine wpAnyH_take (i:=13) (v:=.int .i64 0) rfl (by kernel_rfl) (by kernel_rfl) (by kernel_rfl) (fun _ _ _ h => h) (Or.inl ⟨by rfl,fun wx hx => by simp [go_sem]⟩) hS ?_
    simp only [Act.put,List.getElem_toArray,List.getElem_cons_succ,List.getElem_cons_zero,List.setIfInBounds_toArray,List.set_cons_zero,List.set_cons_succ]
    refine wpAnyH_take (i:=14) (v:=(.slice ad 0 c)) rfl (by kernel_rfl) (by kernel_rfl) (by kernel_rfl) (fun _ _ _ h => h) (Or.inl ⟨by rfl,fun wx hx => by simp [go_sem]⟩) hS ?_
    simp only [Act.put,List.getElem_toArray,List.getElem_cons_succ,List.getElem_cons_zero,List.setIfInBounds_toArray,List.set_cons_zero,List.set_cons_succ]
    refine wpAnyH_take (i:=15) (v:=.int .i64 0) rfl (by kernel_rfl) (by kernel_rfl) (by kernel_rfl) (fun _ _ _ h => h) (Or.inl ⟨by rfl,fun wx hx => by simp [go_sem]⟩) hS ?_
    simp only [Act.put,List.getElem_toArray,List.getElem_cons_succ,List.getElem_cons_zero,List.setIfInBounds_toArray,List.set_cons_zero,List.set_cons_succ]
    refine wpAnyH_done (by kernel_rfl) ?_ _
    go_wp2_with fail
    go_ret
    exact ⟨rfl,HQ.out⟩
set_option maxHeartbeats 8000000 in
theorem pgPage_no (w0:World) (B gr gm:Nat) (ap:Option Addr) (np cp:Nat) (ps:List By) (k:Nat) (ix iv:Value) (la lv:List By) (x way:By) (d:Nat) (w:World) (hI:RrI w0 B gr gm (.slice ap np cp) ps k ix iv la lv w) (hx:x.length = 32) (hway:way.length = 32) (i b off:Nat) (vj:Value) (Q:World → Prop) (hp:plK ps ps.length x = some i) (hi:i < np) (hap:ap = some ⟨b,off,none⟩) (hrow:w.cell? ⟨b,off + i,none⟩ = some vj) (hvj:∃ ad n c,vj = .slice ad n c)
    (hC:∀ W,Below w.heap.size w W → Calls Tryz.prog 36 #[.pointer (some ⟨gr,0,none⟩),vj,.agg (cb way).toArray,.int .i64 (d:Int)] W (Two fun _ b w' => b = .int .i64 7 ∧ (True) ∧ Q w')) :
    Calls Tryz.prog 19 #[.pointer (some ⟨gr,0,none⟩),.agg (cb x).toArray,.agg (cb way).toArray,.int .i64 (d:Int)] w fun e w' => e = .returned (.int .i64 7) ∧ Q w':=by
  have HI:Hid (RrI w0 B gr gm (.slice ap np cp) ps k ix iv la lv w):=hI
  have HX:Hid (x.length = 32):=hx
  have HYW:Hid (way.length = 32):=hway
  have HPL:Hid (plK ps ps.length x = some i):=hp
  subst hap
  obtain ⟨aj,nj,cj,hvj⟩:=hvj
  subst hvj
  have HROW:Hid (∀ W,Below w.heap.size w W → W.cell? ⟨b,off + i,none⟩ = some (.slice aj nj cj)):=fun W hW => by rw [hW.cell (p:=⟨b,off + i,none⟩) (block_lt_of_cell hrow)];exact hrow
  have HC:Hid (∀ W,Below w.heap.size w W → Calls Tryz.prog 36 #[.pointer (some ⟨gr,0,none⟩),.slice aj nj cj,.agg (cb way).toArray,.int .i64 (d:Int)] W (Two fun _ b w' => b = .int .i64 7 ∧ (True) ∧ Q w')):=hC
  have i0:(0:Int) ≤ (i:Int):=by omega
  have i1:(i:Int) < (np:Int):=by omega
  clear hI hx hp hrow hC hway
  go_enter Tryz.func19,Tryz.ntmps19
  go_upto_region 1 with (first
    | (with_reducible refine wpSeq_boxD (.tmp 1) x ?_ ?_ ?_ ?_
       · rfl
       · rfl
       · rfl
       intro g5 w1 nn
       have HB1:Hid (Below w.heap.size w w1):=nn.below
       have HG5:Hid (Blk w1 g5 (cb x) 39):=nn.blk
       clear nn)
    | (with_reducible refine wpSeq_boxD (.tmp 2) way ?_ ?_ ?_ ?_
       · rfl
       · rfl
       · rfl
       intro g6 w2 nn
       have HB2:Hid (Below w.heap.size w w2):=HB1.out.trans (nn.below.mono HB1.out.size)
       have HG6:Hid (Blk w2 g6 (cb way) 39):=nn.blk
       replace HG5:Hid (Blk w2 g5 (cb x) 39):=HG5.out.below nn.below HG5.out.lt
       clear nn))
  have HI2:Hid (RrI w0 B gr gm (.slice (some ⟨b,off,none⟩) np cp) ps k ix iv la lv w2.drew):=(HI.out.next HB2.out).drew
  have HBD:Hid (Below w.heap.size w w2.drew):=HB2.out.drew
  have HG5d:Hid (Blk w2.drew g5 (cb x) 39):=HG5.out
  have HG6d:Hid (Blk w2.drew g6 (cb way) 39):=HG6.out
  refine wp_region_held_drew (S:=fun W => W = w2.drew) (by kernel_rfl) rfl ?_
  intro hS
  obtain ⟨y,HY⟩:∃ z,z = w2.drew:=⟨_,rfl⟩
  rw [← HY] at HI2 HBD HG5d HG6d hS ⊢
  have hlk:=HI2.out.mp.look HX.out
  have hc1:y.cell? ⟨gr,1,none⟩ = some (.map (some gm)):=HI2.out.blk.cell 1
  rw [HPL.out] at hlk
  have hlk:(Instr.lookup 52 (.map (some gm)) (.agg (cb x).toArray) true).run Tryz.prog y = .ok (.tuple #[.int .i64 (i:Int),.bool true]) y:=hlk
  refine wpAnyH_take (i:=0) (v:=.pointer (some ⟨gr,0,none⟩)) rfl (by kernel_rfl) (by kernel_rfl) (by kernel_rfl) (fun _ _ _ h => h) (Or.inl ⟨by rfl,fun wx hx => by simp [go_sem]⟩) hS ?_
  simp only [Act.put,List.getElem_toArray,List.getElem_cons_zero,List.setIfInBounds_toArray,List.set_cons_zero,List.set_cons_succ]
  refine wpAnyH_take (i:=1) (v:=.pointer (some ⟨gr,0,none⟩)) rfl (by kernel_rfl) (by kernel_rfl) (by kernel_rfl) (fun _ _ _ h => h) (Or.inl ⟨by rfl,fun wx hx => by simp [go_sem]⟩) hS ?_
  simp only [Act.put,List.getElem_toArray,List.getElem_cons_succ,List.getElem_cons_zero,List.setIfInBounds_toArray,List.set_cons_zero,List.set_cons_succ]
  refine wpAnyH_take (i:=2) (v:=.pointer (some ⟨gr,1,none⟩)) rfl (by kernel_rfl) (by kernel_rfl) (by kernel_rfl) (fun _ _ _ h => h) (Or.inl ⟨by rfl,fun wx hx => by simp [go_sem]⟩) hS ?_
  simp only [Act.put,List.getElem_toArray,List.getElem_cons_succ,List.getElem_cons_zero,List.setIfInBounds_toArray,List.set_cons_zero,List.set_cons_succ]
  refine wpAnyH_take (i:=3) (v:=.map (some gm)) rfl (by kernel_rfl) (by kernel_rfl) (by kernel_rfl) (fun _ _ _ h => h) (Or.inl ⟨by rfl,fun wx hx => by (rw [hx];simp [go_sem,hc1])⟩) hS ?_
  simp only [Act.put,List.getElem_toArray,List.getElem_cons_succ,List.getElem_cons_zero,List.setIfInBounds_toArray,List.set_cons_zero,List.set_cons_succ]
  refine wpAnyH_take (i:=4) (v:=.agg (cb x).toArray) rfl (by kernel_rfl) (by kernel_rfl) (by kernel_rfl) (fun _ _ _ h => h) (Or.inl ⟨by rfl,fun wx hx => by (rw [hx];exact loadDigest _ g5 x HX.out HG5d.out rfl rfl)⟩) hS ?_
  simp only [Act.put,List.getElem_toArray,List.getElem_cons_succ,List.getElem_cons_zero,List.setIfInBounds_toArray,List.set_cons_zero,List.set_cons_succ]
  refine wpAnyH_take (i:=5) (v:=.tuple #[.int .i64 (i:Int),.bool true]) rfl (by kernel_rfl) (by kernel_rfl) (by kernel_rfl) (fun _ _ _ h => h) (Or.inl ⟨by rfl,fun wx hx => by (rw [hx];simp [execOp,Act.eval,hlk])⟩) hS ?_
  simp only [Act.put,List.getElem_toArray,List.getElem_cons_succ,List.getElem_cons_zero,List.setIfInBounds_toArray,List.set_cons_zero,List.set_cons_succ]
  refine wpAnyH_take (i:=6) (v:=.tuple #[.int .i64 (i:Int),.bool true]) rfl (by kernel_rfl) (by kernel_rfl) (by kernel_rfl) (fun _ _ _ h => h) (Or.inl ⟨by rfl,fun wx hx => by simp [go_sem]⟩) hS ?_
  simp only [Act.put,List.getElem_toArray,List.getElem_cons_succ,List.getElem_cons_zero,List.setIfInBounds_toArray,List.set_cons_zero,List.set_cons_succ]
  refine wpAnyH_take (i:=7) (v:=.int .i64 (i:Int)) rfl (by kernel_rfl) (by kernel_rfl) (by kernel_rfl) (fun _ _ _ h => h) (Or.inl ⟨by rfl,fun wx hx => by simp [go_sem]⟩) hS ?_
  simp only [Act.put,List.getElem_toArray,List.getElem_cons_succ,List.getElem_cons_zero,List.setIfInBounds_toArray,List.set_cons_zero,List.set_cons_succ]
  refine wpAnyH_take (i:=8) (v:=.bool true) rfl (by kernel_rfl) (by kernel_rfl) (by kernel_rfl) (fun _ _ _ h => h) (Or.inl ⟨by rfl,fun wx hx => by simp [go_sem]⟩) hS ?_
  simp only [Act.put,List.getElem_toArray,List.getElem_cons_succ,List.getElem_cons_zero,List.setIfInBounds_toArray,List.set_cons_zero,List.set_cons_succ]
  refine wpAnyH_take (i:=9) (v:=.int .i64 (i:Int)) rfl (by kernel_rfl) (by kernel_rfl) (by kernel_rfl) (fun _ _ _ h => h) (Or.inl ⟨by rfl,fun wx hx => by simp [go_sem]⟩) hS ?_
  simp only [Act.put,List.getElem_toArray,List.getElem_cons_succ,List.getElem_cons_zero,List.setIfInBounds_toArray,List.set_cons_zero,List.set_cons_succ]
  refine wpAnyH_take (i:=10) (v:=.bool true) rfl (by kernel_rfl) (by kernel_rfl) (by kernel_rfl) (fun _ _ _ h => h) (Or.inl ⟨by rfl,fun wx hx => by simp [go_sem]⟩) hS ?_
  simp only [Act.put,List.getElem_toArray,List.getElem_cons_succ,List.getElem_cons_zero,List.setIfInBounds_toArray,List.set_cons_zero,List.set_cons_succ]
  refine wpAnyH_done (by kernel_rfl) ?_ _
  clear hlk hc1
  have HI3:Hid (RrI w0 B gr gm (.slice (some ⟨b,off,none⟩) np cp) ps k ix iv la lv y.drew):=HI2.out.drew
  have HB3:Hid (Below w.heap.size w y.drew):=HBD.out.drew
  have HG6e:Hid (Blk y.drew g6 (cb way) 39):=HG6d.out
  have hc0:y.drew.cell? ⟨gr,0,none⟩ = some (.slice (some ⟨b,off,none⟩) np cp):=HI3.out.blk.cell 0
  have hcr:=HROW.out _ HB3.out
  clear HI2 HG5d HG6d hS HY HI HBD
  go_wp2_with fail
  refine wp_region_held_drew (S:=fun _ => True) (by kernel_rfl) trivial ?_
  intro hS
  refine wpAnyH_take (i:=0) (v:=.pointer (some ⟨gr,0,none⟩)) rfl (by kernel_rfl) (by kernel_rfl) (by kernel_rfl) (fun _ _ _ h => h) (Or.inl ⟨by rfl,fun wx hx => by simp [go_sem]⟩) hS ?_
  simp only [Act.put,List.getElem_toArray,List.getElem_cons_zero,List.setIfInBounds_toArray,List.set_cons_zero,List.set_cons_succ]
  refine wpAnyH_take (i:=1) (v:=.pointer (some ⟨gr,0,none⟩)) rfl (by kernel_rfl) (by kernel_rfl) (by kernel_rfl) (fun _ _ _ h => h) (Or.inl ⟨by rfl,fun wx hx => by simp [go_sem]⟩) hS ?_
  simp only [Act.put,List.getElem_toArray,List.getElem_cons_succ,List.getElem_cons_zero,List.setIfInBounds_toArray,List.set_cons_zero,List.set_cons_succ]
  refine wpAnyH_take (i:=2) (v:=.pointer (some ⟨gr,0,none⟩)) rfl (by kernel_rfl) (by kernel_rfl) (by kernel_rfl) (fun _ _ _ h => h) (Or.inl ⟨by rfl,fun wx hx => by simp [go_sem]⟩) hS ?_
  simp only [Act.put,List.getElem_toArray,List.getElem_cons_succ,List.getElem_cons_zero,List.setIfInBounds_toArray,List.set_cons_zero,List.set_cons_succ]
  refine wpAnyH_take (i:=3) (v:=.pointer (some ⟨gr,0,none⟩)) rfl (by kernel_rfl) (by kernel_rfl) (by kernel_rfl) (fun _ _ _ h => h) (Or.inl ⟨by rfl,fun wx hx => by simp [go_sem]⟩) hS ?_
  simp only [Act.put,List.getElem_toArray,List.getElem_cons_succ,List.getElem_cons_zero,List.setIfInBounds_toArray,List.set_cons_zero,List.set_cons_succ]
  refine wpAnyH_take (i:=5) (v:=.int .i64 (i:Int)) rfl (by kernel_rfl) (by kernel_rfl) (by kernel_rfl) (fun _ _ _ h => h) (Or.inl ⟨by rfl,fun wx hx => by simp [go_sem]⟩) hS ?_
  simp only [Act.put,List.getElem_toArray,List.getElem_cons_succ,List.getElem_cons_zero,List.setIfInBounds_toArray,List.set_cons_zero,List.set_cons_succ]
  refine wpAnyH_take (i:=9) (v:=.int .i64 (d:Int)) rfl (by kernel_rfl) (by kernel_rfl) (by kernel_rfl) (fun _ _ _ h => h) (Or.inl ⟨by rfl,fun wx hx => by simp [go_sem]⟩) hS ?_
  simp only [Act.put,List.getElem_toArray,List.getElem_cons_succ,List.getElem_cons_zero,List.setIfInBounds_toArray,List.set_cons_zero,List.set_cons_succ]
  have hld:=fun (a:Act) (o:Oper) (h1:o.op = .load 39 (.tmp 6)) (h2:a.eval (.tmp 6) = .pointer (some ⟨g6,0,none⟩)) => loadDigest (w:=y.drew) (.tmp 6) g6 way HYW.out HG6e.out h1 h2
  refine wpAnyH_pair 4 8 (by kernel_rfl) ?_ ?_
  · skip
    refine wpOp_vl 4 (.slice (some ⟨b,off,none⟩) np cp) y.drew rfl (by rfl) (by simp [go_sem,hc0]) ⟨trivial,?_⟩
    simp only [Act.put,List.getElem_toArray,List.getElem_cons_succ,List.getElem_cons_zero,List.setIfInBounds_toArray,List.set_cons_zero,List.set_cons_succ]
    refine wpAnyH_take (i:=6) (v:=.pointer (some ⟨b,off + i,none⟩)) rfl (by kernel_rfl) (by kernel_rfl) (by kernel_rfl) (fun _ _ _ h => h) (Or.inl ⟨by rfl,fun wx hx => by simp [go_sem,i0,i1]⟩) hS ?_
    simp only [Act.put,List.getElem_toArray,List.getElem_cons_succ,List.getElem_cons_zero,List.setIfInBounds_toArray,List.set_cons_zero,List.set_cons_succ]
    refine wpAnyH_comm 7 8 (.slice aj nj cj) (.agg (cb way).toArray) y.drew (by kernel_rfl) rfl rfl (by rfl) (by rfl) (by rfl) (by rfl) (by simp [go_sem,hcr]) (hld _ _ rfl rfl) (by simp [go_sem,hcr]) (hld _ _ rfl rfl) (by kernel_rfl) (by kernel_rfl) (by rfl) (by rfl) trivial trivial ?_
    simp only [Act.put,List.getElem_toArray,List.getElem_cons_succ,List.getElem_cons_zero,List.setIfInBounds_toArray,List.set_cons_zero,List.set_cons_succ]
    refine wpAnyH_enter 10 (by kernel_rfl) rfl (by rfl) (f:=36) (args:=#[.pointer (some ⟨gr,0,none⟩),.slice aj nj cj,.agg (cb way).toArray,.int .i64 (d:Int)]) (by simp [go_sem]) (HC.out _ HB3.out) ?_
    rintro e wz ⟨va,ve,rfl,rfl,_,hq⟩
    refine ⟨_,rfl,trivial,?_⟩
    have HQ:Hid (Q wz):=hq
    clear hq hld hc0 hcr HI3 HG6e
    simp only [Act.put,List.getElem_toArray,List.getElem_cons_succ,List.getElem_cons_zero,List.setIfInBounds_toArray,List.set_cons_zero,List.set_cons_succ]
    refine wpAnyH_take (i:=11) (v:=.tuple #[va,.int .i64 7]) rfl (by kernel_rfl) (by kernel_rfl) (by kernel_rfl) (fun _ _ _ h => h) (Or.inl ⟨by rfl,fun wx hx => by simp [go_sem]⟩) hS ?_
    simp only [Act.put,List.getElem_toArray,List.getElem_cons_succ,List.getElem_cons_zero,List.setIfInBounds_toArray,List.set_cons_zero,List.set_cons_succ]
    refine wpAnyH_take (i:=12) (v:=va) rfl (by kernel_rfl) (by kernel_rfl) (by kernel_rfl) (fun _ _ _ h => h) (Or.inl ⟨by rfl,fun wx hx => by simp [go_sem]⟩) hS ?_
    simp only [Act.put,List.getElem_toArray,List.getElem_cons_succ,List.getElem_cons_zero,List.setIfInBounds_toArray,List.set_cons_zero,List.set_cons_succ]
    refine wpAnyH_take (i:=13) (v:=.int .i64 7) rfl (by kernel_rfl) (by kernel_rfl) (by kernel_rfl) (fun _ _ _ h => h) (Or.inl ⟨by rfl,fun wx hx => by simp [go_sem]⟩) hS ?_
    simp only [Act.put,List.getElem_toArray,List.getElem_cons_succ,List.getElem_cons_zero,List.setIfInBounds_toArray,List.set_cons_zero,List.set_cons_succ]
    refine wpAnyH_take (i:=14) (v:=va) rfl (by kernel_rfl) (by kernel_rfl) (by kernel_rfl) (fun _ _ _ h => h) (Or.inl ⟨by rfl,fun wx hx => by simp [go_sem]⟩) hS ?_
    simp only [Act.put,List.getElem_toArray,List.getElem_cons_succ,List.getElem_cons_zero,List.setIfInBounds_toArray,List.set_cons_zero,List.set_cons_succ]
    refine wpAnyH_take (i:=15) (v:=.int .i64 7) rfl (by kernel_rfl) (by kernel_rfl) (by kernel_rfl) (fun _ _ _ h => h) (Or.inl ⟨by rfl,fun wx hx => by simp [go_sem]⟩) hS ?_
    simp only [Act.put,List.getElem_toArray,List.getElem_cons_succ,List.getElem_cons_zero,List.setIfInBounds_toArray,List.set_cons_zero,List.set_cons_succ]
    refine wpAnyH_done (by kernel_rfl) ?_ _
    go_wp2_with fail
    go_ret
    exact ⟨rfl,HQ.out⟩
  · skip
    refine wpOp_vl 8 (.agg (cb way).toArray) y.drew rfl (by rfl) (hld _ _ rfl rfl) ⟨trivial,?_⟩
    simp only [Act.put,List.getElem_toArray,List.getElem_cons_succ,List.getElem_cons_zero,List.setIfInBounds_toArray,List.set_cons_zero,List.set_cons_succ]
    refine wpAnyH_step 4 (.slice (some ⟨b,off,none⟩) np cp) y.drew (by kernel_rfl) rfl (by rfl) (by simp [go_sem,hc0]) trivial ?_
    simp only [Act.put,List.getElem_toArray,List.getElem_cons_succ,List.getElem_cons_zero,List.setIfInBounds_toArray,List.set_cons_zero,List.set_cons_succ]
    refine wpAnyH_take (i:=6) (v:=.pointer (some ⟨b,off + i,none⟩)) rfl (by kernel_rfl) (by kernel_rfl) (by kernel_rfl) (fun _ _ _ h => h) (Or.inl ⟨by rfl,fun wx hx => by simp [go_sem,i0,i1]⟩) hS ?_
    simp only [Act.put,List.getElem_toArray,List.getElem_cons_succ,List.getElem_cons_zero,List.setIfInBounds_toArray,List.set_cons_zero,List.set_cons_succ]
    refine wpAnyH_step 7 (.slice aj nj cj) y.drew (by kernel_rfl) rfl (by rfl) (by simp [go_sem,hcr]) trivial ?_
    simp only [Act.put,List.getElem_toArray,List.getElem_cons_succ,List.getElem_cons_zero,List.setIfInBounds_toArray,List.set_cons_zero,List.set_cons_succ]
    refine wpAnyH_enter 10 (by kernel_rfl) rfl (by rfl) (f:=36) (args:=#[.pointer (some ⟨gr,0,none⟩),.slice aj nj cj,.agg (cb way).toArray,.int .i64 (d:Int)]) (by simp [go_sem]) (HC.out _ HB3.out) ?_
    rintro e wz ⟨va,ve,rfl,rfl,_,hq⟩
    refine ⟨_,rfl,trivial,?_⟩
    have HQ:Hid (Q wz):=hq
    clear hq hld hc0 hcr HI3 HG6e
    simp only [Act.put,List.getElem_toArray,List.getElem_cons_succ,List.getElem_cons_zero,List.setIfInBounds_toArray,List.set_cons_zero,List.set_cons_succ]
    refine wpAnyH_take (i:=11) (v:=.tuple #[va,.int .i64 7]) rfl (by kernel_rfl) (by kernel_rfl) (by kernel_rfl) (fun _ _ _ h => h) (Or.inl ⟨by rfl,fun wx hx => by simp [go_sem]⟩) hS ?_
    simp only [Act.put,List.getElem_toArray,List.getElem_cons_succ,List.getElem_cons_zero,List.setIfInBounds_toArray,List.set_cons_zero,List.set_cons_succ]
    refine wpAnyH_take (i:=12) (v:=va) rfl (by kernel_rfl) (by kernel_rfl) (by kernel_rfl) (fun _ _ _ h => h) (Or.inl ⟨by rfl,fun wx hx => by simp [go_sem]⟩) hS ?_
    simp only [Act.put,List.getElem_toArray,List.getElem_cons_succ,List.getElem_cons_zero,List.setIfInBounds_toArray,List.set_cons_zero,List.set_cons_succ]
    refine wpAnyH_take (i:=13) (v:=.int .i64 7) rfl (by kernel_rfl) (by kernel_rfl) (by kernel_rfl) (fun _ _ _ h => h) (Or.inl ⟨by rfl,fun wx hx => by simp [go_sem]⟩) hS ?_
    simp only [Act.put,List.getElem_toArray,List.getElem_cons_succ,List.getElem_cons_zero,List.setIfInBounds_toArray,List.set_cons_zero,List.set_cons_succ]
    refine wpAnyH_take (i:=14) (v:=va) rfl (by kernel_rfl) (by kernel_rfl) (by kernel_rfl) (fun _ _ _ h => h) (Or.inl ⟨by rfl,fun wx hx => by simp [go_sem]⟩) hS ?_
    simp only [Act.put,List.getElem_toArray,List.getElem_cons_succ,List.getElem_cons_zero,List.setIfInBounds_toArray,List.set_cons_zero,List.set_cons_succ]
    refine wpAnyH_take (i:=15) (v:=.int .i64 7) rfl (by kernel_rfl) (by kernel_rfl) (by kernel_rfl) (fun _ _ _ h => h) (Or.inl ⟨by rfl,fun wx hx => by simp [go_sem]⟩) hS ?_
    simp only [Act.put,List.getElem_toArray,List.getElem_cons_succ,List.getElem_cons_zero,List.setIfInBounds_toArray,List.set_cons_zero,List.set_cons_succ]
    refine wpAnyH_done (by kernel_rfl) ?_ _
    go_wp2_with fail
    go_ret
    exact ⟨rfl,HQ.out⟩
set_option maxHeartbeats 8000000 in
theorem pgLinked_ok (w0:World) (B gr gm:Nat) (ap:Option Addr) (np cp:Nat) (ps:List By) (k:Nat) (ai:Option Addr) (ni ci:Nat) (iv:Value) (la lv:List By) (vb:Value) (x rest way:By) (d:Nat) (w:World) (hI:RrI w0 B gr gm (.slice ap np cp) ps k (.slice ai ni ci) iv la lv w) (hni:ni = la.length) (hx:x.length = 32) (hway:way.length = 32) (hR:RdBb B w vb (x ++ rest)) (hl:rest.length < 10000) (hk:k < np) (hnp:np < 1000000) (k2:Nat) (la2 lv2:List By) (h2:la.length + 2 ≤ la2.length) (h3:la2.length < 1000000) 
    (hC:∀ W,RrI w0 B gr gm (.slice ap np cp) ps (k + 1) (.slice ai ni ci) iv la lv W → Calls Tryz.prog 19 #[.pointer (some ⟨gr,0,none⟩),.agg (cb x).toArray,.agg (cb way).toArray,.int .i64 (d:Int)] W fun e w' => e = .returned (.int .i64 0) ∧ ∃ ix' iv',RrI w0 B gr gm (.slice ap np cp) ps k2 ix' iv' la2 lv2 w' ∧ RdG gr (.slice ai ni ci) iv W ix' iv' w') :
    Calls Tryz.prog 59 #[.pointer (some ⟨gr,0,none⟩),vb,.agg (cb way).toArray,.int .i64 (d:Int)] w (Two fun a b w' => b = .int .i64 0 ∧ RdBb B w' a rest ∧ ∃ ix' iv',RrI w0 B gr gm (.slice ap np cp) ps k2 ix' iv' la2 lv2 w' ∧ RdG gr (.slice ai ni ci) iv w ix' iv' w'):=by
  have HI:Hid (RrI w0 B gr gm (.slice ap np cp) ps k (.slice ai ni ci) iv la lv w):=hI
  have HX:Hid (x.length = 32):=hx
  have HY:Hid (way.length = 32):=hway
  have HR:Hid (RdBb B w vb (x ++ rest)):=hR
  have HL:Hid (rest.length < 1000000):=Nat.lt_trans hl (by decide)
  obtain ⟨k1,HK1⟩:∃ z,Hid (z = k + 1):=⟨_,rfl⟩
  have rd:IntKind.i64.wrap ((k:Int) + 1) = (k1:Int):=by rw [IntKind.wrap_i64,HK1.out];omega
  have HC:Hid (∀ W,RrI w0 B gr gm (.slice ap np cp) ps k1 (.slice ai ni ci) iv la lv W → Calls Tryz.prog 19 #[.pointer (some ⟨gr,0,none⟩),.agg (cb x).toArray,.agg (cb way).toArray,.int .i64 (d:Int)] W fun e w' => e = .returned (.int .i64 0) ∧ ∃ ix' iv',RrI w0 B gr gm (.slice ap np cp) ps k2 ix' iv' la2 lv2 w' ∧ RdG gr (.slice ai ni ci) iv W ix' iv' w'):=by rw [HK1.out];exact hC
  have z1:¬ ((k:Int) = (np:Int)):=by omega
  have z1':((k:Int) == (np:Int)) = false:=by rw [beq_eq_false_iff_ne];exact z1
  have HNI:Hid (ni = la.length):=hni
  have HLE:Hid (2 < (rdC (.slice ap np cp) gm k (.slice ai ni ci) iv).length):=by show _ < _;simp [rdC]
  clear hI hx hway hR hl hC hni
  go_enter Tryz.func59,Tryz.ntmps59
  have tk0:Hid True:=trivial
  have tk1:Hid True:=trivial
  have tk2:Hid True:=trivial
  have tk3:Hid True:=trivial
  go_wp2_with (first
    | (clear tk0;with_reducible refine wpSeq_boxD (.tmp 2) way ?_ ?_ ?_ ?_
       · rfl
       · rfl
       · rfl
       intro g6 w1 nn
       have HBW:Hid (Below w.heap.size w w1):=nn.below
       have HG6:Hid (Blk w1 g6 (cb way) 39 ∧ w.heap.size ≤ g6):=⟨nn.blk,nn.ge⟩
       replace HR:Hid (RdBb B w1 vb (x ++ rest)):=⟨HR.out.1.below nn.below,HR.out.2⟩
       clear nn)
    | (clear tk1;go_at_call 86;refine (pgCut_any B vb x rest _ HX.out HR.out HL.out).mono ?_;rintro e w2 ⟨v1,rfl,hr,hb⟩
       have HR2:Hid (RdBb B w2 v1 rest):=hr
       replace HG6:Hid (Blk w2 g6 (cb way) 39 ∧ w.heap.size ≤ g6):=⟨HG6.out.1.below hb HG6.out.1.lt,HG6.out.2⟩
       replace HBW:Hid (Below w.heap.size w w2):=HBW.out.trans (hb.mono HBW.out.size)
       clear hr hb HR)
    | (clear tk2;with_reducible refine wpSeq_allocD ?_ ?_ ?_
       · rfl
       · rfl
       intro g10 w3 nn
       have HN3:Hid (Blk w3 g10 (cb zb32) 39 ∧ w2.heap.size ≤ g10 ∧ Below w2.heap.size w2 w3):=⟨nn.blk,nn.ge,nn.below⟩
       clear nn)
    | (clear tk3;with_reducible refine wpSeq_storeD (.tmp 10) (.tmp 17) g10 zb32 x zb32_len HX.out HN3.out.1 ?_ ?_ ?_ ?_ ?_
       · rfl
       · rfl
       · rfl
       · rfl
       intro w4 h9
       have hb:Below w2.heap.size w2 w4:=HN3.out.2.2.trans (h9.only.below HN3.out.2.1 HN3.out.2.2.size)
       have HG10:Hid (Blk w4 g10 (cb x) 39):=h9.blk
       replace HG6:Hid (Blk w4 g6 (cb way) 39 ∧ w.heap.size ≤ g6):=⟨HG6.out.1.below hb HG6.out.1.lt,HG6.out.2⟩
       replace HBW:Hid (Below w.heap.size w w4):=HBW.out.trans (hb.mono HBW.out.size)
       replace HR2:Hid (RdBb B w4 v1 rest):=⟨HR2.out.1.below hb,HR2.out.2⟩
       clear h9 hb HN3))
  have HI4:Hid (RrI w0 B gr gm (.slice ap np cp) ps k (.slice ai ni ci) iv la lv w4.drew):=(HI.out.next HBW.out).drew
  have HG10d:Hid (Blk w4.drew g10 (cb x) 39):=HG10.out
  have HG6d:Hid (Blk w4.drew g6 (cb way) 39):=HG6.out.1
  have HR4:Hid (RdBb B w4.drew v1 rest):=HR2.out
  have HBD:Hid (Below w.heap.size w w4.drew):=HBW.out.drew
  refine wp_region_held_drew (S:=fun W => W = w4.drew) (by kernel_rfl) rfl ?_
  intro hS
  obtain ⟨y,HYY⟩:∃ z,z = w4.drew:=⟨_,rfl⟩
  rw [← HYY] at HI4 HG10d HG6d HR4 HBD hS ⊢
  have hc2:y.cell? ⟨gr,2,none⟩ = some (.int .i64 (k:Int)):=HI4.out.blk.cell 2
  have hc0:y.cell? ⟨gr,0,none⟩ = some (.slice ap np cp):=HI4.out.blk.cell 0
  refine wpAnyH_take (i:=0) (v:=.pointer (some ⟨gr,0,none⟩)) rfl (by kernel_rfl) (by kernel_rfl) (by kernel_rfl) (fun _ _ _ h => h) (Or.inl ⟨by rfl,fun wx hx => by simp [go_sem]⟩) hS ?_
  simp only [Act.put,List.getElem_toArray,List.getElem_cons_zero,List.setIfInBounds_toArray,List.set_cons_zero,List.set_cons_succ]
  refine wpAnyH_take (i:=1) (v:=.pointer (some ⟨gr,0,none⟩)) rfl (by kernel_rfl) (by kernel_rfl) (by kernel_rfl) (fun _ _ _ h => h) (Or.inl ⟨by rfl,fun wx hx => by simp [go_sem]⟩) hS ?_
  simp only [Act.put,List.getElem_toArray,List.getElem_cons_succ,List.getElem_cons_zero,List.setIfInBounds_toArray,List.set_cons_zero,List.set_cons_succ]
  refine wpAnyH_take (i:=2) (v:=.pointer (some ⟨gr,2,none⟩)) rfl (by kernel_rfl) (by kernel_rfl) (by kernel_rfl) (fun _ _ _ h => h) (Or.inl ⟨by rfl,fun wx hx => by simp [go_sem]⟩) hS ?_
  simp only [Act.put,List.getElem_toArray,List.getElem_cons_succ,List.getElem_cons_zero,List.setIfInBounds_toArray,List.set_cons_zero,List.set_cons_succ]
  refine wpAnyH_take (i:=3) (v:=.int .i64 (k:Int)) rfl (by kernel_rfl) (by kernel_rfl) (by kernel_rfl) (fun _ _ _ h => h) (Or.inl ⟨by rfl,fun wx hx => by (rw [hx];simp [go_sem,hc2])⟩) hS ?_
  simp only [Act.put,List.getElem_toArray,List.getElem_cons_succ,List.getElem_cons_zero,List.setIfInBounds_toArray,List.set_cons_zero,List.set_cons_succ]
  refine wpAnyH_take (i:=4) (v:=.pointer (some ⟨gr,0,none⟩)) rfl (by kernel_rfl) (by kernel_rfl) (by kernel_rfl) (fun _ _ _ h => h) (Or.inl ⟨by rfl,fun wx hx => by simp [go_sem]⟩) hS ?_
  simp only [Act.put,List.getElem_toArray,List.getElem_cons_succ,List.getElem_cons_zero,List.setIfInBounds_toArray,List.set_cons_zero,List.set_cons_succ]
  refine wpAnyH_take (i:=5) (v:=.pointer (some ⟨gr,0,none⟩)) rfl (by kernel_rfl) (by kernel_rfl) (by kernel_rfl) (fun _ _ _ h => h) (Or.inl ⟨by rfl,fun wx hx => by simp [go_sem]⟩) hS ?_
  simp only [Act.put,List.getElem_toArray,List.getElem_cons_succ,List.getElem_cons_zero,List.setIfInBounds_toArray,List.set_cons_zero,List.set_cons_succ]
  refine wpAnyH_take (i:=6) (v:=.pointer (some ⟨gr,0,none⟩)) rfl (by kernel_rfl) (by kernel_rfl) (by kernel_rfl) (fun _ _ _ h => h) (Or.inl ⟨by rfl,fun wx hx => by simp [go_sem]⟩) hS ?_
  simp only [Act.put,List.getElem_toArray,List.getElem_cons_succ,List.getElem_cons_zero,List.setIfInBounds_toArray,List.set_cons_zero,List.set_cons_succ]
  refine wpAnyH_take (i:=7) (v:=.slice ap np cp) rfl (by kernel_rfl) (by kernel_rfl) (by kernel_rfl) (fun _ _ _ h => h) (Or.inl ⟨by rfl,fun wx hx => by (rw [hx];simp [go_sem,hc0])⟩) hS ?_
  simp only [Act.put,List.getElem_toArray,List.getElem_cons_succ,List.getElem_cons_zero,List.setIfInBounds_toArray,List.set_cons_zero,List.set_cons_succ]
  refine wpAnyH_take (i:=8) (v:=.int .i64 (np:Int)) rfl (by kernel_rfl) (by kernel_rfl) (by kernel_rfl) (fun _ _ _ h => h) (Or.inl ⟨by rfl,fun wx hx => by simp [go_sem]⟩) hS ?_
  simp only [Act.put,List.getElem_toArray,List.getElem_cons_succ,List.getElem_cons_zero,List.setIfInBounds_toArray,List.set_cons_zero,List.set_cons_succ]
  refine wpAnyH_take (i:=9) (v:=.bool false) rfl (by kernel_rfl) (by kernel_rfl) (by kernel_rfl) (fun _ _ _ h => h) (Or.inl ⟨by rfl,fun wx hx => by simp [go_sem,z1']⟩) hS ?_
  simp only [Act.put,List.getElem_toArray,List.getElem_cons_succ,List.getElem_cons_zero,List.setIfInBounds_toArray,List.set_cons_zero,List.set_cons_succ]
  refine wpAnyH_done (by kernel_rfl) ?_ _
  have hc3:y.cell? ⟨gr,3,none⟩ = some (.slice ai ni ci):=HI4.out.blk.cell 3
  clear hS HYY hc0 HI
  have tl0:Hid True:=trivial
  have tl1:Hid True:=trivial
  have tl2:Hid True:=trivial
  have tl3:Hid True:=trivial
  go_wp2_with (first
    | (clear tl0;with_reducible refine wpSeq_cellI (.tmp 38) (.tmp 36) gr 2 (rdC (.slice ap np cp) gm k (.slice ai ni ci) iv) (k1:Int) 58 HLE.out HI4.out.blk ?_ ?_ ?_ ?_ ?_
       · rfl
       · rfl
       · rfl
       · rfl
       intro w5 hb5 ho5
       have HI5:Hid (RrI w0 B gr gm (.slice ap np cp) ps k1 (.slice ai ni ci) iv la lv w5):=HI4.out.turn hb5 ho5
       have HG5:Hid (RdG gr (.slice ai ni ci) iv w (.slice ai ni ci) iv w5):=(RdG.below HBD.out).trans (RdG.only ho5)
       have hgr:∀ (g:Nat) (cs:List Value),Blk y g cs 39 → g ≠ gr:=fun g cs hb e => by have h1:=HI4.out.blk;rw [e] at hb;unfold Blk at h1 hb;rw [h1] at hb;simp only [Option.some.injEq,Obj.cells.injEq] at hb;exact absurd hb.2.1 (by decide)
       have HG10e:Hid (Blk w5 g10 (cb x) 39):=HG10d.out.only ho5 (hgr _ _ HG10d.out)
       have HG6e:Hid (Blk w5 g6 (cb way) 39):=HG6d.out.only ho5 (hgr _ _ HG6d.out)
       have HR5:Hid (RdBb B w5 v1 rest):=HR4.out.go (ho5.below HI4.out.gg HI4.out.ge)
       have hc35:w5.cell? ⟨gr,3,none⟩ = some (.slice ai ni ci):=HI5.out.blk.cell 3
       clear hb5 ho5 hgr)
    | (clear tl1;with_reducible refine wpSeq_loadD (.tmp 10) g10 x HX.out HG10e.out ?_ ?_ ?_ ?_
       · rfl
       · rfl
       · rfl
       have HQ1:Hid True:=trivial)
    | (clear tl2;with_reducible refine wpSeq_loadD (.tmp 6) g6 way HY.out HG6e.out ?_ ?_ ?_ ?_
       · rfl
       · rfl
       · rfl
       have HQ2:Hid True:=trivial)
    | (clear tl3;go_at_call 19;refine (HC.out _ HI5.out).mono ?_;rintro e w6 ⟨rfl,ix',iv',hi6,hg6⟩
       have hr6:RdBb B w6 v1 rest:=HR5.out.go (hg6.belowB HI5.out)
       have HI6:Hid (RrI w0 B gr gm (.slice ap np cp) ps k2 ix' iv' la2 lv2 w6):=hi6
       have HG6f:Hid (RdG gr (.slice ai ni ci) iv w ix' iv' w6):=HG5.out.trans hg6
       have HR6:Hid (RdBb B w6 v1 rest):=hr6
       obtain ⟨ai2,ci2,hix⟩:=hi6.oi.slice
       obtain ⟨ni2,HNI2⟩:∃ z:Nat,Hid (z = la2.length):=⟨_,rfl⟩
       rw [← HNI2.out] at hix
       obtain ⟨dl,HDL⟩:∃ z:Nat,Hid (z = ni2 - ni):=⟨_,rfl⟩
       have rd2:IntKind.i64.wrap ((ni2:Int) - (ni:Int)) = (dl:Int):=by rw [IntKind.wrap_i64,HDL.out];have:=HNI.out;have:=HNI2.out;omega
       have z2:¬ ((dl:Int) < 2):=by have:=HDL.out;have:=HNI.out;have:=HNI2.out;omega
       have hc36:w6.cell? ⟨gr,3,none⟩ = some (.slice ai2 ni2 ci2):=by rw [← hix];exact hi6.blk.cell 3
       clear hi6 hg6 hr6 hix hc35))
  refine bodyPost_ret (results_tmp2 rfl _ _ _) rfl ?_
  exact ⟨v1,_,rfl,rfl,HR6.out,ix',iv',HI6.out,HG6f.out⟩
set_option maxHeartbeats 8000000 in
theorem pgLinked_no (w0:World) (B gr gm:Nat) (ap:Option Addr) (np cp:Nat) (ps:List By) (k:Nat) (ai:Option Addr) (ni ci:Nat) (iv:Value) (la lv:List By) (vb:Value) (x rest way:By) (d:Nat) (w:World) (hI:RrI w0 B gr gm (.slice ap np cp) ps k (.slice ai ni ci) iv la lv w) (hni:ni = la.length) (hx:x.length = 32) (hway:way.length = 32) (hR:RdBb B w vb (x ++ rest)) (hl:rest.length < 10000) (hk:k < np) (hnp:np < 1000000) 
    (hC:∀ W,RrI w0 B gr gm (.slice ap np cp) ps (k + 1) (.slice ai ni ci) iv la lv W → Calls Tryz.prog 19 #[.pointer (some ⟨gr,0,none⟩),.agg (cb x).toArray,.agg (cb way).toArray,.int .i64 (d:Int)] W fun e w' => e = .returned (.int .i64 7) ∧ Below B w0 w') :
    Calls Tryz.prog 59 #[.pointer (some ⟨gr,0,none⟩),vb,.agg (cb way).toArray,.int .i64 (d:Int)] w (Two fun _ b w' => b = .int .i64 7 ∧ Below B w0 w'):=by
  have HI:Hid (RrI w0 B gr gm (.slice ap np cp) ps k (.slice ai ni ci) iv la lv w):=hI
  have HX:Hid (x.length = 32):=hx
  have HY:Hid (way.length = 32):=hway
  have HR:Hid (RdBb B w vb (x ++ rest)):=hR
  have HL:Hid (rest.length < 1000000):=Nat.lt_trans hl (by decide)
  obtain ⟨k1,HK1⟩:∃ z,Hid (z = k + 1):=⟨_,rfl⟩
  have rd:IntKind.i64.wrap ((k:Int) + 1) = (k1:Int):=by rw [IntKind.wrap_i64,HK1.out];omega
  have HC:Hid (∀ W,RrI w0 B gr gm (.slice ap np cp) ps k1 (.slice ai ni ci) iv la lv W → Calls Tryz.prog 19 #[.pointer (some ⟨gr,0,none⟩),.agg (cb x).toArray,.agg (cb way).toArray,.int .i64 (d:Int)] W fun e w' => e = .returned (.int .i64 7) ∧ Below B w0 w'):=by rw [HK1.out];exact hC
  have z1:¬ ((k:Int) = (np:Int)):=by omega
  have z1':((k:Int) == (np:Int)) = false:=by rw [beq_eq_false_iff_ne];exact z1
  have HNI:Hid (ni = la.length):=hni
  have HLE:Hid (2 < (rdC (.slice ap np cp) gm k (.slice ai ni ci) iv).length):=by show _ < _;simp [rdC]
  clear hI hx hway hR hl hC hni
  go_enter Tryz.func59,Tryz.ntmps59
  have tk0:Hid True:=trivial
  have tk1:Hid True:=trivial
  have tk2:Hid True:=trivial
  have tk3:Hid True:=trivial
  go_wp2_with (first
    | (clear tk0;with_reducible refine wpSeq_boxD (.tmp 2) way ?_ ?_ ?_ ?_
       · rfl
       · rfl
       · rfl
       intro g6 w1 nn
       have HBW:Hid (Below w.heap.size w w1):=nn.below
       have HG6:Hid (Blk w1 g6 (cb way) 39 ∧ w.heap.size ≤ g6):=⟨nn.blk,nn.ge⟩
       replace HR:Hid (RdBb B w1 vb (x ++ rest)):=⟨HR.out.1.below nn.below,HR.out.2⟩
       clear nn)
    | (clear tk1;go_at_call 86;refine (pgCut_any B vb x rest _ HX.out HR.out HL.out).mono ?_;rintro e w2 ⟨v1,rfl,hr,hb⟩
       have HR2:Hid (RdBb B w2 v1 rest):=hr
       replace HG6:Hid (Blk w2 g6 (cb way) 39 ∧ w.heap.size ≤ g6):=⟨HG6.out.1.below hb HG6.out.1.lt,HG6.out.2⟩
       replace HBW:Hid (Below w.heap.size w w2):=HBW.out.trans (hb.mono HBW.out.size)
       clear hr hb HR)
    | (clear tk2;with_reducible refine wpSeq_allocD ?_ ?_ ?_
       · rfl
       · rfl
       intro g10 w3 nn
       have HN3:Hid (Blk w3 g10 (cb zb32) 39 ∧ w2.heap.size ≤ g10 ∧ Below w2.heap.size w2 w3):=⟨nn.blk,nn.ge,nn.below⟩
       clear nn)
    | (clear tk3;with_reducible refine wpSeq_storeD (.tmp 10) (.tmp 17) g10 zb32 x zb32_len HX.out HN3.out.1 ?_ ?_ ?_ ?_ ?_
       · rfl
       · rfl
       · rfl
       · rfl
       intro w4 h9
       have hb:Below w2.heap.size w2 w4:=HN3.out.2.2.trans (h9.only.below HN3.out.2.1 HN3.out.2.2.size)
       have HG10:Hid (Blk w4 g10 (cb x) 39):=h9.blk
       replace HG6:Hid (Blk w4 g6 (cb way) 39 ∧ w.heap.size ≤ g6):=⟨HG6.out.1.below hb HG6.out.1.lt,HG6.out.2⟩
       replace HBW:Hid (Below w.heap.size w w4):=HBW.out.trans (hb.mono HBW.out.size)
       replace HR2:Hid (RdBb B w4 v1 rest):=⟨HR2.out.1.below hb,HR2.out.2⟩
       clear h9 hb HN3))
  have HI4:Hid (RrI w0 B gr gm (.slice ap np cp) ps k (.slice ai ni ci) iv la lv w4.drew):=(HI.out.next HBW.out).drew
  have HG10d:Hid (Blk w4.drew g10 (cb x) 39):=HG10.out
  have HG6d:Hid (Blk w4.drew g6 (cb way) 39):=HG6.out.1
  have HR4:Hid (RdBb B w4.drew v1 rest):=HR2.out
  have HBD:Hid (Below w.heap.size w w4.drew):=HBW.out.drew
  refine wp_region_held_drew (S:=fun W => W = w4.drew) (by kernel_rfl) rfl ?_
  intro hS
  obtain ⟨y,HYY⟩:∃ z,z = w4.drew:=⟨_,rfl⟩
  rw [← HYY] at HI4 HG10d HG6d HR4 HBD hS ⊢
  have hc2:y.cell? ⟨gr,2,none⟩ = some (.int .i64 (k:Int)):=HI4.out.blk.cell 2
  have hc0:y.cell? ⟨gr,0,none⟩ = some (.slice ap np cp):=HI4.out.blk.cell 0
  refine wpAnyH_take (i:=0) (v:=.pointer (some ⟨gr,0,none⟩)) rfl (by kernel_rfl) (by kernel_rfl) (by kernel_rfl) (fun _ _ _ h => h) (Or.inl ⟨by rfl,fun wx hx => by simp [go_sem]⟩) hS ?_
  simp only [Act.put,List.getElem_toArray,List.getElem_cons_zero,List.setIfInBounds_toArray,List.set_cons_zero,List.set_cons_succ]
  refine wpAnyH_take (i:=1) (v:=.pointer (some ⟨gr,0,none⟩)) rfl (by kernel_rfl) (by kernel_rfl) (by kernel_rfl) (fun _ _ _ h => h) (Or.inl ⟨by rfl,fun wx hx => by simp [go_sem]⟩) hS ?_
  simp only [Act.put,List.getElem_toArray,List.getElem_cons_succ,List.getElem_cons_zero,List.setIfInBounds_toArray,List.set_cons_zero,List.set_cons_succ]
  refine wpAnyH_take (i:=2) (v:=.pointer (some ⟨gr,2,none⟩)) rfl (by kernel_rfl) (by kernel_rfl) (by kernel_rfl) (fun _ _ _ h => h) (Or.inl ⟨by rfl,fun wx hx => by simp [go_sem]⟩) hS ?_
  simp only [Act.put,List.getElem_toArray,List.getElem_cons_succ,List.getElem_cons_zero,List.setIfInBounds_toArray,List.set_cons_zero,List.set_cons_succ]
  refine wpAnyH_take (i:=3) (v:=.int .i64 (k:Int)) rfl (by kernel_rfl) (by kernel_rfl) (by kernel_rfl) (fun _ _ _ h => h) (Or.inl ⟨by rfl,fun wx hx => by (rw [hx];simp [go_sem,hc2])⟩) hS ?_
  simp only [Act.put,List.getElem_toArray,List.getElem_cons_succ,List.getElem_cons_zero,List.setIfInBounds_toArray,List.set_cons_zero,List.set_cons_succ]
  refine wpAnyH_take (i:=4) (v:=.pointer (some ⟨gr,0,none⟩)) rfl (by kernel_rfl) (by kernel_rfl) (by kernel_rfl) (fun _ _ _ h => h) (Or.inl ⟨by rfl,fun wx hx => by simp [go_sem]⟩) hS ?_
  simp only [Act.put,List.getElem_toArray,List.getElem_cons_succ,List.getElem_cons_zero,List.setIfInBounds_toArray,List.set_cons_zero,List.set_cons_succ]
  refine wpAnyH_take (i:=5) (v:=.pointer (some ⟨gr,0,none⟩)) rfl (by kernel_rfl) (by kernel_rfl) (by kernel_rfl) (fun _ _ _ h => h) (Or.inl ⟨by rfl,fun wx hx => by simp [go_sem]⟩) hS ?_
  simp only [Act.put,List.getElem_toArray,List.getElem_cons_succ,List.getElem_cons_zero,List.setIfInBounds_toArray,List.set_cons_zero,List.set_cons_succ]
  refine wpAnyH_take (i:=6) (v:=.pointer (some ⟨gr,0,none⟩)) rfl (by kernel_rfl) (by kernel_rfl) (by kernel_rfl) (fun _ _ _ h => h) (Or.inl ⟨by rfl,fun wx hx => by simp [go_sem]⟩) hS ?_
  simp only [Act.put,List.getElem_toArray,List.getElem_cons_succ,List.getElem_cons_zero,List.setIfInBounds_toArray,List.set_cons_zero,List.set_cons_succ]
  refine wpAnyH_take (i:=7) (v:=.slice ap np cp) rfl (by kernel_rfl) (by kernel_rfl) (by kernel_rfl) (fun _ _ _ h => h) (Or.inl ⟨by rfl,fun wx hx => by (rw [hx];simp [go_sem,hc0])⟩) hS ?_
  simp only [Act.put,List.getElem_toArray,List.getElem_cons_succ,List.getElem_cons_zero,List.setIfInBounds_toArray,List.set_cons_zero,List.set_cons_succ]
  refine wpAnyH_take (i:=8) (v:=.int .i64 (np:Int)) rfl (by kernel_rfl) (by kernel_rfl) (by kernel_rfl) (fun _ _ _ h => h) (Or.inl ⟨by rfl,fun wx hx => by simp [go_sem]⟩) hS ?_
  simp only [Act.put,List.getElem_toArray,List.getElem_cons_succ,List.getElem_cons_zero,List.setIfInBounds_toArray,List.set_cons_zero,List.set_cons_succ]
  refine wpAnyH_take (i:=9) (v:=.bool false) rfl (by kernel_rfl) (by kernel_rfl) (by kernel_rfl) (fun _ _ _ h => h) (Or.inl ⟨by rfl,fun wx hx => by simp [go_sem,z1']⟩) hS ?_
  simp only [Act.put,List.getElem_toArray,List.getElem_cons_succ,List.getElem_cons_zero,List.setIfInBounds_toArray,List.set_cons_zero,List.set_cons_succ]
  refine wpAnyH_done (by kernel_rfl) ?_ _
  have hc3:y.cell? ⟨gr,3,none⟩ = some (.slice ai ni ci):=HI4.out.blk.cell 3
  clear hS HYY hc0 HI
  have tl0:Hid True:=trivial
  have tl1:Hid True:=trivial
  have tl2:Hid True:=trivial
  have tl3:Hid True:=trivial
  go_wp2_with (first
    | (clear tl0;with_reducible refine wpSeq_cellI (.tmp 38) (.tmp 36) gr 2 (rdC (.slice ap np cp) gm k (.slice ai ni ci) iv) (k1:Int) 58 HLE.out HI4.out.blk ?_ ?_ ?_ ?_ ?_
       · rfl
       · rfl
       · rfl
       · rfl
       intro w5 hb5 ho5
       have HI5:Hid (RrI w0 B gr gm (.slice ap np cp) ps k1 (.slice ai ni ci) iv la lv w5):=HI4.out.turn hb5 ho5
       have HG5:Hid (RdG gr (.slice ai ni ci) iv w (.slice ai ni ci) iv w5):=(RdG.below HBD.out).trans (RdG.only ho5)
       have hgr:∀ (g:Nat) (cs:List Value),Blk y g cs 39 → g ≠ gr:=fun g cs hb e => by have h1:=HI4.out.blk;rw [e] at hb;unfold Blk at h1 hb;rw [h1] at hb;simp only [Option.some.injEq,Obj.cells.injEq] at hb;exact absurd hb.2.1 (by decide)
       have HG10e:Hid (Blk w5 g10 (cb x) 39):=HG10d.out.only ho5 (hgr _ _ HG10d.out)
       have HG6e:Hid (Blk w5 g6 (cb way) 39):=HG6d.out.only ho5 (hgr _ _ HG6d.out)
       have HR5:Hid (RdBb B w5 v1 rest):=HR4.out.go (ho5.below HI4.out.gg HI4.out.ge)
       have hc35:w5.cell? ⟨gr,3,none⟩ = some (.slice ai ni ci):=HI5.out.blk.cell 3
       clear hb5 ho5 hgr)
    | (clear tl1;with_reducible refine wpSeq_loadD (.tmp 10) g10 x HX.out HG10e.out ?_ ?_ ?_ ?_
       · rfl
       · rfl
       · rfl
       have HQ1:Hid True:=trivial)
    | (clear tl2;with_reducible refine wpSeq_loadD (.tmp 6) g6 way HY.out HG6e.out ?_ ?_ ?_ ?_
       · rfl
       · rfl
       · rfl
       have HQ2:Hid True:=trivial)
    | (clear tl3;go_at_call 19;refine (HC.out _ HI5.out).mono ?_;rintro e w6 ⟨rfl,hb6⟩
       have HB6:Hid (Below B w0 w6):=hb6
       clear hb6))
  refine bodyPost_ret (results_tmp2 rfl _ _ _) rfl ?_
  exact ⟨v1,_,rfl,rfl,HB6.out⟩
end Go.Proofs.YtphmmnffgknkcaaGreatDoor
namespace Go.Proofs.YtphmmnffgknkcaaGreatDoor
open Go.RowKit
set_option maxRecDepth 100000
def PsM (w0:World) (B:Nat) (ap:Option Addr) (ps:List By):Prop:=∀ W,Below B w0 W → ∀ i,i < ps.length → 0 < (ps.getD i []).length → ∃ b off vj,ap = some ⟨b,off,none⟩ ∧ W.cell? ⟨b,off + i,none⟩ = some vj ∧ RdBb B W vj (ps.getD i [])
section
variable (w0:World) (B gr gm:Nat) (ap:Option Addr) (cp:Nat) (ps:List By)
def OkQ (k:Nat) (ix iv:Value) (la lv:List By) (w:World) (S:List By) (l:List Lf) (rest:By) (a b:Value) (w':World):Prop:=
  b = .int .i64 0 ∧ RdBb B w' a rest ∧ ∃ ix' iv',RrI w0 B gr gm (.slice ap ps.length cp) ps (k + S.length) ix' iv' (la ++ l.map (·.1)) (lv ++ l.map (·.2)) w' ∧ RdG gr ix iv w ix' iv' w'
def NoQ (_ b:Value) (w':World):Prop:=b = .int .i64 7 ∧ Below B w0 w'
def PcD (d:Nat) (l:List Lf) (t:By) (S:List By):Prop:=
  ∀ (k:Nat) (ix iv:Value) (la lv:List By) (vb:Value) (rest way:By) (w:World),RrI w0 B gr gm (.slice ap ps.length cp) ps k ix iv la lv w → WyP way d l → RdBb B w vb (t ++ rest) → Free ps S → k + S.length ≤ ps.length → (t ++ rest).length ≤ 600 → la.length + l.length < 100000 → lv.length + l.length < 100000 →
    ((∀ p ∈ S,p ∈ ps) → Calls Tryz.prog 36 #[.pointer (some ⟨gr,0,none⟩),vb,.agg (cb way).toArray,.int .i64 (d:Int)] w (Two (OkQ w0 B gr gm ap cp ps k ix iv la lv w S l rest)))
    ∧ ((¬ ∀ p ∈ S,p ∈ ps) → Calls Tryz.prog 36 #[.pointer (some ⟨gr,0,none⟩),vb,.agg (cb way).toArray,.int .i64 (d:Int)] w (Two (NoQ w0 B)))
end
theorem two_mono {Q Q':Value → Value → World → Prop} (h:∀ a b w,Q a b w → Q' a b w) (e:Ending) (w:World) (ht:Two Q e w):Two Q' e w:=by
  obtain ⟨a,b,h1,h2⟩:=ht
  exact ⟨a,b,h1,h a b w h2⟩
theorem RdBb.nextP {B:Nat} {w w':World} {v:Value} {t:By} (h:RdBb B w v t) (hb:Below w.heap.size w w'):RdBb B w' v t:=⟨h.1.below hb,h.2⟩
theorem RdG.from {gr:Nat} {ix iv ix' iv':Value} {w w1 w':World} (hb:Below w.heap.size w w1) (h:RdG gr ix iv w1 ix' iv' w'):RdG gr ix iv w ix' iv' w':=(RdG.below hb).trans h
section
variable {w0:World} {B gr gm:Nat} {ap:Option Addr} {cp:Nat} {ps:List By}
theorem pc_few (d:Nat) (l:List Lf) (hF:Fits l d) (hd:d ≤ 256) (h2:l.length < 2):PcD w0 B gr gm ap cp ps d l (oneP1 l) []:=by
  intro k ix iv la lv vb rest way w hi hy hr hf hk hs hl1 hl2
  refine ⟨fun _ => ?_,fun h => absurd (fun p hp => by cases hp) h⟩
  match l,h2,hF,hy,hr,hl1,hl2 with
  | [],_,_,hy,hr,_,_ =>
    refine (pgRPiece_none B gr vb rest way d w hd hr).mono (two_mono fun a b w' => ?_)
    rintro ⟨h1,h2,h3⟩
    refine ⟨h1,h2,ix,iv,?_,RdG.below h3⟩
    have:=hi.next h3
    simpa using this
  | [p],_,hF,hy,hr,hl1,hl2 =>
    have hp:=hF.1 p (by simp)
    obtain ⟨ai,ci,hix⟩:=hi.oi.slice
    obtain ⟨av,cv,hiv⟩:=hi.ov.slice
    subst hix
    subst hiv
    refine pgRPiece_1 B gr vb ((p.1 ++ p.2) ++ rest) way d w _ hd hy.len hr fun v1 W hW h1 => ?_
    have hun:=hy.under hd (p:=p) (by simp)
    simp only [List.length_append,oneP1,List.length_cons] at hs
    rw [List.append_assoc] at h1
    simp only [List.length_cons,List.length_nil] at hl1 hl2
    refine (pgLeaf_any w0 B gr gm _ ps k ai av la.length ci lv.length cv la lv v1 p.1 p.2 rest way d W (hi.next hW) hp.1 hp.2 hy.len hun h1 (by omega) (by omega) (by omega)).mono ?_
    rintro e w' ⟨vr,ix',iv',rfl,hr',hi',hg'⟩
    exact ⟨vr,_,rfl,rfl,hr',ix',iv',hi',hg'.from hW⟩
theorem pc_two (d:Nat) (l:List Lf) (t0 t1:By) (S0 S1:List By) (hF:Fits l d) (h2:2 ≤ l.length) (ih0:PcD w0 B gr gm ap cp ps (d + 1) (halfL l d false) t0 S0) (ih1:PcD w0 B gr gm ap cp ps (d + 1) (halfL l d true) t1 S1):PcD w0 B gr gm ap cp ps d l (2 :: (t0 ++ t1)) (S0 ++ S1):=by
  intro k ix iv la lv vb rest way w hi hy hr hf hk hs hl1 hl2
  have hd:=hF.lt h2
  have hlen:=half_len hF
  have hord:=half_order hF
  rw [List.length_append] at hk
  simp only [List.length_append,List.length_cons] at hs
  have hr':RdBb B w vb (2 :: (t0 ++ (t1 ++ rest))):=by rw [← List.append_assoc];exact hr
  have hf0:Free ps S0:=fun p hp => hf p (List.mem_append_left _ hp)
  have hf1:Free ps S1:=fun p hp => hf p (List.mem_append_right _ hp)
  have A0:∀ v1 W,Below w.heap.size w W → RdBb B W v1 (t0 ++ (t1 ++ rest)) → ∀ W',Below W.heap.size W W' → _:=fun v1 W hW h1 W' hW' =>
    ih0 k ix iv la lv v1 (t1 ++ rest) way W' ((hi.next hW).next hW') (hy.left hd) (h1.nextP hW') hf0 (by omega) (by rw [List.length_append,List.length_append];omega) (by omega) (by omega)
  have A1:∀ (a:Value) (i1 v1:Value) (w1 W:World),RdBb B w1 a (t1 ++ rest) → RrI w0 B gr gm (.slice ap ps.length cp) ps (k + S0.length) i1 v1 (la ++ (halfL l d false).map (·.1)) (lv ++ (halfL l d false).map (·.2)) w1 → Below w1.heap.size w1 W → _:=fun a i1 v1 w1 W h1 h3 hW =>
    ih1 (k + S0.length) i1 v1 _ _ a rest (setI way (d:Int) true) W (h3.next hW) (hy.right hd) (h1.nextP hW) hf1 (by omega) (by rw [List.length_append];omega) (by rw [List.length_append,List.length_map];omega) (by rw [List.length_append,List.length_map];omega)
  -- the first side's outcome, with its box beside it
  have hbox:∀ (W1 W w':World) (i1 v1:Value) (g:Nat),Below w.heap.size w W1 → Below W1.heap.size W1 W → W1.heap.size ≤ g → Blk W g (cb way) 39 → RdG gr ix iv W i1 v1 w' → Blk w' g (cb way) 39:=fun W1 W w' i1 v1 g hW1 hW hg hb hG => by
    have hiW:=(hi.next hW1).next hW
    refine hG.blk hb (fun e => ?_) (fun e => ?_) (fun e => ?_)
    · have h1:=hiW.blk
      rw [e] at hb
      unfold Blk at h1 hb
      rw [h1] at hb
      simp only [Option.some.injEq,Obj.cells.injEq] at hb
      exact absurd hb.2.1 (by decide)
    · have h3:=(hi.oi.lt g e).2;have h4:=hW1.size;omega
    · have h3:=(hi.ov.lt g e).2;have h4:=hW1.size;omega
  refine ⟨fun hS => ?_,fun hS => ?_⟩
  · have hS0:∀ p ∈ S0,p ∈ ps:=fun p hp => hS p (List.mem_append_left _ hp)
    have hS1:∀ p ∈ S1,p ∈ ps:=fun p hp => hS p (List.mem_append_right _ hp)
    refine pgRPiece_2 B gr vb _ way d w _ (by omega) hy.len hr' fun v1 W1 hW1 h1 => ?_
    refine pgSides_ok gr v1 way d W1 (fun a w1 => ∃ i1 u1,RdBb B w1 a (t1 ++ rest) ∧ RrI w0 B gr gm (.slice ap ps.length cp) ps (k + S0.length) i1 u1 (la ++ (halfL l d false).map (·.1)) (lv ++ (halfL l d false).map (·.2)) w1 ∧ RdG gr ix iv w i1 u1 w1) _ (by omega) hy.len (fun W hW => ?_) (fun a w1 W hP hW => ?_)
    · refine ((A0 v1 W1 hW1 h1 W hW).1 hS0).mono (two_mono fun a b w' => ?_)
      rintro ⟨e1,e2,i1,u1,e3,e4⟩
      exact ⟨e1,⟨i1,u1,e2,e3,(e4.from hW).from hW1⟩,fun g hg hb => hbox W1 W w' i1 u1 g hW1 hW hg hb e4⟩
    · obtain ⟨i1,u1,e2,e3,e4⟩:=hP
      refine ((A1 a i1 u1 w1 W e2 e3 hW).1 hS1).mono (two_mono fun a' b' w' => ?_)
      rintro ⟨f1,f2,i2,u2,f3,f4⟩
      refine ⟨f1,f2,i2,u2,?_,e4.trans (f4.from hW)⟩
      rw [List.length_append,← Nat.add_assoc]
      rw [hord,List.map_append,List.map_append,← List.append_assoc,← List.append_assoc]
      exact f3
  · by_cases hS0:∀ p ∈ S0,p ∈ ps
    · have hS1:¬ ∀ p ∈ S1,p ∈ ps:=fun h => hS fun p hp => (List.mem_append.1 hp).elim (hS0 p) (h p)
      refine pgRPiece_2 B gr vb _ way d w _ (by omega) hy.len hr' fun v1 W1 hW1 h1 => ?_
      refine pgSides_ok gr v1 way d W1 (fun a w1 => ∃ i1 u1,RdBb B w1 a (t1 ++ rest) ∧ RrI w0 B gr gm (.slice ap ps.length cp) ps (k + S0.length) i1 u1 (la ++ (halfL l d false).map (·.1)) (lv ++ (halfL l d false).map (·.2)) w1) _ (by omega) hy.len (fun W hW => ?_) (fun a w1 W hP hW => ?_)
      · refine ((A0 v1 W1 hW1 h1 W hW).1 hS0).mono (two_mono fun a b w' => ?_)
        rintro ⟨e1,e2,i1,u1,e3,e4⟩
        exact ⟨e1,⟨i1,u1,e2,e3⟩,fun g hg hb => hbox W1 W w' i1 u1 g hW1 hW hg hb e4⟩
      · obtain ⟨i1,u1,e2,e3⟩:=hP
        exact (A1 a i1 u1 w1 W e2 e3 hW).2 hS1
    · refine pgRPiece_2 B gr vb _ way d w _ (by omega) hy.len hr' fun v1 W1 hW1 h1 => ?_
      exact pgSides_no gr v1 way d W1 (Below B w0) (by omega) hy.len fun W hW => (A0 v1 W1 hW1 h1 W hW).2 hS0
theorem pc_link (hM:PsM w0 B ap ps) (hn:ps.length < 1000000) (d:Nat) (l:List Lf) (t:By) (S:List By) (h2:2 ≤ l.length) (ht:t.length ≤ 512) (hp:Pc d l t S) (ih:PcD w0 B gr gm ap cp ps d l t S):PcD w0 B gr gm ap cp ps d l (3 :: dig t) (t :: S):=by
  intro k ix iv la lv vb rest way w hi hy hr hf hk hs hl1 hl2
  have hd:=hp.fits.lt h2
  rw [List.length_cons] at hk
  simp only [List.length_append,List.length_cons] at hs
  obtain ⟨ai,ci,hix⟩:=hi.oi.slice
  subst hix
  have hfS:Free ps S:=fun p hp => hf p (List.mem_cons_of_mem _ hp)
  have hft:=plK_find (ps:=ps) (t:=t) (hf t (by simp))
  have hpos:=hp.pos
  -- the page's own reading
  have IH:∀ (i:Nat) (vj:Value) (W W':World),RrI w0 B gr gm (.slice ap ps.length cp) ps (k + 1) (.slice ai la.length ci) iv la lv W → RdBb B W vj t → Below W.heap.size W W' → _:=fun i vj W W' h1 h3 hW =>
    ih (k + 1) (.slice ai la.length ci) iv la lv vj [] way W' (h1.next hW) hy (by rw [List.append_nil];exact h3.nextP hW) hfS (by omega) (by rw [List.append_nil];omega) hl1 hl2
  refine ⟨fun hS => ?_,fun hS => ?_⟩
  · have hin:t ∈ ps:=hS t (by simp)
    have hSS:∀ p ∈ S,p ∈ ps:=fun p hp => hS p (List.mem_cons_of_mem _ hp)
    obtain ⟨_,i,hpl,hil,hit⟩:=hft.resolve_right (fun h => h.1 hin)
    refine pgRPiece_3 B gr vb (dig t ++ rest) way d w _ (by omega) hy.len hr fun v1 W1 hW1 h1 => ?_
    refine (pgLinked_ok w0 B gr gm ap ps.length cp ps k ai la.length ci iv la lv v1 (dig t) rest way d W1 (hi.next hW1) rfl (len_dig' _) hy.len h1 (by omega) (by omega) hn (k + 1 + S.length) (la ++ l.map (·.1)) (lv ++ l.map (·.2)) (by rw [List.length_append,List.length_map];omega) (by rw [List.length_append,List.length_map];omega) fun W hW => ?_).mono (two_mono fun a b w' => ?_)
    · obtain ⟨b,off,vj,hap,hrow,hrd⟩:=hM W hW.bel i hil (by rw [hit];exact hpos)
      rw [hit] at hrd
      obtain ⟨bj,oj,cj,hvj,_⟩:=hrd.at hpos
      refine pgPage_ok w0 B gr gm ap ps.length cp ps (k + 1) _ iv la lv (dig t) way d W hW (len_dig' _) hy.len i b off vj (fun w' => ∃ ix' iv',RrI w0 B gr gm (.slice ap ps.length cp) ps (k + 1 + S.length) ix' iv' (la ++ l.map (·.1)) (lv ++ l.map (·.2)) w' ∧ RdG gr (.slice ai la.length ci) iv W ix' iv' w') hpl hil hap hrow ⟨_,_,_,hvj⟩ fun W' hW' => ?_
      refine ((IH i vj W W' hW hrd hW').1 hSS).mono (two_mono fun a b w' => ?_)
      rintro ⟨e1,e2,ix',iv',e3,e4⟩
      obtain ⟨ad,c,e5,_⟩:=e2.1
      exact ⟨e1,⟨ad,c,e5⟩,ix',iv',e3,e4.from hW'⟩
    · rintro ⟨e1,e2,ix',iv',e3,e4⟩
      refine ⟨e1,e2,ix',iv',?_,e4.from hW1⟩
      rw [List.length_cons,show k + (S.length + 1) = k + 1 + S.length by omega]
      exact e3
  · refine pgRPiece_3 B gr vb (dig t ++ rest) way d w _ (by omega) hy.len hr fun v1 W1 hW1 h1 => ?_
    refine pgLinked_no w0 B gr gm ap ps.length cp ps k ai la.length ci iv la lv v1 (dig t) rest way d W1 (hi.next hW1) rfl (len_dig' _) hy.len h1 (by omega) (by omega) hn fun W hW => ?_
    rcases hft with ⟨hin,i,hpl,hil,hit⟩ | ⟨hin,hpl⟩
    · have hSS:¬ ∀ p ∈ S,p ∈ ps:=fun h => hS fun p hp => by
        rcases List.mem_cons.1 hp with rfl | hp
        · exact hin
        · exact h p hp
      obtain ⟨b,off,vj,hap,hrow,hrd⟩:=hM W hW.bel i hil (by rw [hit];exact hpos)
      rw [hit] at hrd
      obtain ⟨bj,oj,cj,hvj,_⟩:=hrd.at hpos
      refine pgPage_no w0 B gr gm ap ps.length cp ps (k + 1) _ iv la lv (dig t) way d W hW (len_dig' _) hy.len i b off vj (Below B w0) hpl hil hap hrow ⟨_,_,_,hvj⟩ fun W' hW' => ?_
      refine ((IH i vj W W' hW hrd hW').2 hSS).mono (two_mono fun a b w' => ?_)
      rintro ⟨e1,e2⟩
      exact ⟨e1,trivial,e2⟩
    · refine (pgPage_none w0 B gr gm ap ps.length cp ps (k + 1) _ iv la lv (dig t) way d W hW (len_dig' _) hpl).mono ?_
      rintro e w' ⟨e1,e2⟩
      exact ⟨e1,hW.bel.trans (e2.mono hW.ge)⟩
theorem piece_any (hM:PsM w0 B ap ps) (hn:ps.length < 1000000) {d:Nat} {l:List Lf} {t:By} {S:List By} (h:Pc d l t S):PcD w0 B gr gm ap cp ps d l t S:=by
  induction h with
  | few d l h1 h2 h3 => exact pc_few d l h1 h2 h3
  | two d l t0 t1 S0 S1 h1 h2 _ _ i0 i1 => exact pc_two d l t0 t1 S0 S1 h1 h2 i0 i1
  | link d l t S h2 h3 hp ih => exact pc_link hM hn d l t S h2 h3 hp ih
end
end Go.Proofs.YtphmmnffgknkcaaGreatDoor
namespace Go.Proofs.YtphmmnffgknkcaaGreatDoor
open Go.RowKit
set_option maxRecDepth 100000
theorem OwnX.ne_blk {w:World} {base g:Nat} {v:Value} {us cs:List Value} {t:TypeId} (h:OwnX w base v us) (hb:Blk w g cs t) (ht:t ≠ 48):v.ownBlock ≠ some g:=by
  obtain ⟨_,h2⟩:=h
  intro hk
  rcases h2 with ⟨rfl,_⟩ | ⟨g2,cap,cur,rfl,hg,hh,_⟩
  · simp [Value.ownBlock] at hk
  · simp only [Value.ownBlock,Option.some.injEq] at hk
    subst hk
    unfold Blk at hb
    rw [hh] at hb
    simp only [Option.some.injEq,Obj.cells.injEq] at hb
    exact ht hb.2.1.symm
theorem PgS.fresh {W W':World} {base:Nat} {v:Value} {us:List Value} {ps:List By} {X Y:Nat → Prop} (h:PgS W base v us ps X) (hb:Below W.heap.size W W') (hY:∀ k,Y k → X k ∨ W.heap.size ≤ k):PgS W' base v us ps Y:=
  (h.weak (Y:=Y) fun k hk hy => (hY k hy).resolve_right (by omega)).next hb
theorem PgS.only {W W':World} {base g:Nat} {v:Value} {us:List Value} {ps:List By} {X:Nat → Prop} (h:PgS W base v us ps X) (hg:X g) (hv:v.ownBlock ≠ some g) (ho:Only g W W'):PgS W' base v us ps X:=
  ⟨h.own.same fun k hk => ho.block k (fun e => hv (e ▸ hk)) (h.own.lt k hk).2,h.len,fun j u hj => ⟨(h.good j u hj).1.sameP fun k hk => ho.block k (fun e => ((h.good j u hj).2 k hk).2.2 (e ▸ hg)) ((h.good j u hj).2 k hk).1,fun k hk => ⟨Nat.lt_of_lt_of_le ((h.good j u hj).2 k hk).1 ho.size,((h.good j u hj).2 k hk).2⟩⟩⟩
theorem GrV.then_new {w w1 w2:World} {v v1:Value} {g:Nat} (h:GrV w v w1 v1) (ho:Only g w1 w2) (hg:w.heap.size ≤ g):GrV w v w2 v1:=
  ⟨h.mt.trans (fun k hk (e:k = g) => by omega) (ho.mut (P:=fun k => k = g) rfl),h.lies⟩
theorem GrV.side {w w1 w2:World} {va va1 va2 vb:Value} (h:GrV w va w1 va1) (m:Mut (fun k => vb.ownBlock = some k ∨ va1.ownBlock = some k) w1 w2) (hb:∀ k,vb.ownBlock = some k → w.heap.size ≤ k) (hl:∀ k,va2.ownBlock = some k → va1.ownBlock = some k ∨ w1.heap.size ≤ k):GrV w va w2 va2:=
  ⟨h.mt.trans (fun k hk e => e.elim (fun e => by have:=hb k e;omega) fun e => (h.lies k e).resolve_right (by omega)) m,fun k hk => (hl k hk).elim (h.lies k) fun e => Or.inr (Nat.le_trans h.mt.size e)⟩
theorem GrV.one {w w1 w2:World} {va va1 va2:Value} (h:GrV w va w1 va1) (k:GrV w1 va1 w2 va2):GrV w va w2 va2:=h.trans k
theorem wpSeq_idxX0 {ops:Array Oper} {Q:Exit → Act → World → Prop} {rest:List Oper} {o:Oper} {a:Act} {w:World} (x y:Operand) (b n c k:Nat) (hk:k < n) (ho:o.op = .indexAddr 26 x y) (hx:a.eval x = .slice (some ⟨b,0,none⟩) n c) (hy:a.eval y = .int .i64 (k:Int)) (hw:Region.wanted o (yielded ops a.tmps) = true)
    (h:wpList Tryz.prog ops Q rest (a.put o.dst (.pointer (some ⟨b,k,none⟩))) w):wpList Tryz.prog ops Q (o :: rest) a w:=
  wpSeq_idxX x y b 0 n c k hk ho hx hy hw (by rw [Nat.zero_add];exact h)
theorem pgPiece_new (base:Nat) (vl:Value) (l:List Lf) (d:Nat) (W:World) (hd:d ≤ 256) (hF:Fits l d) (hR:RdLb base W vl l) (hb:base ≤ W.heap.size) (hl:l.length < 100000) :
    Calls Tryz.prog 70 #[.slice none 0 0,vl,.int .i64 (d:Int)] W fun e w' => ∃ a n c r,e = .returned (.slice a n c) ∧ OwnB w' base (.slice a n c) r ∧ r.length = n ∧ Below W.heap.size W w' ∧ (∀ k,(Value.slice a n c).ownBlock = some k → W.heap.size ≤ k) ∧ PieceR [] (wholeL d l) r:=by
  refine (pgPiece_any (256 - d) d (by omega) base vl l _ [] W hF hR (OwnB.nil _ _) hb hl (by decide)).mono ?_
  rintro e w' ⟨v,r,rfl,ho,hg,hp⟩
  obtain ⟨a,c,hv⟩:=ho.formP
  subst hv
  exact ⟨a,r.length,c,r,rfl,ho,rfl,hg.mt.below (Nat.le_refl _) (fun k e => by cases e),fun k e => (hg.lies k e).resolve_left (fun e => by cases e),hp⟩
def PsRes (base:Nat) (va:Value) (ps:List By) (l:List Lf) (d:Nat) (X:Nat → Prop) (w:World) (e:Ending) (w':World):Prop:=∃ va' us',e = .returned (.tuple #[.agg (cb (dig (topPg d l))).toArray,va']) ∧ PgS w' base va' us' (ps ++ saveL d l) X ∧ GrV w va w' va'
set_option maxHeartbeats 8000000 in
theorem pgPages_one (base:Nat) (av:Option Addr) (nv cv:Nat) (vl:Value) (us:List Value) (ps:List By) (l:List Lf) (X:Nat → Prop) (d:Nat) (w:World) (hd:d ≤ 256) (hK:KOk w) (hKB:1 < base) (hF:Fits l d) (hR:RdLb base w vl l) (hP:PgS w base (.slice av nv cv) us ps X) (hb:base ≤ w.heap.size) (hX:∀ k,X k → k < w.heap.size) (hll:l.length < 100000) (hps:ps.length + (saveL d l).length < 100000) (hnv:nv = ps.length) (hW:(wholeL d l).length ≤ 512) :
    Calls Tryz.prog 39 #[.slice av nv cv,vl,.int .i64 (d:Int)] w (PsRes base (.slice av nv cv) ps l d X w):=by
  obtain ⟨dg,HDG⟩:∃ x,Hid (x = dig (topPg d l)):=⟨_,rfl⟩
  have HDL:Hid (dg.length = 32):=by show _ = _;rw [HDG.out];exact len_dig' _
  have HK:Hid (KOk w):=hK
  have HKB:Hid (1 < base):=hKB
  have HF:Hid (Fits l d):=hF
  have HR:Hid (RdLb base w vl l):=hR
  have HP0:Hid (PgS w base (.slice av nv cv) us ps X):=hP
  have HB:Hid (base ≤ w.heap.size):=hb
  have HX:Hid (∀ k,X k → k < w.heap.size):=hX
  have HLL:Hid (l.length < 100000):=hll
  have HPS:Hid (ps.length + (saveL d l).length < 100000):=hps
  have HNV:Hid (nv = ps.length ∧ us.length = ps.length ∧ us.length < 1000000):=⟨hnv,hP.len,by rw [hP.len];omega⟩
  have HT:Hid (topPg d l = wholeL d l ∧ saveL d l = [topPg d l]):=⟨top_one hW,by rw [save_one hW,top_one hW]⟩
  have HW:Hid ((wholeL d l).length ≤ 512):=hW
  clear hK hKB hF hR hP hb hX hll hps hW hnv
  go_enter Tryz.func39,Tryz.ntmps39
  have tk0:Hid True:=trivial
  have tk1:Hid True:=trivial
  have tk2:Hid True:=trivial
  have tk3:Hid True:=trivial
  have tk4:Hid True:=trivial
  have tk5:Hid True:=trivial
  go_wp2_with (first
    | (clear tk0;with_reducible refine wpSeq_allocD ?_ ?_ ?_
       · rfl
       · rfl
       intro g6 w1 nn
       have hb:Below w.heap.size w w1:=nn.below
       have HG6:Hid (w.heap.size ≤ g6):=nn.ge
       have HN6:Hid (Blk w1 g6 (cb zb32) 39):=nn.blk
       replace HK:Hid (KOk w1):=HK.out.below hb HK.out.lt
       replace HR:Hid (RdLb base w1 vl l):=HR.out.next hb
       have HP:Hid (PgS w1 base (.slice av nv cv) us ps (fun k => X k ∨ k = g6)):=HP0.out.fresh hb fun k hk => hk.imp_right fun e => by rw [e];exact nn.ge
       have HBW:Hid (Below w.heap.size w w1):=hb
       replace HB:Hid (base ≤ w1.heap.size):=Nat.le_trans HB.out hb.size
       clear nn hb)
    | (clear tk1;go_at_call 70;refine (pgPiece_new base vl l d _ hd HF.out HR.out HB.out HLL.out).mono ?_;rintro e w2 ⟨a1,n1,c1,r,rfl,ho,hn,hb,hlies,hp⟩
       have hr:r = topPg d l:=by rw [HT.out.1];exact hp.1 (by simpa using HW.out)
       subst hr
       have HU:Hid (∀ k,(Value.slice a1 n1 c1).ownBlock = some k → k < w2.heap.size ∧ (Value.slice av nv cv).ownBlock ≠ some k ∧ ¬ (X k ∨ k = g6)):=fun k hk => ⟨(ho.ltP k hk).2,fun e => (HP.out.next hb).own.ne_bytes ho k e hk,fun e => by
         have h1:=hlies k hk
         have h2:=HN6.out.lt
         have h3:=HBW.out.size
         rcases e with e | e
         · have:=HX.out k e;omega
         · omega⟩
       have hle:(n1:Int) ≤ 512:=by have:=HW.out;rw [← HT.out.1,hn] at this;omega
       have HLT:Hid ((topPg d l).length ≤ 512):=by have:=HW.out;rw [← HT.out.1] at this;exact this
       replace HK:Hid (KOk w2):=HK.out.below hb HK.out.lt
       replace HR:Hid (RdLb base w2 vl l):=HR.out.next hb
       replace HP:Hid (PgS w2 base (.slice av nv cv) us ps (fun k => X k ∨ k = g6)):=HP.out.next hb
       replace HN6:Hid (Blk w2 g6 (cb zb32) 39):=HN6.out.below hb HN6.out.lt
       replace HBW:Hid (Below w.heap.size w w2):=HBW.out.trans (hb.mono HBW.out.size)
       replace HB:Hid (base ≤ w2.heap.size):=Nat.le_trans HB.out hb.size
       have HRD:Hid (Reads w2 (.slice a1 n1 c1) (topPg d l)):=ho.reads
       clear ho hn hb hlies hp)
    | (clear tk2;go_at_call 16;refine (tOf_any (.slice a1 n1 c1) (topPg d l) _ HK.out HRD.out (Nat.lt_of_le_of_lt HLT.out (by decide))).mono ?_;rintro e w3 ⟨rfl,hb⟩
       rw [← HDG.out]
       replace HU:Hid (∀ k,(Value.slice a1 n1 c1).ownBlock = some k → k < w3.heap.size ∧ (Value.slice av nv cv).ownBlock ≠ some k ∧ ¬ (X k ∨ k = g6)):=fun k hk => ⟨Nat.lt_of_lt_of_le (HU.out k hk).1 hb.size,(HU.out k hk).2⟩
       replace HK:Hid (KOk w3):=HK.out.below hb HK.out.lt
       replace HR:Hid (RdLb base w3 vl l):=HR.out.next hb
       replace HP:Hid (PgS w3 base (.slice av nv cv) us ps (fun k => X k ∨ k = g6)):=HP.out.next hb
       replace HN6:Hid (Blk w3 g6 (cb zb32) 39):=HN6.out.below hb HN6.out.lt
       replace HBW:Hid (Below w.heap.size w w3):=HBW.out.trans (hb.mono HBW.out.size)
       replace HB:Hid (base ≤ w3.heap.size):=Nat.le_trans HB.out hb.size
       replace HRD:Hid (Reads w3 (.slice a1 n1 c1) (topPg d l)):=HRD.out.below hb
       clear hb)
    | (clear tk3;with_reducible refine wpSeq_buildX (.tmp 21) a1 n1 c1 ?_ ?_ ?_ ?_
       · rfl
       · rfl
       · rfl
       intro g4 w4 hy hge hb
       replace HU:Hid (∀ k,(Value.slice a1 n1 c1).ownBlock = some k → k < w4.heap.size ∧ (Value.slice av nv cv).ownBlock ≠ some k ∧ ¬ (X k ∨ k = g6)):=fun k hk => ⟨Nat.lt_of_lt_of_le (HU.out k hk).1 hb.size,(HU.out k hk).2⟩
       have HY:Hid (Blk w4 g4 [.slice a1 n1 c1] 48):=hy
       have H1C:Hid ((Value.slice a1 n1 c1).oneCell' = true):=rfl
       replace HK:Hid (KOk w4):=HK.out.below hb HK.out.lt
       replace HR:Hid (RdLb base w4 vl l):=HR.out.next hb
       replace HP:Hid (PgS w4 base (.slice av nv cv) us ps (fun k => X k ∨ k = g6)):=HP.out.next hb
       replace HN6:Hid (Blk w4 g6 (cb zb32) 39):=HN6.out.below hb HN6.out.lt
       replace HBW:Hid (Below w.heap.size w w4):=HBW.out.trans (hb.mono HBW.out.size)
       replace HB:Hid (base ≤ w4.heap.size):=Nat.le_trans HB.out hb.size
       replace HRD:Hid (Reads w4 (.slice a1 n1 c1) (topPg d l)):=HRD.out.below hb
       clear hy hge hb)
    | (clear tk4;with_reducible refine wpSeq_appX (.tmp 20) (.tmp 22) base (.slice av nv cv) (.slice a1 n1 c1) us g4 HP.out.own HY.out H1C.out HNV.out.2.2 HB.out ?_ ?_ ?_ ?_ ?_
       · rfl
       · rfl
       · rfl
       · rfl
       intro v5 w5 ho hg
       have HP5:Hid (PgS w5 base v5 (us ++ [.slice a1 n1 c1]) (ps ++ [topPg d l]) (fun k => X k ∨ k = g6)):=HP.out.more ho hg HRD.out HU.out
       replace HN6:Hid (Blk w5 g6 (cb zb32) 39):=hg.mt.blk HN6.out fun e => HP.out.own.ne_blk HN6.out (by decide) e
       have HG:Hid (GrV w (.slice av nv cv) w5 v5):=(GrV.of_below HBW.out _).trans hg
       clear ho hg)
    | (clear tk5;with_reducible refine wpSeq_storeD (.tmp 6) (.tmp 19) g6 zb32 dg zb32_len HDL.out HN6.out ?_ ?_ ?_ ?_ ?_
       · rfl
       · rfl
       · rfl
       · rfl
       intro w6 h9
       have HN7:Hid (Blk w6 g6 (cb dg) 39):=h9.blk
       have HO6:Hid (Only g6 w5 w6):=h9.only
       clear h9))
  refine bodyPost_ret (results_row_tmp (by rfl) _ _ _ g6 39 (cb dg) _ v5 rfl rfl HN7.out Tryz.underlying39 rfl (by rw [cb_len,HDL.out];exact info_digest)) rfl ?_
  refine ⟨v5,us ++ [.slice a1 n1 c1],by rw [← HDG.out],?_,HG.out.then_new HO6.out HG6.out⟩
  rw [HT.out.2]
  exact ((HP5.out.only (Or.inr rfl) (HP5.out.own.ne_blk HN6.out (by decide)) HO6.out).weak fun k _ h => Or.inl h)
theorem set_place (ps q:List By) (p:By):(ps ++ [[]] ++ q).set ps.length p = ps ++ p :: q:=by
  rw [List.append_assoc,List.set_append_right (h:=Nat.le_refl _),Nat.sub_self];rfl
set_option maxHeartbeats 16000000 in
theorem pgPages_more (base:Nat) (av:Option Addr) (nv cv:Nat) (vl:Value) (us:List Value) (ps:List By) (l:List Lf) (X:Nat → Prop) (d:Nat) (w:World) (hd:d ≤ 256) (hK:KOk w) (hKB:1 < base) (hF:Fits l d) (hR:RdLb base w vl l) (hP:PgS w base (.slice av nv cv) us ps X) (hb:base ≤ w.heap.size) (hX:∀ k,X k → k < w.heap.size) (hll:l.length < 100000) (hps:ps.length + (saveL d l).length < 100000) (hnv:nv = ps.length) (IH:SdDoes (d + 1)) (hW:512 < (wholeL d l).length) :
    Calls Tryz.prog 39 #[.slice av nv cv,vl,.int .i64 (d:Int)] w (PsRes base (.slice av nv cv) ps l d X w):=by
  have h2:=long_two hF hW
  obtain ⟨dg,HDG⟩:∃ x,Hid (x = dig (topPg d l)):=⟨_,rfl⟩
  have HDL:Hid (dg.length = 32):=by show _ = _;rw [HDG.out];exact len_dig' _
  have HK:Hid (KOk w):=hK
  have HKB:Hid (1 < base):=hKB
  have HF:Hid (Fits l d):=hF
  have HR:Hid (RdLb base w vl l):=hR
  have HP0:Hid (PgS w base (.slice av nv cv) us ps X):=hP
  have HB:Hid (base ≤ w.heap.size):=hb
  have HX:Hid (∀ k,X k → k < w.heap.size):=hX
  have HLL:Hid (l.length < 100000):=hll
  have HPS:Hid (ps.length + (saveL d l).length < 100000):=hps
  have HNV:Hid (nv = ps.length ∧ us.length = ps.length ∧ us.length < 1000000):=⟨hnv,hP.len,by rw [hP.len];omega⟩
  have HIH:Hid (SdDoes (d + 1)):=IH
  have HD:Hid (2 ≤ l.length ∧ d < 256):=h2
  have HW:Hid (512 < (wholeL d l).length):=hW
  obtain ⟨d1,HD1⟩:∃ x,Hid (x = d + 1):=⟨_,rfl⟩
  have rd:IntKind.i64.wrap ((d:Int) + 1) = (d1:Int):=by rw [IntKind.wrap_i64,HD1.out];omega
  have HT:Hid (topPg d l = 2 :: (sidePg d1 (halfL l d false) ++ sidePg d1 (halfL l d true)) ∧ saveL d l = topPg d l :: (restPg d1 (halfL l d false) ++ restPg d1 (halfL l d true))):=by
    rw [HD1.out];exact ⟨top_more h2.2 hW,by rw [save_more h2.2 hW,top_more h2.2 hW]⟩
  have HN:Hid (ps.length + 1 + (restPg d1 (halfL l d false)).length + (restPg d1 (halfL l d true)).length < 100000):=by
    have:=hps;rw [HT.out.2,List.length_cons,List.length_append] at this;show _ < _;omega
  rw [← HD1.out] at HIH
  clear hK hKB hF hR hP hb hX hll hps hW hnv IH h2
  go_enter Tryz.func39,Tryz.ntmps39
  have tk0:Hid True:=trivial
  have tk1:Hid True:=trivial
  have tk2:Hid True:=trivial
  have tk3:Hid True:=trivial
  have tk4:Hid True:=trivial
  have tk5:Hid True:=trivial
  have tk6:Hid True:=trivial
  have tk7:Hid True:=trivial
  have tk8:Hid True:=trivial
  have tk9:Hid True:=trivial
  have tk10:Hid True:=trivial
  have tk11:Hid True:=trivial
  go_wp2_with (first
    | (clear tk0;with_reducible refine wpSeq_allocD ?_ ?_ ?_
       · rfl
       · rfl
       intro g6 w1 nn
       have hb:Below w.heap.size w w1:=nn.below
       have HG6:Hid (w.heap.size ≤ g6):=nn.ge
       have HN6:Hid (Blk w1 g6 (cb zb32) 39):=nn.blk
       replace HK:Hid (KOk w1):=HK.out.below hb HK.out.lt
       replace HR:Hid (RdLb base w1 vl l):=HR.out.next hb
       have HP:Hid (PgS w1 base (.slice av nv cv) us ps (fun k => X k ∨ k = g6)):=HP0.out.fresh hb fun k hk => hk.imp_right fun e => by rw [e];exact nn.ge
       have HBW:Hid (Below w.heap.size w w1):=hb
       replace HB:Hid (base ≤ w1.heap.size):=Nat.le_trans HB.out hb.size
       clear nn hb)
    | (clear tk1;go_at_call 70;refine (pgPiece_new base vl l d _ hd HF.out HR.out HB.out HLL.out).mono ?_;rintro e w2 ⟨a1,n1,c1,r,rfl,ho,hn,hb,hlies,hp⟩
       have hle:¬ (n1:Int) ≤ 512:=by have:=hp.2.1 (by simpa using HW.out);omega
       replace HK:Hid (KOk w2):=HK.out.below hb HK.out.lt
       replace HR:Hid (RdLb base w2 vl l):=HR.out.next hb
       replace HP:Hid (PgS w2 base (.slice av nv cv) us ps (fun k => X k ∨ k = g6)):=HP.out.next hb
       replace HN6:Hid (Blk w2 g6 (cb zb32) 39):=HN6.out.below hb HN6.out.lt
       replace HBW:Hid (Below w.heap.size w w2):=HBW.out.trans (hb.mono HBW.out.size)
       replace HB:Hid (base ≤ w2.heap.size):=Nat.le_trans HB.out hb.size
       clear ho hn hb hlies hp)
    | (clear tk2;with_reducible refine wpSeq_buildX (.const (.slice none 0 0)) none 0 0 ?_ ?_ ?_ ?_
       · rfl
       · rfl
       · rfl
       intro g4 w4 hy hge hb
       have HY:Hid (Blk w4 g4 [.slice none 0 0] 48):=hy
       have H1C:Hid ((Value.slice none 0 0).oneCell' = true):=rfl
       replace HK:Hid (KOk w4):=HK.out.below hb HK.out.lt
       replace HR:Hid (RdLb base w4 vl l):=HR.out.next hb
       replace HP:Hid (PgS w4 base (.slice av nv cv) us ps (fun k => X k ∨ k = g6)):=HP.out.next hb
       replace HN6:Hid (Blk w4 g6 (cb zb32) 39):=HN6.out.below hb HN6.out.lt
       replace HBW:Hid (Below w.heap.size w w4):=HBW.out.trans (hb.mono HBW.out.size)
       replace HB:Hid (base ≤ w4.heap.size):=Nat.le_trans HB.out hb.size
       clear hy hge hb)
    | (clear tk3;with_reducible refine wpSeq_appX (.tmp 26) (.tmp 27) base (.slice av nv cv) (.slice none 0 0) us g4 HP.out.own HY.out H1C.out HNV.out.2.2 HB.out ?_ ?_ ?_ ?_ ?_
       · rfl
       · rfl
       · rfl
       · rfl
       intro v5 w5 ho hg
       have HP5:Hid (PgS w5 base v5 (us ++ [.slice none 0 0]) (ps ++ [[]]) (fun k => X k ∨ k = g6)):=HP.out.more ho hg (Reads.nilP _) (fun k e => by cases e)
       replace HN6:Hid (Blk w5 g6 (cb zb32) 39):=hg.mt.blk HN6.out fun e => HP.out.own.ne_blk HN6.out (by decide) e
       have HG:Hid (GrV w (.slice av nv cv) w5 v5):=(GrV.of_below HBW.out _).trans hg
       have hbb:Below base _ w5:=hg.below HB.out fun k hk => (HP.out.own.lt k hk).1
       replace HK:Hid (KOk w5):=HK.out.below hbb HKB.out
       replace HR:Hid (RdLb base w5 vl l):=HR.out.go hbb
       replace HB:Hid (base ≤ w5.heap.size):=Nat.le_trans HB.out hg.mt.size
       clear ho hg hbb)
    | (clear tk4;go_at_call 71;refine (pgPart_any base vl l d _ HR.out HF.out HD.out.2 (Nat.lt_of_lt_of_le (by decide) HD.out.1) HLL.out).mono ?_;rintro e w7 ⟨q0,q1,rfl,hr0,hr1,hb⟩
       have HR0:Hid (RdLb base w7 q0 (halfL l d false)):=hr0
       have HR1:Hid (RdLb base w7 q1 (halfL l d true)):=hr1
       replace HP5:Hid (PgS w7 base v5 (us ++ [.slice none 0 0]) (ps ++ [[]]) (fun k => X k ∨ k = g6)):=HP5.out.next hb
       replace HK:Hid (KOk w7):=HK.out.below hb HK.out.lt
       replace HN6:Hid (Blk w7 g6 (cb zb32) 39):=HN6.out.below hb HN6.out.lt
       replace HG:Hid (GrV w (.slice av nv cv) w7 v5):=HG.out.trans (GrV.of_below hb _)
       replace HB:Hid (base ≤ w7.heap.size):=Nat.le_trans HB.out hb.size
       clear hr0 hr1 hb)
    | (clear tk5;with_reducible refine wpSeq_buildY 2 (.const (.int .u8 2)) ?_ ?_ ?_ ?_
       · rfl
       · rfl
       · rfl
       intro g8 w8 hy hge hb
       have HO8:Hid (OwnB w8 base (.slice (some ⟨g8,0,none⟩) 1 1) [2]):=blk_own_y hy (Nat.le_trans HB.out hge)
       have HP8:Hid (PgS w8 base v5 (us ++ [.slice none 0 0]) (ps ++ [[]]) (fun k => (X k ∨ k = g6) ∨ (Value.slice (some ⟨g8,0,none⟩) 1 1).ownBlock = some k)):=HP5.out.fresh hb fun k hk => hk.imp_right fun e => by cases e;exact hge
       have HB8:Hid (∀ k,(Value.slice (some ⟨g8,0,none⟩) 1 1).ownBlock = some k → w.heap.size ≤ k):=fun k e => by cases e;exact Nat.le_trans HG.out.mt.size hge
       replace HR0:Hid (RdLb base w8 q0 (halfL l d false)):=HR0.out.next hb
       replace HR1:Hid (RdLb base w8 q1 (halfL l d true)):=HR1.out.next hb
       replace HK:Hid (KOk w8):=HK.out.below hb HK.out.lt
       replace HN6:Hid (Blk w8 g6 (cb zb32) 39):=HN6.out.below hb HN6.out.lt
       replace HG:Hid (GrV w (.slice av nv cv) w8 v5):=HG.out.trans (GrV.of_below hb _)
       replace HB:Hid (base ≤ w8.heap.size):=Nat.le_trans HB.out hb.size
       have HX8:Hid (∀ k,(X k ∨ k = g6) → k < w8.heap.size):=fun k hk => hk.elim (fun e => Nat.lt_of_lt_of_le (HX.out k e) HG.out.mt.size) fun e => by rw [e];exact HN6.out.lt
       clear hy hge hb)
    | (clear tk6;go_at_call 72;refine (HIH.out base (.slice (some ⟨g8,0,none⟩) 1 1) v5 q0 (us ++ [.slice none 0 0]) [2] (ps ++ [[]]) (halfL l d false) (fun k => X k ∨ k = g6) _ HK.out HKB.out (by rw [HD1.out];exact HF.out.half _) HR0.out HO8.out HP8.out HB.out HX8.out (Nat.lt_of_le_of_lt (half_le _ _ _) HLL.out) (by have:=HN.out;simp only [List.length_append,List.length_cons,List.length_nil];omega) (by decide)).mono ?_;rintro e w9 ⟨vb9,va9,us9,rfl,ho,hp,hm,hl1,hl2⟩
       have HO9:Hid (OwnB w9 base vb9 ([2] ++ sidePg d1 (halfL l d false))):=ho
       have HP9:Hid (PgS w9 base va9 us9 ((ps ++ [[]]) ++ restPg d1 (halfL l d false)) (fun k => (X k ∨ k = g6) ∨ vb9.ownBlock = some k)):=hp
       have hbb:Below base _ w9:=mut_base hm HB.out HO8.out HP8.out.own
       replace HK:Hid (KOk w9):=HK.out.below hbb HKB.out
       replace HR1:Hid (RdLb base w9 q1 (halfL l d true)):=HR1.out.go hbb
       replace HN6:Hid (Blk w9 g6 (cb zb32) 39):=hm.blk HN6.out fun e => e.elim (fun e => HO8.out.ne_blk HN6.out (by decide) e) fun e => HP8.out.own.ne_blk HN6.out (by decide) e
       have HB9:Hid (∀ k,vb9.ownBlock = some k → w.heap.size ≤ k):=fun k e => (hl1 k e).elim (HB8.out k) fun e => Nat.le_trans HG.out.mt.size e
       have HX9:Hid (∀ k,(X k ∨ k = g6) → k < w9.heap.size):=fun k hk => Nat.lt_of_lt_of_le (HX8.out k hk) hm.size
       replace HG:Hid (GrV w (.slice av nv cv) w9 va9):=HG.out.side hm HB8.out hl2
       replace HB:Hid (base ≤ w9.heap.size):=Nat.le_trans HB.out hm.size
       clear ho hp hm hl1 hl2 hbb)
    | (clear tk7;go_at_call 72;refine (HIH.out base vb9 va9 q1 us9 ([2] ++ sidePg d1 (halfL l d false)) (ps ++ [[]] ++ restPg d1 (halfL l d false)) (halfL l d true) (fun k => X k ∨ k = g6) _ HK.out HKB.out (by rw [HD1.out];exact HF.out.half _) HR1.out HO9.out HP9.out HB.out HX9.out (Nat.lt_of_le_of_lt (half_le _ _ _) HLL.out) (by have:=HN.out;simp only [List.length_append,List.length_cons,List.length_nil];omega) (by rw [List.length_append];have:=(side_len (d:=d1) (HF.out.half false).1).2;simp only [List.length_cons,List.length_nil];omega)).mono ?_;rintro e w10 ⟨vb10,va10,us10,rfl,ho,hp,hm,hl1,hl2⟩
       have HO10:Hid (OwnB w10 base vb10 (([2] ++ sidePg d1 (halfL l d false)) ++ sidePg d1 (halfL l d true))):=ho
       have HP10:Hid (PgS w10 base va10 us10 ((ps ++ [[]] ++ restPg d1 (halfL l d false)) ++ restPg d1 (halfL l d true)) (fun k => (X k ∨ k = g6) ∨ vb10.ownBlock = some k)):=hp
       have hbb:Below base _ w10:=mut_base hm HB.out HO9.out HP9.out.own
       replace HK:Hid (KOk w10):=HK.out.below hbb HKB.out
       replace HN6:Hid (Blk w10 g6 (cb zb32) 39):=hm.blk HN6.out fun e => e.elim (fun e => HO9.out.ne_blk HN6.out (by decide) e) fun e => HP9.out.own.ne_blk HN6.out (by decide) e
       have HB10:Hid (∀ k,vb10.ownBlock = some k → w.heap.size ≤ k):=fun k e => (hl1 k e).elim (HB9.out k) fun e => Nat.le_trans HG.out.mt.size e
       have HX10:Hid (∀ k,(X k ∨ k = g6) → k < w10.heap.size):=fun k hk => Nat.lt_of_lt_of_le (HX9.out k hk) hm.size
       replace HG:Hid (GrV w (.slice av nv cv) w10 va10):=HG.out.side hm HB9.out hl2
       replace HB:Hid (base ≤ w10.heap.size):=Nat.le_trans HB.out hm.size
       clear ho hp hm hl1 hl2 hbb
       have hpl:ps.length < us10.length:=by rw [HP10.out.len];simp only [List.length_append,List.length_cons,List.length_nil];omega
       obtain ⟨ga,ca,hva,hq1,hq2⟩:=HP10.out.own.at (j:=ps.length) (u:=us10[ps.length]) (List.getElem?_eq_getElem hpl)
       clear hq1 hq2
       obtain ⟨na,HNA⟩:∃ x,Hid (x = us10.length):=⟨_,rfl⟩
       rw [← HNA.out] at hva
       obtain ⟨ab,cbv,hvb⟩:=HO10.out.formP
       obtain ⟨nb,HNB⟩:∃ x:Nat,Hid (x = (([2]:By) ++ sidePg d1 (halfL l d false) ++ sidePg d1 (halfL l d true)).length):=⟨_,rfl⟩
       rw [← HNB.out] at hvb
       subst hva
       subst hvb
       have HNK:Hid (nv < na ∧ nv < us10.length):=by rw [HNA.out,HNV.out.1];exact ⟨hpl,hpl⟩
       clear hpl)
    | (clear tk8;with_reducible refine wpSeq_idxX0 (.tmp 53) (.tmp 54) ga na ca nv HNK.out.1 ?_ ?_ ?_ ?_ ?_
       · rfl
       · rfl
       · rfl
       · rfl
       have HI:Hid True:=trivial)
    | (clear tk9;with_reducible refine wpSeq_storeX (.tmp 56) (.tmp 55) base ga na ca nv us10 ab nb cbv HP10.out.own HNK.out.2 ?_ ?_ ?_ ?_ ?_
       · rfl
       · rfl
       · rfl
       · rfl
       intro w11 ho hg
       have hne:ga ≠ g6:=fun e => HP10.out.own.ne_blk HN6.out (by decide) (by rw [← e];rfl)
       have HTE:Hid ([2] ++ sidePg d1 (halfL l d false) ++ sidePg d1 (halfL l d true) = topPg d l):=by show _ = _;rw [HT.out.1];simp
       have hrd:Reads w10 (.slice ab nb cbv) (topPg d l):=by rw [← HTE.out];exact HO10.out.reads
       have hne2:∀ k,(Value.slice ab nb cbv).ownBlock = some k → ga ≠ k:=fun k hk e => HP10.out.own.ne_bytes HO10.out k (by rw [e];rfl) hk
       have hapt:∀ k,(Value.slice ab nb cbv).ownBlock = some k → k < w10.heap.size ∧ ga ≠ k ∧ ¬ (X k ∨ k = g6):=fun k hk => ⟨(HO10.out.ltP k hk).2,hne2 k hk,fun e => by
         rcases e with e | e
         · have h1:=HX.out k e;have h2:=HB10.out k hk;omega
         · subst e;exact HO10.out.ne_blk HN6.out (by decide) hk⟩
       have HP11:Hid (PgS w11 base (.slice (some ⟨ga,0,none⟩) na ca) (us10.set nv (.slice ab nb cbv)) ((ps ++ [[]] ++ restPg d1 (halfL l d false) ++ restPg d1 (halfL l d true)).set nv (topPg d l)) (fun k => X k ∨ k = g6)):=(HP10.out.weak fun k _ h => Or.inl h).put HNK.out.2 ho hg hrd hapt
       have hgl:base ≤ ga ∧ ga < w10.heap.size:=HP10.out.own.lt ga rfl
       have hbb:Below base w10 w11:=hg.below hgl.1 HB.out
       replace HK:Hid (KOk w11):=HK.out.below hbb HKB.out
       replace HN6:Hid (Blk w11 g6 (cb zb32) 39):=HN6.out.only hg (Ne.symm hne)
       have HRD:Hid (Reads w11 (.slice ab nb cbv) (topPg d l)):=hrd.sameP fun k hk => hg.block k (fun e => hne2 k hk e.symm) (HO10.out.ltP k hk).2
       replace HG:Hid (GrV w (.slice av nv cv) w11 (.slice (some ⟨ga,0,none⟩) na ca)):=HG.out.trans ⟨hg.mut (P:=fun k => (Value.slice (some ⟨ga,0,none⟩) na ca).ownBlock = some k) rfl,fun k e => Or.inl e⟩
       replace HB:Hid (base ≤ w11.heap.size):=Nat.le_trans HB.out hg.size
       have HTL:Hid ((topPg d l).length < 2305843009213693952):=by
         show _ < _
         rw [HT.out.1,List.length_cons,List.length_append]
         have h1:=(side_len (d:=d1) (HF.out.half false).1).2
         have h2:=(side_len (d:=d1) (HF.out.half true).1).2
         omega
       clear ho hg hne hrd hne2 hapt hgl hbb)
    | (clear tk10;go_at_call 16;refine (tOf_any (.slice ab nb cbv) (topPg d l) _ HK.out HRD.out HTL.out).mono ?_;rintro e w12 ⟨rfl,hb⟩
       rw [← HDG.out]
       replace HP11:Hid (PgS w12 base (.slice (some ⟨ga,0,none⟩) na ca) (us10.set nv (.slice ab nb cbv)) ((ps ++ [[]] ++ restPg d1 (halfL l d false) ++ restPg d1 (halfL l d true)).set nv (topPg d l)) (fun k => X k ∨ k = g6)):=HP11.out.next hb
       replace HK:Hid (KOk w12):=HK.out.below hb HK.out.lt
       replace HN6:Hid (Blk w12 g6 (cb zb32) 39):=HN6.out.below hb HN6.out.lt
       replace HG:Hid (GrV w (.slice av nv cv) w12 (.slice (some ⟨ga,0,none⟩) na ca)):=HG.out.trans (GrV.of_below hb _)
       replace HB:Hid (base ≤ w12.heap.size):=Nat.le_trans HB.out hb.size
       clear hb)
    | (clear tk11;with_reducible refine wpSeq_storeD (.tmp 6) (.tmp 58) g6 zb32 dg zb32_len HDL.out HN6.out ?_ ?_ ?_ ?_ ?_
       · rfl
       · rfl
       · rfl
       · rfl
       intro w13 h9
       have HN7:Hid (Blk w13 g6 (cb dg) 39):=h9.blk
       have HO13:Hid (Only g6 w12 w13):=h9.only
       clear h9))
  refine bodyPost_ret (results_row_tmp (by rfl) _ _ _ g6 39 (cb dg) _ (.slice (some ⟨ga,0,none⟩) na ca) rfl rfl HN7.out Tryz.underlying39 rfl (by rw [cb_len,HDL.out];exact info_digest)) rfl ?_
  refine ⟨_,us10.set nv (.slice ab nb cbv),by rw [← HDG.out],?_,HG.out.then_new HO13.out HG6.out⟩
  have hp:=(HP11.out.only (Or.inr rfl) (HP11.out.own.ne_blk HN6.out (by decide)) HO13.out).weak (Y:=X) fun k _ h => Or.inl h
  rw [HNV.out.1,List.append_assoc (ps ++ [[]]),set_place] at hp
  rw [HT.out.2,HNV.out.1]
  exact hp
theorem pgPages_any:∀ (f d:Nat),256 = d + f → PsDoes d
  | f,d,hf => fun base va vl us ps l X w hK hKB hF hR hP hb hX hll hps => by
    obtain ⟨av,cv,hva⟩:=hP.own.form
    subst hva
    rcases Nat.lt_or_ge 512 (wholeL d l).length with hW | hW
    · have h2:=long_two hF hW
      match f with
      | 0 => omega
      | f + 1 => exact pgPages_more base av us.length cv vl us ps l X d w (by omega) hK hKB hF hR hP hb hX hll hps hP.len (pgSide_any (d + 1) (by omega) (pgPages_any f (d + 1) (by omega))) hW
    · exact pgPages_one base av us.length cv vl us ps l X d w (by omega) hK hKB hF hR hP hb hX hll hps hP.len hW
end Go.Proofs.YtphmmnffgknkcaaGreatDoor
namespace Go.Proofs.YtphmmnffgknkcaaGreatDoor
open Go.RowKit
set_option maxRecDepth 100000
theorem upon_round {P:Program} {o:Oper} {a:Act} {K:Act → World → Prop} {Q:Exit → Act → World → Prop} {l n:Nat}:∀ {r:Result Next},o.upon P a K Q r → o.uponIn (Fence.wide.inRound l) n P a K Q r
  | .ok (.value _) _,h => h
  | .ok .skip _,h => h
  | .ok (.defer _) _,h => h
  | .ok (.enter _ _) _,h => ⟨fun hx => (nomatch hx),CallsIn.inRound l (callsIn_wide.2 h)⟩
  | .ok (.row _ _) _,h => ⟨fun hx => (nomatch hx),fun c cs _ => by
      obtain ⟨v,wq,r,s⟩:=h c cs
      exact ⟨v,wq,r,stepsIn_wide.2 s⟩⟩
  | .halt (.panic _) _,h => h
def noDefer (ops:Array Oper):Bool:=ops.toList.all fun o => match o.op with | .defer _ => false | _ => true
theorem noDefer_at {ops:Array Oper} (h:noDefer ops = true) {i:Nat} {o:Oper} (hi:ops[i]? = some o) (c:_):o.op ≠ .defer c:=by
  intro he
  have h1:=List.all_eq_true.1 h o (by rw [Array.mem_toList_iff];exact Array.mem_of_getElem? hi)
  rw [he] at h1
  cases h1
theorem wpList_round {P:Program} {ops:Array Oper} {Q:Exit → Act → World → Prop} {m n:Nat} (hQ:¬ LetsOut Q):∀ (l:List Oper) (_:noDefer l.toArray = true) (a:Act) (w:World),wpList P ops Q l a w → wpListIn (Fence.wide.inRound m) n P ops Q l a w
  | [],_,_,_,h => h
  | o :: rest,hnd,a,w,h => by
    have ho:∀ c,o.op ≠ .defer c:=fun c => noDefer_at hnd (i:=0) rfl c
    have hr:noDefer rest.toArray = true:=by
      unfold noDefer at hnd ⊢
      simp only [List.all_cons,Bool.and_eq_true] at hnd
      exact hnd.2
    unfold wpList at h
    unfold wpListIn
    by_cases hw:Region.wanted o (yielded ops a.tmps) = true
    · rw [if_pos hw] at h ⊢
      rcases h with h | h
      · refine Oper.wpIn_mono (fun a w h => wpList_round hQ rest hr a w h) ⟨fun _ _ => trivial,?_⟩
        rw [Oper.semAt_eq _ _ _ ho]
        exact upon_round h
      · exact absurd h.2 hQ
    · rw [if_neg hw] at h ⊢
      exact ⟨fun _ _ => trivial,wpList_round hQ rest hr _ w h⟩
theorem wpIn_round_list {P:Program} {l:List Oper} {Q:Exit → Act → World → Prop} {m n id:Nat} {a:Act} {w:World} (hnd:noDefer l.toArray = true) (hQ:¬ LetsOut Q) (h:wpList P l.toArray Q l a w):(Code.region id l.toArray false).wpIn (Fence.wide.inRound m) n P Q a w:=
  wpIn_region_lit (wpList_round hQ l hnd a w h)
end Go.Proofs.YtphmmnffgknkcaaGreatDoor
namespace Go.Proofs.YtphmmnffgknkcaaGreatDoor
open Go.RowKit
set_option maxRecDepth 100000
theorem built_lf (f:Operand → Value) (o:Oper) (x y:Operand) (ho:o.op = .build 120 #[(0,x),(1,y)]) (ix vl:By) (hl:ix.length = 32) (hl2:vl.length = 32) (hx:f x = .agg (cb ix).toArray) (hy:f y = .agg (cb vl).toArray) (w:World):(execOp f o).run Tryz.prog w = .ok (.value (.agg (lfC (ix,vl)).toArray)) w:=by
  unfold execOp
  rw [ho]
  simp only [List.map_toArray,List.map_cons,List.map_nil,hx,hy]
  match ix,hl,vl,hl2 with
  | [x0,x1,x2,x3,x4,x5,x6,x7,x8,x9,x10,x11,x12,x13,x14,x15,x16,x17,x18,x19,x20,x21,x22,x23,x24,x25,x26,x27,x28,x29,x30,x31],_,[y0,y1,y2,y3,y4,y5,y6,y7,y8,y9,y10,y11,y12,y13,y14,y15,y16,y17,y18,y19,y20,y21,y22,y23,y24,y25,y26,y27,y28,y29,y30,y31],_ =>
    refine id ?_
    show _ = _
    kernel_rfl
theorem lfC_one (p:Lf):∀ v ∈ lfC p,v.oneCell' = true:=fun v hv => by
  unfold lfC at hv
  rcases List.mem_append.1 hv with h | h
  · exact cb_one _ v h
  · exact cb_one _ v h
theorem build_lf1 (f:Operand → Value) (o:Oper) (x:Operand) (ho:o.op = .buildSlice 83 1 #[(0,x)]) (ix vl:By) (hl:ix.length = 32) (hl2:vl.length = 32) (hx:f x = .agg (lfC (ix,vl)).toArray) (w:World) :
    (execOp f o).run Tryz.prog w = .ok (.value (.slice (some ⟨w.heap.size,0,none⟩) 1 1)) (w.alloc (.cells (lfC (ix,vl)).toArray 120)):=by
  unfold execOp
  rw [ho]
  simp only [List.map_toArray,List.map_cons,List.map_nil,hx]
  match ix,hl,vl,hl2 with
  | [x0,x1,x2,x3,x4,x5,x6,x7,x8,x9,x10,x11,x12,x13,x14,x15,x16,x17,x18,x19,x20,x21,x22,x23,x24,x25,x26,x27,x28,x29,x30,x31],_,[y0,y1,y2,y3,y4,y5,y6,y7,y8,y9,y10,y11,y12,y13,y14,y15,y16,y17,y18,y19,y20,y21,y22,y23,y24,y25,y26,y27,y28,y29,y30,y31],_ =>
    refine id ?_
    show _ = _
    kernel_rfl
theorem wpSeq_buildLf {ops:Array Oper} {Q:Exit → Act → World → Prop} {rest:List Oper} {o:Oper} {a:Act} {w:World} (x y:Operand) (ix vl:By) (hl:ix.length = 32) (hl2:vl.length = 32) (ho:o.op = .build 120 #[(0,x),(1,y)]) (hx:a.eval x = .agg (cb ix).toArray) (hy:a.eval y = .agg (cb vl).toArray) (hw:Region.wanted o (yielded ops a.tmps) = true)
    (h:wpList Tryz.prog ops Q rest (a.put o.dst (.agg (lfC (ix,vl)).toArray)) w):wpList Tryz.prog ops Q (o :: rest) a w:=wpSeq_val _ _ hw (built_lf _ o x y ho ix vl hl hl2 hx hy w) h
theorem wpSeq_buildLf1 {ops:Array Oper} {Q:Exit → Act → World → Prop} {rest:List Oper} {o:Oper} {a:Act} {w:World} (x:Operand) (ix vl:By) (hl:ix.length = 32) (hl2:vl.length = 32) (ho:o.op = .buildSlice 83 1 #[(0,x)]) (hx:a.eval x = .agg (lfC (ix,vl)).toArray) (hw:Region.wanted o (yielded ops a.tmps) = true)
    (h:∀ g w',Blk w' g (lfC (ix,vl)) 120 → Below w.heap.size w w' → wpList Tryz.prog ops Q rest (a.put o.dst (.slice (some ⟨g,0,none⟩) 1 1)) w'):wpList Tryz.prog ops Q (o :: rest) a w:=
  wpSeq_val _ _ hw (build_lf1 _ o x ho ix vl hl hl2 hx w) (h _ _ (Blk.new w _ _) (below_alloc w _))
theorem wpSeq_appLf {ops:Array Oper} {Q:Exit → Act → World → Prop} {rest:List Oper} {o:Oper} {a:Act} {w:World} (s x:Operand) (base:Nat) (v:Value) (l:List Lf) (p:Lf) (g:Nat)
    (hown:OwnLv w base v l) (hu:Blk w g (lfC p) 120) (hp:p.1.length = 32 ∧ p.2.length = 32) (hlen:l.length < 1000000) (hbase:base ≤ w.heap.size)
    (ho:o.op = .call { callee:=.builtin .append,args:=#[s,x],argTypes:=#[83,83] }) (hs:a.eval s = v) (hx:a.eval x = .slice (some ⟨g,0,none⟩) 1 1) (hgd:o.guard = none)
    (h:∀ v' w',OwnLv w' base v' (l ++ [p]) → GrV w v w' v' → wpList Tryz.prog ops Q rest (a.put o.dst v') w'):wpList Tryz.prog ops Q (o :: rest) a w:=by
  obtain ⟨i0,hi,hz0,hz1,hz2⟩:=info_parts Tryz.infoLf
  refine wpList_append_own_at (P:=Tryz.prog) w hgd s x 83 ho base 120 i0 (.agg (cb zb32 ++ cb zb32).toArray) 64 64 Tryz.underlying83 hi hz0 hz1 hz2 (by show (cb zb32 ++ cb zb32).toArray.size = 64;rw [List.size_toArray,List.length_append,cb_len];rfl) (by decide) v l.length (flatLf l) hs hown.1 ⟨g,0,none⟩ 1 1 (lfC p) hx (by rw [lfC_len hp]) (fun j q hj => by rw [Addr.add_mid,Nat.zero_add,hu.cell];exact hj) (lfC_one p) (by unfold maxLen;omega) (by omega) hbase ?_
  intro v' w' h2 h3 _ h5
  refine h v' w' ⟨by rw [flatLf_snoc,List.length_append];exact h2,fun q hq => ?_⟩ ⟨mut_grown h3,fun k hk => ?_⟩
  · rcases List.mem_append.1 hq with hq | hq
    · exact hown.2 q hq
    · rw [List.mem_singleton.1 hq];exact hp
  · rcases h5 with h5 | h5
    · exact Or.inl (h5 ▸ hk)
    · rw [h5] at hk;cases hk;exact Or.inr (Nat.le_refl _)
theorem wpSeq_cellL {ops:Array Oper} {Q:Exit → Act → World → Prop} {rest:List Oper} {o:Oper} {a:Act} {w:World} (x y:Operand) (g:Nat) (v u:Value) (hb:Blk w g [v] 83) (hv:∃ ad n c,u = .slice ad n c) (ho:o.op = .store 83 x y) (hx:a.eval x = .pointer (some ⟨g,0,none⟩)) (hy:a.eval y = u) (hw:Region.wanted o (yielded ops a.tmps) = true)
    (h:∀ w',Blk w' g [u] 83 → Only g w w' → wpList Tryz.prog ops Q rest (a.put o.dst undef) w'):wpList Tryz.prog ops Q (o :: rest) a w:=by
  obtain ⟨ad,n,c,rfl⟩:=hv
  have hc:w.cell? ⟨g,0,none⟩ = some v:=hb.cell 0
  have hf:w.frozen? ⟨g,0,none⟩ = false:=hb.frozen 0
  have he:(execOp a.eval o).run Tryz.prog w = .ok .skip (w.setCell ⟨g,0,none⟩ (.slice ad n c)):=by
    clear h hw
    generalize a.eval = f at hx hy ⊢
    unfold execOp
    rw [ho]
    simp [go_sem,hx,hy,hc,hf]
  unfold wpList
  simp only [hw,if_true]
  left
  unfold Oper.wp
  rw [he,Oper.upon_skip]
  exact h _ (hb.set 0 _) (Only.setCell (Only.refl g w) 0 _)
theorem wpSeqIn_allocD {F:Fence} {n:Nat} {ops:Array Oper} {Q:Exit → Act → World → Prop} {rest:List Oper} {o:Oper} {a:Act} {w:World} (ho:o.op = .alloc 39) (hw:Region.wanted o (yielded ops a.tmps) = true)
    (h:∀ g w',NewB zb32 w g w' → wpListIn F n Tryz.prog ops Q rest (a.put o.dst (.pointer (some ⟨g,0,none⟩))) w'):wpListIn F n Tryz.prog ops Q (o :: rest) a w:=
  wpSeqIn_val _ _ hw (by rw [ho];intro c hc;cases hc) (by simp [Oper.about,ho]) (allocDigest _ _ ho _) (h _ _ (NewB.of zb32 w))
theorem keeps_mut {P:Nat → Prop} {W W':World} (m:Mut P W W') (hP:∀ k,P k → ∃ ar t fz,W.heap[k]? = some (.cells ar t fz)):KeepsOthers W W':=
  ⟨m.size,fun k o hk ho => by
    have hk2:=(Array.getElem?_eq_some_iff.1 hk).1
    rw [m.block k hk2 fun hp => by
      obtain ⟨ar,t,fz,h⟩:=hP k hp
      rw [hk] at h
      cases h
      cases ho]
    exact hk⟩
theorem OwnLv.cells {W:World} {base:Nat} {v:Value} {l:List Lf} (h:OwnLv W base v l):∀ k,v.ownBlock = some k → ∃ ar t fz,W.heap[k]? = some (.cells ar t fz):=fun k hk => by
  rcases h.1 with ⟨_,⟨rfl,_⟩ | ⟨g,cap,cur,rfl,_,hh,_⟩⟩
  · cases hk
  · cases hk;exact ⟨_,_,_,hh⟩
theorem ownsRow_lower {W:World} {base:Nat} {t:TypeId} {z n:Nat} {v:Value} {xs:List Value} (h:W.ownsRow (base + 1) t z v n xs):W.ownsRow base t z v n xs:=by
  obtain ⟨h1,h2 | ⟨g,cap,cur,e,hg,r⟩⟩:=h
  · exact ⟨h1,Or.inl h2⟩
  · exact ⟨h1,Or.inr ⟨g,cap,cur,e,Nat.le_of_succ_le hg,r⟩⟩
structure LoI (v0:World) (n₀ g2:Nat) (pre:List Lf) (W:World):Prop where
  bel:Below n₀ v0 W
  ge:n₀ ≤ W.heap.size
  row:∃ v,Blk W g2 [v] 83 ∧ OwnLv W (n₀ + 1) v pre
theorem OwnLv.kept {W W':World} {base:Nat} {v:Value} {l:List Lf} {row:Option Nat} (h:OwnLv W base v l) (hg:W.grownBy W' row) (hr:∀ r,row = some r → ∃ o:Obj,W.heap[r]? = some o ∧ o.isCells = false):OwnLv W' base v l:=
  h.same fun k hk => hg.block k (h.lt k hk).2 fun e => by
    obtain ⟨o,h1,h2⟩:=hr k e.symm
    rcases h.1 with ⟨_,⟨rfl,_⟩ | ⟨g,cap,cur,rfl,_,hh,_⟩⟩
    · cases hk
    · cases hk
      rw [hh] at h1
      cases h1
      cases h2
theorem LoI.own {v0:World} {n₀ B g2:Nat} (hB:n₀ ≤ B):OwnFrom B (LoI v0 n₀ g2):=fun s A W' row hs hg hr => by
  obtain ⟨v,h1,h2⟩:=hs.row
  exact ⟨hs.bel.grown hg hs.ge (fun k e => Nat.le_trans hB (hr k e).1),Nat.le_trans hs.ge hg.size,v,blk_own (β:=Unit) g2 (fun _ => [v]) _ () A W' row h1 hg (fun r e => (hr r e).2),h2.kept hg (fun r e => (hr r e).2)⟩
theorem LoI.next {v0 W W':World} {n₀ g2:Nat} {pre:List Lf} (h:LoI v0 n₀ g2 pre W) (hb:Below W.heap.size W W'):LoI v0 n₀ g2 pre W':=by
  obtain ⟨v,h1,h2⟩:=h.row
  exact ⟨h.bel.trans (hb.mono h.ge),Nat.le_trans h.ge hb.size,v,h1.below hb h1.lt,h2.next hb⟩
set_option maxHeartbeats 8000000 in
theorem pgLeavesOf_any (g:Nat) (l:List Lf) (w:World) (hT:TreeIs w 0 g l) (hl:l.length < 100000) :
    Calls Tryz.prog 40 #[.pointer (some ⟨g,0,none⟩)] w fun e w' => ∃ v,e = .returned v ∧ OwnLv w' w.heap.size v l ∧ Below w.heap.size w w':=by
  obtain ⟨n₀,HN0⟩:∃ n,Hid (n = w.heap.size):=⟨_,rfl⟩
  have HT:Hid (TreeIs w 0 g l):=hT
  have HL:Hid (l.length < 100000):=hl
  obtain ⟨w1,HW1⟩:∃ z,Hid (z = w.alloc (.cells [Value.slice none 0 0].toArray 83)):=⟨_,rfl⟩
  have HI1:Hid (LoI w n₀ n₀ [] w1 ∧ n₀ + 1 ≤ w1.heap.size):=by
    rw [HW1.out,HN0.out]
    exact ⟨⟨below_alloc _ _,by simp,.slice none 0 0,Blk.new _ _ _,OwnLv.nil _ _⟩,by simp⟩
  clear hT hl
  refine (callsIn_wide (n:=4)).1 ?_
  refine callsIn_of_wp_marks Tryz.func40 rfl trivial ?_ rfl
  simp only [Tryz.ntmps40,List.size_toArray,List.length_cons,List.length_nil,Nat.reduceAdd,Nat.reduceSub,Array.replicate_succ,Array.replicate_zero,List.push_toArray,List.append_toArray,List.nil_append,List.cons_append]
  refine wpIn_wide.2 ?_
  go_upto_region 1 with fail
  change Code.wp _ _ _ _ (w.alloc (.cells [Value.slice none 0 0].toArray 83))
  rw [← HW1.out]
  have e1:(some ⟨w.heap.size,0,none⟩:Option Addr) = some ⟨n₀,0,none⟩:=by rw [HN0.out]
  simp only [e1]
  clear e1
  go_wp2_with (go_at_call 73;refine (trAll_any _ g).mono ?_;rintro e w2 ⟨gb,rfl,hbb,hb⟩
               have HGB:Hid (Blk w2 gb [ptr g] 35):=hbb
               have HI2:Hid (LoI w n₀ n₀ [] w2 ∧ n₀ + 1 ≤ w2.heap.size):=⟨HI1.out.1.next hb,Nat.le_trans HI1.out.2 hb.size⟩
               clear hb hbb HI1)
  refine (wpIn_wide (n:=4)).1 ?_
  refine wpIn_rangeFunc_ownH (F:=Fence.wide) (α:=Lf32) rfl (by omega) (gf:=95) (lb:=#[.pointer (some ⟨gb,0,none⟩)]) rfl trivial (enters_of Tryz.func95 (by kernel_rfl) rfl)
    (all_stops 3 (v0:=w) (n₀:=n₀) HN0.out.symm HT.out w2 HI2.out.1.bel HI2.out.1.ge HGB.out) belowK_t (fun W l o o' h1 h2 h3 h4 => belowK_b (w:=w2) HI2.out.1.ge W l o o' h1 h2 h3 h4) (Below.refl _ _) (fun _ => rfl)
    (fun pre W => LoI w n₀ n₀ (pre.map (·.1)) W) (fun _ _ _ => False)
    (fun s A W' row hs hg hr => LoI.own HI2.out.1.ge (s.map (·.1)) A W' row hs hg hr) (fun c s A W' row hs _ _ => hs.elim) HI2.out.1
    (fun x a' W => ∃ gx gv,a' = { tmps:=#[.pointer (some ⟨g,0,none⟩),undef,.pointer (some ⟨n₀,0,none⟩),.pointer (some ⟨gx,0,none⟩),.pointer (some ⟨gv,0,none⟩),.pointer (some ⟨g,0,none⟩),.bool false,.pointer (some ⟨g,0,none⟩),.func (.func 95) #[] #[.pointer (some ⟨gb,0,none⟩)],.agg (cb x.1.1).toArray,.agg (cb x.1.2).toArray,undef,undef,undef,undef,undef,undef,undef],defers:=[] } ∧ Blk W gx (cb x.1.1) 39 ∧ Blk W gv (cb x.1.2) 39) ?hax ?assign ?body ?done ?stop
  case hax =>
    rintro x a' _ A W' row ⟨gx,gv,h1,h2,h3⟩ hg hr
    exact ⟨gx,gv,h1,blk_own (β:=Unit) gx (fun _ => cb x.1.1) _ () A W' row h2 hg (fun r e => (hr r e).2),blk_own (β:=Unit) gv (fun _ => cb x.1.2) _ () A W' row h3 hg (fun r e => (hr r e).2)⟩
  case assign =>
    intro lab pre x W K hI hK
    have HIW:Hid (LoI w n₀ n₀ (pre.map (·.1)) W):=hI
    have HKK:Aside (∀ a' W',KeepsFrom w2.heap.size W W' → Below n₀ W W' → LoI w n₀ n₀ (pre.map (·.1)) W' → (∃ gx gv,a' = { tmps:=#[.pointer (some ⟨g,0,none⟩),undef,.pointer (some ⟨n₀,0,none⟩),.pointer (some ⟨gx,0,none⟩),.pointer (some ⟨gv,0,none⟩),.pointer (some ⟨g,0,none⟩),.bool false,.pointer (some ⟨g,0,none⟩),.func (.func 95) #[] #[.pointer (some ⟨gb,0,none⟩)],.agg (cb x.1.1).toArray,.agg (cb x.1.2).toArray,undef,undef,undef,undef,undef,undef,undef],defers:=[] } ∧ Blk W' gx (cb x.1.1) 39 ∧ Blk W' gv (cb x.1.2) 39) → K a' W'):=hK
    clear hI hK
    simp only [encs32,encsL,List.zip_toArray,List.zip_cons_cons,List.zip_nil_right,List.size_toArray,List.length_cons,List.length_nil,Nat.reduceAdd,Array.foldl]
    gi_wp2_with (first
      | (with_reducible refine wpSeqIn_storeD (.tmp 3) (.tmp 9) gx zb32 x.1.1 ?_ ?_ ?_ ?_ ?_ ?_ ?_ ?_
         · rfl
         · exact x.2.1
         · exact HN1.out.blk
         · rfl
         · rfl
         · rfl
         · rfl
         intro W2 s2 _
         have HC1:Hid (Blk W2 gx (cb x.1.1) 39):=s2.blk
         have HQ1:Hid (Below W.heap.size W W2):=HN1.out.below.trans (s2.only.below HN1.out.ge HN1.out.below.size)
         clear s2 HN1)
      | (with_reducible refine wpSeqIn_storeD (.tmp 4) (.tmp 10) gv zb32 x.1.2 ?_ ?_ ?_ ?_ ?_ ?_ ?_ ?_
         · rfl
         · exact x.2.2
         · exact HN3.out.blk
         · rfl
         · rfl
         · rfl
         · rfl
         intro W4 s4 _
         have HC2:Hid (Blk W4 gv (cb x.1.2) 39):=s4.blk
         have hb4:Below W2.heap.size W2 W4:=HN3.out.below.trans (s4.only.below HN3.out.ge HN3.out.below.size)
         replace HC1:Hid (Blk W4 gx (cb x.1.1) 39):=HC1.out.below hb4 HC1.out.lt
         replace HQ1:Hid (Below W.heap.size W W4):=HQ1.out.trans (hb4.mono HQ1.out.size)
         clear s4 HN3 hb4)
      | (with_reducible refine wpSeqIn_allocD ?_ ?_ ?_
         · rfl
         · rfl
         intro gv W3 n3
         have HN3:Hid (NewB zb32 W2 gv W3):=n3
         clear n3)
      | (with_reducible refine wpSeqIn_allocD ?_ ?_ ?_
         · rfl
         · rfl
         intro gx W1 n1
         have HN1:Hid (NewB zb32 W gx W1):=n1
         clear n1))
    exact HKK.out _ W4 ((keepsOthers_of_below HQ1.out).from _) (HQ1.out.mono HIW.out.ge) (HIW.out.next HQ1.out) ⟨gx,gv,rfl,HC1.out,HC2.out⟩
  case body =>
    rintro lab pre x a' W _ _ hI ⟨gx,gv,rfl,hbx,hbv⟩ hlen
    have HI:Hid (LoI w n₀ n₀ (pre.map (·.1)) W):=hI
    have HX:Hid (Blk W gx (cb x.1.1) 39 ∧ Blk W gv (cb x.1.2) 39):=⟨hbx,hbv⟩
    have H32:Hid (x.1.1.length = 32 ∧ x.1.2.length = 32):=x.2
    have HLN:Hid ((pre.map (·.1)).length < 1000000):=by show _ < _;rw [List.length_map];have:=HL.out;omega
    obtain ⟨v,hbb,how⟩:=hI.row
    obtain ⟨av,cv,hv⟩:=how.form
    obtain ⟨nv,HNV⟩:∃ z:Nat,Hid (z = (pre.map (·.1)).length):=⟨_,rfl⟩
    rw [← HNV.out] at hv
    subst hv
    have HBB:Hid (Blk W n₀ [.slice av nv cv] 83):=hbb
    have HOW:Hid (OwnLv W (n₀ + 1) (.slice av nv cv) (pre.map (·.1))):=how
    have HGE:Hid (n₀ + 1 ≤ W.heap.size):=Nat.succ_le_of_lt hbb.lt
    have c0:W.cell? ⟨n₀,0,none⟩ = some (.slice av nv cv):=hbb.cell 0
    clear hI hbx hbv hlen hbb how
    refine wpIn_block ?_
    refine wpIn_round_list (by kernel_rfl) (by rintro ⟨_,_,h⟩;exact h) ?_
    have tk1:Hid True:=trivial
    go_wp2_with (first
      | (with_reducible refine wpSeq_loadD (.tmp 3) gx x.1.1 H32.out.1 HX.out.1 ?_ ?_ ?_ ?_
         · rfl
         · rfl
         · rfl)
      | (with_reducible refine wpSeq_loadD (.tmp 4) gv x.1.2 H32.out.2 HX.out.2 ?_ ?_ ?_ ?_
         · rfl
         · rfl
         · rfl)
      | (with_reducible refine wpSeq_buildLf (.tmp 12) (.tmp 13) x.1.1 x.1.2 H32.out.1 H32.out.2 ?_ ?_ ?_ ?_ ?_
         · rfl
         · rfl
         · rfl
         · rfl)
      | (clear tk1;with_reducible refine wpSeq_buildLf1 (.tmp 14) x.1.1 x.1.2 H32.out.1 H32.out.2 ?_ ?_ ?_ ?_
         · rfl
         · rfl
         · rfl
         intro g3 W3 hu3 hb3
         have HU3:Hid (Blk W3 g3 (lfC x.1) 120):=hu3
         have HB3:Hid (Below W.heap.size W W3):=hb3
         have HO3:Hid (OwnLv W3 (n₀ + 1) (.slice av nv cv) (pre.map (·.1))):=HOW.out.next hb3
         have HG3:Hid (n₀ + 1 ≤ W3.heap.size):=Nat.le_trans HGE.out hb3.size
         clear hu3 hb3)
      | (with_reducible refine wpSeq_appLf (.tmp 11) (.tmp 15) (n₀ + 1) (.slice av nv cv) (pre.map (·.1)) x.1 g3 HO3.out HU3.out H32.out HLN.out HG3.out ?_ ?_ ?_ ?_ ?_
         · rfl
         · rfl
         · rfl
         · rfl
         intro v4 W4 ho4 hg4
         have hne:(Value.slice av nv cv).ownBlock ≠ some n₀:=fun e => by have:=(HO3.out.lt n₀ e).1;omega
         have HO4:Hid (OwnLv W4 (n₀ + 1) v4 (pre.map (·.1) ++ [x.1])):=ho4
         have HB4:Hid (Blk W4 n₀ [.slice av nv cv] 83):=hg4.mt.blk (HBB.out.below HB3.out HBB.out.lt) hne
         have HF4:Hid (∃ ad n c,v4 = .slice ad n c):=by obtain ⟨a,c,h⟩:=ho4.form;exact ⟨_,_,_,h⟩
         have HK4:Hid (KeepsOthers W W4 ∧ Below n₀ W W4):=⟨(keepsOthers_of_below HB3.out).trans (keeps_mut hg4.mt HO3.out.cells),(HB3.out.mono (Nat.le_of_succ_le HGE.out)).trans (hg4.below (Nat.le_of_succ_le HG3.out) fun k hk => Nat.le_of_succ_le (HO3.out.lt k hk).1)⟩
         clear ho4 hg4 hne)
      | (with_reducible refine wpSeq_cellL (.tmp 2) (.tmp 16) n₀ (.slice av nv cv) v4 HB4.out HF4.out ?_ ?_ ?_ ?_ ?_
         · rfl
         · rfl
         · rfl
         · rfl
         intro W5 hb5 ho5
         have HB5:Hid (Blk W5 n₀ [v4] 83):=hb5
         have HO5:Hid (Only n₀ W4 W5):=ho5
         clear hb5 ho5))
    have hlt:=HB4.out.lt
    refine ⟨(HK4.out.1.trans (keeps_mut (HO5.out.mut (P:=fun k => k = n₀) rfl) fun k e => by subst e;exact ⟨_,_,_,HB4.out⟩)).from _,HK4.out.2.trans (HO5.out.below (Nat.le_refl _) (Nat.le_of_lt hlt)),?_⟩
    refine ⟨HI.out.bel.trans (HK4.out.2.trans (HO5.out.below (Nat.le_refl _) (Nat.le_of_lt hlt))),Nat.le_trans (Nat.le_of_lt hlt) HO5.out.size,v4,HB5.out,?_⟩
    rw [List.map_append]
    exact HO4.out.same fun k hk => HO5.out.block k (fun e => by have:=(HO4.out.lt k hk).1;omega) (HO4.out.lt k hk).2
  case done =>
    rintro D ys W hD hys hI hK
    have hI':LoI w n₀ n₀ (ys.map (·.1)) W:=hI
    rw [hys] at hI'
    obtain ⟨v,hbb,how⟩:=hI'.row
    have HD:Hid (n₀ ≤ D):=Nat.le_trans HI2.out.1.ge hD
    have HBB:Hid (Blk W n₀ [v] 83):=hbb
    have HOW:Hid (OwnLv W (n₀ + 1) v l):=how
    have HBW:Hid (Below n₀ w W):=hI'.bel
    have HKD:Hid (W.heap[D]? = some (.deferred (some []))):=hK
    have HF:Hid (∃ ad n c,v = .slice ad n c):=by obtain ⟨a,c,h⟩:=how.form;exact ⟨_,_,_,h⟩
    have c0:W.cell? ⟨n₀,0,none⟩ = some v:=hbb.cell 0
    have HVO:Hid (v.oneCell' = true):=by obtain ⟨a,n,c,h⟩:=HF.out;show _ = _;rw [h];rfl
    clear hI hI' hys hbb how hK hD
    obtain ⟨av,nv,cv,hv⟩:=HF.out
    subst hv
    gi_wp2
    go_wp2_with (with_reducible refine wpSeq_cellL (.tmp 2) (.tmp 17) n₀ (.slice av nv cv) (.slice av nv cv) HBB.out HF.out ?_ ?_ ?_ ?_ ?_
                 · rfl
                 · rfl
                 · rfl
                 · rfl
                 intro W2 hb2 ho2
                 have HB2:Hid (Blk W2 n₀ [.slice av nv cv] 83):=hb2
                 have HO2:Hid (Only n₀ W W2):=ho2
                 clear hb2 ho2)
    all_goals
      have hne:D ≠ n₀:=fun e => by have h1:=HKD.out;rw [e] at h1;have h2:=HBB.out;unfold Blk at h2;rw [h1] at h2;cases h2
      have hlt:=(Array.getElem?_eq_some_iff.1 HKD.out).1
      have hK':W2.heap[D]? = some (.deferred (some [])):=by rw [HO2.out.block D hne hlt];exact HKD.out
      refine ⟨by simp,.inl ⟨_,_,rfl,run_takeDeferred hK',?_⟩⟩
      have hc5:=((HB2.out).put hK' rfl (o':=.deferred none)).cell 0
      have hbl:=HBB.out.lt
      refine ⟨.slice av nv cv,?_,_,rfl,?_,?_⟩
      · simp at hc5
        simp [results,Tryz.f40,go_sem,hc5]
      · have h:=HOW.out.same (w':=W2) fun k hk => HO2.out.block k (fun e => by have:=(HOW.out.lt k hk).1;omega) (HOW.out.lt k hk).2
        have h2:=h.kept (grownBy_putObj' W2 D (.deferred none)) (fun r e => by cases e;exact ⟨_,hK',rfl⟩)
        rw [← HN0.out]
        exact ⟨ownsRow_lower h2.1,h2.2⟩
      · rw [← HN0.out]
        exact (HBW.out.trans (HO2.out.below (Nat.le_refl _) (Nat.le_of_lt hbl))).trans (belowK_b (w:=w) (n₀:=n₀) (by rw [HN0.out];exact Nat.le_refl _) _ D _ _ (by rw [← HN0.out];exact HD.out) hK' rfl rfl)
  case stop =>
    rintro D c pre W _ _ hX _
    exact hX.elim
theorem PgS.lower {W:World} {base B:Nat} {v:Value} {us:List Value} {ps:List By} {X:Nat → Prop} (h:PgS W base v us ps X) (hB:B ≤ base):PgS W B v us ps X:=by
  refine ⟨?_,h.len,h.good⟩
  obtain ⟨h1,h2 | ⟨g,cap,cur,e,hg,r⟩⟩:=h.own
  · exact ⟨h1,Or.inl h2⟩
  · exact ⟨h1,Or.inr ⟨g,cap,cur,e,Nat.le_trans hB hg,r⟩⟩
theorem save_few {l:List Lf} (h1:okLf l) (h2:Up l) (hl:l.length ≤ 100):(saveL 0 l).length ≤ 25601:=by
  have:=save_count 256 0 l rfl (fits_zero h1 h2)
  omega
set_option maxHeartbeats 4000000 in
theorem pgSave_any (g:Nat) (l:List Lf) (w:World) (hK:KOk w) (hT:TT w g l) (hl:l.length ≤ 100) :
    Calls Tryz.prog 21 #[.pointer (some ⟨g,0,none⟩)] w fun e w' => ∃ v us,e = .returned (.tuple #[.agg (cb (dig (topPg 0 l))).toArray,v]) ∧ PgS w' w.heap.size v us (saveL 0 l) (fun _ => False) ∧ Below w.heap.size w w':=by
  obtain ⟨dg,HDG⟩:∃ x,Hid (x = dig (topPg 0 l)):=⟨_,rfl⟩
  have HDL:Hid (dg.length = 32):=by show _ = _;rw [HDG.out];exact len_dig' _
  have HT:Hid (TT w g l):=hT
  have HK:Hid (KOk w):=hK
  have HL:Hid (l.length ≤ 100):=hl
  clear hK hT hl
  go_enter Tryz.func21,Tryz.ntmps21
  go_wp2_with (first
    | (with_reducible refine wpSeq_allocD ?_ ?_ ?_
       · rfl
       · rfl
       intro g2 w1 nn
       have HN2:Hid (Blk w1 g2 (cb zb32) 39 ∧ w.heap.size ≤ g2):=⟨nn.blk,nn.ge⟩
       have HBW:Hid (Below w.heap.size w w1):=nn.below
       replace HK:Hid (KOk w1):=HK.out.below nn.below HK.out.lt
       replace HT:Hid (TT w1 g l):=HT.out.next nn.below
       clear nn)
    | (go_at_call 40;refine (pgLeavesOf_any g l _ HT.out.1 (Nat.lt_of_le_of_lt HL.out (by decide))).mono ?_;rintro e w2 ⟨vl,rfl,ho,hb⟩
       have HR2:Hid (RdLb w2.heap.size w2 vl l):=⟨ho.rd,fun k hk => (ho.lt k hk).2⟩
       have HN3:Hid (Blk w2 g2 (cb zb32) 39 ∧ w.heap.size ≤ g2):=⟨HN2.out.1.below hb HN2.out.1.lt,HN2.out.2⟩
       have HF:Hid (Fits l 0):=fits_zero HT.out.2.1 HT.out.2.2
       have HSC:Hid (([]:List By).length + (saveL 0 l).length < 100000):=by have:=save_few HT.out.2.1 HT.out.2.2 HL.out;show _ < _;rw [List.length_nil];omega
       replace HBW:Hid (Below w.heap.size w w2):=HBW.out.trans (hb.mono HBW.out.size)
       replace HK:Hid (KOk w2):=HK.out.below hb HK.out.lt
       clear ho hb HN2 HT)
    | (go_at_call 39;refine (pgPages_any 256 0 rfl w2.heap.size (.slice none 0 0) vl [] [] l (fun k => k = g2) w2 HK.out HK.out.lt HF.out HR2.out (PgS.nil _ _ _) (Nat.le_refl _) (fun k e => by rw [e];exact HN3.out.1.lt) (Nat.lt_of_le_of_lt HL.out (by decide)) HSC.out).mono ?_;rintro e w3 ⟨v,us,rfl,hp,hg⟩
       rw [← HDG.out]
       have hb:Below w2.heap.size w2 w3:=hg.below (Nat.le_refl _) fun k e => by cases e
       have HP:Hid (PgS w3 w2.heap.size v us (saveL 0 l) (fun k => k = g2)):=hp
       have HN4:Hid (Blk w3 g2 (cb zb32) 39):=HN3.out.1.below hb HN3.out.1.lt
       have HBW3:Hid (Below w.heap.size w w3 ∧ w.heap.size ≤ w2.heap.size ∧ w.heap.size ≤ g2):=⟨HBW.out.trans (hb.mono HBW.out.size),HBW.out.size,HN3.out.2⟩
       clear hp hg hb HK HR2 HN3 HF HSC)
    | (with_reducible refine wpSeq_storeD (.tmp 2) (.tmp 7) g2 zb32 dg zb32_len HDL.out HN4.out ?_ ?_ ?_ ?_ ?_
       · rfl
       · rfl
       · rfl
       · rfl
       intro w4 h9
       have HN5:Hid (Blk w4 g2 (cb dg) 39 ∧ Only g2 w3 w4):=⟨h9.blk,h9.only⟩
       clear h9))
  refine bodyPost_ret (results_row_tmp (by rfl) _ _ _ g2 39 (cb dg) _ v rfl rfl HN5.out.1 Tryz.underlying39 rfl (by rw [cb_len,HDL.out];exact info_digest)) rfl ?_
  refine ⟨v,us,by rw [← HDG.out],?_,HBW3.out.1.trans (HN5.out.2.below HBW3.out.2.2 HBW3.out.1.size)⟩
  exact ((HP.out.only rfl (HP.out.own.ne_blk HN4.out (by decide)) HN5.out.2).weak fun _ _ e => e.elim).lower HBW3.out.2.1
end Go.Proofs.YtphmmnffgknkcaaGreatDoor
namespace Go.Proofs.YtphmmnffgknkcaaGreatDoor
open Go.RowKit
set_option maxRecDepth 100000
theorem while_all {f:Lf → Bool}:∀ {l:List Lf},(∀ q ∈ l,f q = true) → l.takeWhile f = l ∧ l.dropWhile f = []
  | [],_ => ⟨rfl,rfl⟩
  | p :: r,h => by
    have ih:=while_all (l:=r) fun q hq => h q (List.mem_cons_of_mem _ hq)
    have hp:=h p (by simp)
    rw [List.takeWhile_cons_of_pos hp,List.dropWhile_cons_of_pos hp,ih.1,ih.2]
    exact ⟨rfl,rfl⟩
theorem ofL_self {l:List Lf} (hu:Up l):ofL l = l:=by
  have key:∀ n,n ≤ l.length → ofL (l.take n) = l.take n:=by
    intro n
    induction n with
    | zero => intro _;rfl
    | succ n ih =>
      intro hn
      have e:l.take (n + 1) = l.take n ++ [l.getD n ([],[])]:=take_map (by omega)
      rw [e,ofL_snoc,ih (by omega)]
      have hlt:∀ q ∈ l.take n,lessB q.1 (l.getD n ([],[])).1 = true:=fun q hq => by
        have hu2:Up (l.take n ++ [l.getD n ([],[])]):=by rw [← e];exact hu.sublist (List.take_sublist _ _)
        exact (List.pairwise_append.1 hu2).2.2 q hq _ (by simp)
      unfold putL
      have hw:=while_all (f:=fun p:Lf => lessB p.1 (l.getD n ([],[])).1) hlt
      rw [hw.1,hw.2]
      rfl
  have:=key l.length (Nat.le_refl _)
  rwa [List.take_length] at this
theorem zip_self (l:List Lf):(l.map (·.1)).zip (l.map (·.2)) = l:=by
  induction l with
  | nil => rfl
  | cons p r ih => simp only [List.map_cons,List.zip_cons_cons,ih]
theorem psM_of {w:World} {ap:Option Addr} {cp:Nat} {ps:List By} (hR:ReadsL w (.slice ap ps.length cp) ps):PsM w w.heap.size ap ps:=fun W hW i hi hp => by
  obtain ⟨ad,cap,h1,h2,h3,h4⟩:=hR
  simp only [Value.slice.injEq] at h1
  obtain ⟨rfl,_,rfl⟩:=h1
  obtain ⟨b,off,rfl,h5⟩:=h4 (by omega)
  obtain ⟨vj,h6,h7⟩:=h5 i hi
  refine ⟨b,off,vj,rfl,by rw [hW.cell (p:=⟨b,off + i,none⟩) (block_lt_of_cell h6)];exact h6,h7.below hW,fun k hk => ?_⟩
  obtain ⟨ad2,cap2,rfl,h8,h9,h10⟩:=h7
  obtain ⟨b2,off2,rfl,h11⟩:=h10 hp
  cases hk
  exact block_lt_of_cell (h11 0 hp)
section
variable {w0:World} {B gr gm:Nat} {ap:Option Addr} {cp:Nat} {ps:List By}
theorem top_ok (hM:PsM w0 B ap ps) (hn:ps.length < 1000000) (l:List Lf) (hF:Fits l 0) (hf:Free ps (saveL 0 l)) (hk:(saveL 0 l).length ≤ ps.length + 1) (hS:∀ p ∈ saveL 0 l,p ∈ ps) (hl:l.length < 100000) (ix iv:Value) (W:World) (hi:RrI w0 B gr gm (.slice ap ps.length cp) ps 0 ix iv [] [] W) :
    Calls Tryz.prog 19 #[.pointer (some ⟨gr,0,none⟩),.agg (cb (dig (topPg 0 l))).toArray,.agg (cb zb32).toArray,.int .i64 0] W fun e w' => e = .returned (.int .i64 0) ∧ ∃ k' ix' iv',RrI w0 B gr gm (.slice ap ps.length cp) ps k' ix' iv' (l.map (·.1)) (l.map (·.2)) w' ∧ RdG gr ix iv W ix' iv' w':=by
  have hst:=save_top 0 l
  have hpc:=top_pc 256 0 l rfl hF
  have ht:=top_short (by omega) hF
  rw [hst] at hf hk hS
  rw [List.length_cons] at hk
  obtain ⟨hin,i,hpl,hil,hit⟩:=(plK_find (hf (topPg 0 l) (by simp))).resolve_right (fun h => h.1 (hS (topPg 0 l) (by simp)))
  obtain ⟨b,off,vj,hap,hrow,hrd⟩:=hM W hi.bel i hil (by rw [hit];omega)
  rw [hit] at hrd
  obtain ⟨bj,oj,cj,hvj,_⟩:=hrd.at (by omega)
  refine pgPage_ok w0 B gr gm ap ps.length cp ps 0 ix iv [] [] (dig (topPg 0 l)) zb32 0 W hi (len_dig' _) rfl i b off vj _ hpl hil hap hrow ⟨_,_,_,hvj⟩ fun W' hW' => ?_
  refine ((piece_any hM hn hpc 0 ix iv [] [] vj [] zb32 W' (hi.next hW') (WyP.zero l) (by rw [List.append_nil];exact hrd.nextP hW') (fun p hp => hf p (List.mem_cons_of_mem _ hp)) (by omega) (by rw [List.append_nil];omega) (by simpa using hl) (by simpa using hl)).1 (fun p hp => hS p (List.mem_cons_of_mem _ hp))).mono (two_mono fun a b w' => ?_)
  rintro ⟨e1,e2,ix',iv',e3,e4⟩
  obtain ⟨ad,c,e5,_⟩:=e2.1
  exact ⟨e1,⟨ad,c,e5⟩,_,ix',iv',e3,e4.from hW'⟩
end
theorem built_rd (f:Operand → Value) (o:Oper) (x y:Operand) (ap:Option Addr) (np cp gm:Nat) (ho:o.op = .build 58 #[(0,x),(1,y)]) (hx:f x = .slice ap np cp) (hy:f y = .map (some gm)) (w:World):(execOp f o).run Tryz.prog w = .ok (.value (.agg (rdC (.slice ap np cp) gm 0 nilV nilV).toArray)) w:=by
  unfold execOp
  rw [ho]
  simp only [List.map_toArray,List.map_cons,List.map_nil,hx,hy]
  kernel_rfl
theorem wpSeq_buildRd {ops:Array Oper} {Q:Exit → Act → World → Prop} {rest:List Oper} {o:Oper} {a:Act} {w:World} (x y:Operand) (ap:Option Addr) (np cp gm:Nat) (ho:o.op = .build 58 #[(0,x),(1,y)]) (hx:a.eval x = .slice ap np cp) (hy:a.eval y = .map (some gm)) (hw:Region.wanted o (yielded ops a.tmps) = true)
    (h:wpList Tryz.prog ops Q rest (a.put o.dst (.agg (rdC (.slice ap np cp) gm 0 nilV nilV).toArray)) w):wpList Tryz.prog ops Q (o :: rest) a w:=wpSeq_val _ _ hw (built_rd _ o x y ap np cp gm ho hx hy w) h
def rdZ:List Value:=[.slice none 0 0,.map none,.int .i64 0,.slice none 0 0,.slice none 0 0]
theorem wpSeq_allocRd {ops:Array Oper} {Q:Exit → Act → World → Prop} {rest:List Oper} {o:Oper} {a:Act} {w:World} (ho:o.op = .alloc 58) (hw:Region.wanted o (yielded ops a.tmps) = true)
    (h:∀ g w',Blk w' g rdZ 58 → w.heap.size ≤ g → Below w.heap.size w w' → wpList Tryz.prog ops Q rest (a.put o.dst (.pointer (some ⟨g,0,none⟩))) w'):wpList Tryz.prog ops Q (o :: rest) a w:=
  wpSeq_val _ (w.alloc (.cells rdZ.toArray 58)) hw (by unfold execOp;rw [ho];kernel_rfl) (h _ _ (Blk.new w _ _) (Nat.le_refl _) (below_alloc w _))
theorem wpSeq_storeRd {ops:Array Oper} {Q:Exit → Act → World → Prop} {rest:List Oper} {o:Oper} {a:Act} {w:World} (x y:Operand) (g:Nat) (ap:Option Addr) (np cp gm:Nat) (hb:Blk w g rdZ 58) (ho:o.op = .store 58 x y) (hx:a.eval x = .pointer (some ⟨g,0,none⟩)) (hy:a.eval y = .agg (rdC (.slice ap np cp) gm 0 nilV nilV).toArray) (hgd:o.guard = none)
    (h:∀ w',Blk w' g (rdC (.slice ap np cp) gm 0 nilV nilV) 58 → Only g w w' → wpList Tryz.prog ops Q rest (a.put o.dst undef) w'):wpList Tryz.prog ops Q (o :: rest) a w:=
  wpList_store_mid hgd 58 x y ho g 0 _ hx hy (hb.there 0 _ (by simp [rdC,rdZ])) (by kernel_rfl) (all_oneCell_toArray (by intro v hv;simp only [rdC,List.mem_cons,List.not_mem_nil,or_false] at hv;rcases hv with rfl | rfl | rfl | rfl | rfl <;> rfl))
    (by rw [List.toList_toArray];exact h _ (hb.whole _ (by simp [rdC,rdZ])) (Only.setCells _ _ _ (Only.refl g w)))
set_option maxHeartbeats 8000000 in
theorem pgLoad_ok (l:List Lf) (pv:Value) (ps:List By) (w:World) (hK:KOk w) (h1:okLf l) (h2:Up l) (hl:l.length ≤ 60) (hR:ReadsL w pv ps) (hn:ps.length < 100000) (hb:∀ p ∈ ps,p.length < 1125899906842624) (hf:Free ps (saveL 0 l)) (hk:(saveL 0 l).length ≤ ps.length + 1) (hS:∀ p ∈ saveL 0 l,p ∈ ps) :
    Calls Tryz.prog 8 #[.agg (cb (dig (topPg 0 l))).toArray,pv] w fun e w' => ∃ g,e = .returned (.tuple #[.pointer (some ⟨g,0,none⟩),.int .i64 0]) ∧ TT w' g l ∧ Below w.heap.size w w':=by
  obtain ⟨x,HX⟩:∃ z,Hid (z = dig (topPg 0 l)):=⟨_,rfl⟩
  have HXL:Hid (x.length = 32):=by show _ = _;rw [HX.out];exact len_dig' _
  obtain ⟨ap,cp,hpv⟩:∃ ap cp,pv = .slice ap ps.length cp:=by obtain ⟨ad,cap,h,_⟩:=hR;exact ⟨ad,cap,h⟩
  subst hpv
  have hM:=psM_of hR
  have HRL:Hid (ReadsL w (.slice ap ps.length cp) ps):=hR
  obtain ⟨np,HNP⟩:∃ z,Hid (z = ps.length):=⟨_,rfl⟩
  have HPG:Hid (∀ gr gm W,RrI w w.heap.size gr gm (.slice ap np cp) ps 0 nilV nilV [] [] W → Calls Tryz.prog 19 #[.pointer (some ⟨gr,0,none⟩),.agg (cb x).toArray,.agg (cb zb32).toArray,.int .i64 0] W fun e w' => e = .returned (.int .i64 0) ∧ ∃ k' ix' iv',RrI w w.heap.size gr gm (.slice ap np cp) ps k' ix' iv' (l.map (·.1)) (l.map (·.2)) w' ∧ RdG gr nilV nilV W ix' iv' w'):=by
    rw [HX.out,HNP.out]
    intro gr gm W hi
    exact top_ok hM (by omega) l (fits_zero h1 h2) hf hk hS (by omega) nilV nilV W hi
  rw [← HNP.out] at HRL ⊢
  rw [← HX.out]
  have HK:Hid (KOk w):=hK
  have HK0:Hid (KOk w):=hK
  have HL:Hid (okLf l ∧ Up l ∧ l.length ≤ 60):=⟨h1,h2,hl⟩
  have HPB:Hid (ps.length < 100000 ∧ ∀ p ∈ ps,p.length < 1125899906842624):=⟨hn,hb⟩
  have hq:∀ wx:World,(Op.equalIn 10000 39 (.agg (cb x).toArray) (.agg (cb x).toArray)).run Tryz.prog wx = .ok true wx:=fun wx => eq_dig_same x HXL.out wx
  clear hK h1 h2 hl hR hn hb hf hk hS hM
  go_enter Tryz.func8,Tryz.ntmps8
  have tk0:Hid True:=trivial
  have tk1:Hid True:=trivial
  have tk2:Hid True:=trivial
  have tk3:Hid True:=trivial
  have tk4:Hid True:=trivial
  have tk5:Hid True:=trivial
  have tk6:Hid True:=trivial
  have tk7:Hid True:=trivial
  have tk8:Hid True:=trivial
  have tk9:Hid True:=trivial
  have tk10:Hid True:=trivial
  have tk11:Hid True:=trivial
  have tk12:Hid True:=trivial
  have tk13:Hid True:=trivial
  go_wp2_with (first
    | (clear tk0;with_reducible refine wpSeq_boxD (.tmp 0) x ?_ ?_ ?_ ?_
       · rfl
       · rfl
       · rfl
       intro g2 w1 nn
       have HB1:Hid (Below w.heap.size w w1):=nn.below
       have HG2:Hid (Blk w1 g2 (cb x) 39 ∧ w.heap.size ≤ g2):=⟨nn.blk,nn.ge⟩
       replace HK:Hid (KOk w1):=HK.out.below nn.below HK.out.lt
       replace HRL:Hid (ReadsL w1 (.slice ap np cp) ps):=HRL.out.below nn.below
       clear nn)
    | (clear tk1;go_at_call 18;refine (pgPlaces_any (.slice ap np cp) ps _ HK.out HRL.out HPB.out.1 HPB.out.2).mono ?_;rintro e w2 ⟨gm,rfl,hgm,hmp,hb⟩
       have HMP:Hid (MapP w2 gm ps.length (plK ps ps.length)):=hmp
       replace HG2:Hid (Blk w2 g2 (cb x) 39 ∧ w.heap.size ≤ g2):=⟨HG2.out.1.below hb HG2.out.1.lt,HG2.out.2⟩
       replace HB1:Hid (Below w.heap.size w w2):=HB1.out.trans (hb.mono HB1.out.size)
       replace HK:Hid (KOk w2):=HK.out.below hb HK.out.lt
       clear hgm hmp hb)
    | (clear tk2;with_reducible refine wpSeq_buildRd (.tmp 11) (.tmp 13) ap np cp gm ?_ ?_ ?_ ?_ ?_
       · rfl
       · rfl
       · rfl
       · rfl
       have HQ0:Hid True:=trivial)
    | (clear tk3;with_reducible refine wpSeq_allocRd ?_ ?_ ?_
       · rfl
       · rfl
       intro gr w3 hb3 hge3 hbl3
       have HG3:Hid (Blk w3 gr rdZ 58 ∧ w2.heap.size ≤ gr ∧ Below w2.heap.size w2 w3):=⟨hb3,hge3,hbl3⟩
       clear hb3 hge3 hbl3)
    | (clear tk4;with_reducible refine wpSeq_storeRd (.tmp 6) (.tmp 14) gr ap np cp gm HG3.out.1 ?_ ?_ ?_ ?_ ?_
       · rfl
       · rfl
       · rfl
       · rfl
       intro w4 hb4 ho4
       have hbl:Below w2.heap.size w2 w4:=HG3.out.2.2.trans (ho4.below HG3.out.2.1 HG3.out.2.2.size)
       have HI4:Hid (RrI w w.heap.size gr gm (.slice ap np cp) ps 0 nilV nilV [] [] w4):=⟨HB1.out.trans (hbl.mono HB1.out.size),Nat.le_trans HB1.out.size hbl.size,hb4,Nat.le_trans HB1.out.size HG3.out.2.1,HMP.out.next hbl,OwnD.nil _ _,OwnD.nil _ _,fun j hj => by cases hj⟩
       replace HG2:Hid (Blk w4 g2 (cb x) 39 ∧ w.heap.size ≤ g2):=⟨HG2.out.1.below hbl HG2.out.1.lt,HG2.out.2⟩
       have HNE:Hid (g2 ≠ gr):=fun e => by have h1:=HG2.out.1;have h2:=hb4;rw [e] at h1;unfold Blk at h1 h2;rw [h1] at h2;simp only [Option.some.injEq,Obj.cells.injEq] at h2;exact absurd h2.2.1 (by decide)
       clear hb4 ho4 hbl HG3)
    | (clear tk5;with_reducible refine wpSeq_loadD (.tmp 2) g2 x HXL.out HG2.out.1 ?_ ?_ ?_ ?_
       · rfl
       · rfl
       · rfl
       have HQ1:Hid True:=trivial)
    | (clear tk6;with_reducible refine wpSeq_buildZ0 ?_ ?_ ?_
       · rfl
       · rfl
       have HQ2:Hid True:=trivial)
    | (clear tk7;go_at_call 19;refine (HPG.out gr gm _ HI4.out).mono ?_;rintro e w5 ⟨rfl,k',ix',iv',hi5,hg5⟩
       have HI5:Hid (RrI w w.heap.size gr gm (.slice ap np cp) ps k' ix' iv' (l.map (·.1)) (l.map (·.2)) w5):=hi5
       have HG5:Hid (Blk w5 g2 (cb x) 39 ∧ w.heap.size ≤ g2):=⟨hg5.blk HG2.out.1 HNE.out (fun e => by cases e) (fun e => by cases e),HG2.out.2⟩
       have HK5:Hid (KOk w5):=HK0.out.below hi5.bel HK0.out.lt
       obtain ⟨a5,c5,hix⟩:=hi5.oi.slice
       obtain ⟨b5,d5,hiv⟩:=hi5.ov.slice
       have hc3:w5.cell? ⟨gr,3,none⟩ = some ix':=hi5.blk.cell 3
       have hc4:w5.cell? ⟨gr,4,none⟩ = some iv':=hi5.blk.cell 4
       obtain ⟨n5,HN5⟩:∃ z:Nat,Hid (z = (l.map (·.1)).length):=⟨_,rfl⟩
       obtain ⟨m5,HM5⟩:∃ z:Nat,Hid (z = (l.map (·.2)).length):=⟨_,rfl⟩
       rw [← HN5.out] at hix
       rw [← HM5.out] at hiv
       subst hix
       subst hiv
       clear hi5 hg5)
    | (clear tk8;go_at_call 20;refine (trOf_any _ _ _ (l.map (·.1)) (l.map (·.2)) HK5.out HI5.out.oi.readsD HI5.out.ov.readsD (by rw [List.length_map];have:=HL.out.2.2;omega)).mono ?_;rintro e w6 ⟨gt,rfl,ht,hb⟩
       rw [zip_self,ofL_self HL.out.2.1] at ht
       have HT6:Hid (TT w6 gt l):=ht
       have HB6:Hid (Below w.heap.size w w6):=HI5.out.bel.trans (hb.mono HI5.out.ge)
       replace HK5:Hid (KOk w6):=HK5.out.below hb HK5.out.lt
       replace HG5:Hid (Blk w6 g2 (cb x) 39 ∧ w.heap.size ≤ g2):=⟨HG5.out.1.below hb HG5.out.1.lt,HG5.out.2⟩
       clear ht hb HI5)
    | (clear tk9;go_at_call 21;refine (pgSave_any gt l _ HK5.out HT6.out (Nat.le_trans HL.out.2.2 (by decide))).mono ?_;rintro e w7 ⟨v7,us7,rfl,_,hb⟩
       rw [← HX.out]
       have HT7:Hid (TT w7 gt l):=HT6.out.next hb
       have HB7:Hid (Below w.heap.size w w7):=HB6.out.trans (hb.mono HB6.out.size)
       replace HG5:Hid (Blk w7 g2 (cb x) 39 ∧ w.heap.size ≤ g2):=⟨HG5.out.1.below hb HG5.out.1.lt,HG5.out.2⟩
       clear hb)
    | (clear tk10;with_reducible refine wpSeq_allocD ?_ ?_ ?_
       · rfl
       · rfl
       intro g9 w8 nn
       have HN8:Hid (Blk w8 g9 (cb zb32) 39 ∧ w7.heap.size ≤ g9 ∧ Below w7.heap.size w7 w8):=⟨nn.blk,nn.ge,nn.below⟩
       clear nn)
    | (clear tk11;with_reducible refine wpSeq_storeD (.tmp 9) (.tmp 29) g9 zb32 x zb32_len HXL.out HN8.out.1 ?_ ?_ ?_ ?_ ?_
       · rfl
       · rfl
       · rfl
       · rfl
       intro w9 h9
       have hb:Below w7.heap.size w7 w9:=HN8.out.2.2.trans (h9.only.below HN8.out.2.1 HN8.out.2.2.size)
       have HG9:Hid (Blk w9 g9 (cb x) 39):=h9.blk
       replace HG5:Hid (Blk w9 g2 (cb x) 39 ∧ w.heap.size ≤ g2):=⟨HG5.out.1.below hb HG5.out.1.lt,HG5.out.2⟩
       have HF9:Hid (TT w9 gt l ∧ Below w.heap.size w w9):=⟨HT7.out.next hb,HB7.out.trans (hb.mono HB7.out.size)⟩
       clear h9 hb HN8)
    | (clear tk12;with_reducible refine wpSeq_loadD (.tmp 9) g9 x HXL.out HG9.out ?_ ?_ ?_ ?_
       · rfl
       · rfl
       · rfl
       have HQ3:Hid True:=trivial)
    | (clear tk13;with_reducible refine wpSeq_loadD (.tmp 2) g2 x HXL.out HG5.out.1 ?_ ?_ ?_ ?_
       · rfl
       · rfl
       · rfl
       have HQ4:Hid True:=trivial))
  refine bodyPost_ret (results_tmp2 rfl _ _ _) rfl ?_
  exact ⟨gt,rfl,HF9.out.1,HF9.out.2⟩
set_option maxHeartbeats 8000000 in
theorem pgLoad_fail (x:By) (pv:Value) (ps:List By) (w:World) (hK:KOk w) (hx:x.length = 32) (hR:ReadsL w pv ps) (hn:ps.length < 100000) (hb:∀ p ∈ ps,p.length < 1125899906842624)
    (hpg:∀ ap cp gr gm W,pv = .slice ap ps.length cp → RrI w w.heap.size gr gm (.slice ap ps.length cp) ps 0 nilV nilV [] [] W → Calls Tryz.prog 19 #[.pointer (some ⟨gr,0,none⟩),.agg (cb x).toArray,.agg (cb zb32).toArray,.int .i64 0] W fun e w' => e = .returned (.int .i64 7) ∧ Below w.heap.size w w') :
    Calls Tryz.prog 8 #[.agg (cb x).toArray,pv] w fun e w' => e = .returned (.tuple #[.pointer none,.int .i64 7]) ∧ Below w.heap.size w w':=by
  have HXL:Hid (x.length = 32):=hx
  obtain ⟨ap,cp,hpv⟩:∃ ap cp,pv = .slice ap ps.length cp:=by obtain ⟨ad,cap,h,_⟩:=hR;exact ⟨ad,cap,h⟩
  subst hpv
  have HRL:Hid (ReadsL w (.slice ap ps.length cp) ps):=hR
  obtain ⟨np,HNP⟩:∃ z,Hid (z = ps.length):=⟨_,rfl⟩
  have HPG:Hid (∀ gr gm W,RrI w w.heap.size gr gm (.slice ap np cp) ps 0 nilV nilV [] [] W → Calls Tryz.prog 19 #[.pointer (some ⟨gr,0,none⟩),.agg (cb x).toArray,.agg (cb zb32).toArray,.int .i64 0] W fun e w' => e = .returned (.int .i64 7) ∧ Below w.heap.size w w'):=by
    rw [HNP.out]
    exact fun gr gm W hi => hpg ap cp gr gm W rfl hi
  rw [← HNP.out] at HRL ⊢
  have HK:Hid (KOk w):=hK
  have HK0:Hid (KOk w):=hK
  have HPB:Hid (ps.length < 100000 ∧ ∀ p ∈ ps,p.length < 1125899906842624):=⟨hn,hb⟩
  have hq:∀ wx:World,(Op.equalIn 10000 39 (.agg (cb x).toArray) (.agg (cb x).toArray)).run Tryz.prog wx = .ok true wx:=fun wx => eq_dig_same x HXL.out wx
  clear hK hR hn hb hpg hx
  go_enter Tryz.func8,Tryz.ntmps8
  have tk0:Hid True:=trivial
  have tk1:Hid True:=trivial
  have tk2:Hid True:=trivial
  have tk3:Hid True:=trivial
  have tk4:Hid True:=trivial
  have tk5:Hid True:=trivial
  have tk6:Hid True:=trivial
  have tk7:Hid True:=trivial
  go_wp2_with (first
    | (clear tk0;with_reducible refine wpSeq_boxD (.tmp 0) x ?_ ?_ ?_ ?_
       · rfl
       · rfl
       · rfl
       intro g2 w1 nn
       have HB1:Hid (Below w.heap.size w w1):=nn.below
       have HG2:Hid (Blk w1 g2 (cb x) 39 ∧ w.heap.size ≤ g2):=⟨nn.blk,nn.ge⟩
       replace HK:Hid (KOk w1):=HK.out.below nn.below HK.out.lt
       replace HRL:Hid (ReadsL w1 (.slice ap np cp) ps):=HRL.out.below nn.below
       clear nn)
    | (clear tk1;go_at_call 18;refine (pgPlaces_any (.slice ap np cp) ps _ HK.out HRL.out HPB.out.1 HPB.out.2).mono ?_;rintro e w2 ⟨gm,rfl,hgm,hmp,hb⟩
       have HMP:Hid (MapP w2 gm ps.length (plK ps ps.length)):=hmp
       replace HG2:Hid (Blk w2 g2 (cb x) 39 ∧ w.heap.size ≤ g2):=⟨HG2.out.1.below hb HG2.out.1.lt,HG2.out.2⟩
       replace HB1:Hid (Below w.heap.size w w2):=HB1.out.trans (hb.mono HB1.out.size)
       replace HK:Hid (KOk w2):=HK.out.below hb HK.out.lt
       clear hgm hmp hb)
    | (clear tk2;with_reducible refine wpSeq_buildRd (.tmp 11) (.tmp 13) ap np cp gm ?_ ?_ ?_ ?_ ?_
       · rfl
       · rfl
       · rfl
       · rfl
       have HQ0:Hid True:=trivial)
    | (clear tk3;with_reducible refine wpSeq_allocRd ?_ ?_ ?_
       · rfl
       · rfl
       intro gr w3 hb3 hge3 hbl3
       have HG3:Hid (Blk w3 gr rdZ 58 ∧ w2.heap.size ≤ gr ∧ Below w2.heap.size w2 w3):=⟨hb3,hge3,hbl3⟩
       clear hb3 hge3 hbl3)
    | (clear tk4;with_reducible refine wpSeq_storeRd (.tmp 6) (.tmp 14) gr ap np cp gm HG3.out.1 ?_ ?_ ?_ ?_ ?_
       · rfl
       · rfl
       · rfl
       · rfl
       intro w4 hb4 ho4
       have hbl:Below w2.heap.size w2 w4:=HG3.out.2.2.trans (ho4.below HG3.out.2.1 HG3.out.2.2.size)
       have HI4:Hid (RrI w w.heap.size gr gm (.slice ap np cp) ps 0 nilV nilV [] [] w4):=⟨HB1.out.trans (hbl.mono HB1.out.size),Nat.le_trans HB1.out.size hbl.size,hb4,Nat.le_trans HB1.out.size HG3.out.2.1,HMP.out.next hbl,OwnD.nil _ _,OwnD.nil _ _,fun j hj => by cases hj⟩
       replace HG2:Hid (Blk w4 g2 (cb x) 39 ∧ w.heap.size ≤ g2):=⟨HG2.out.1.below hbl HG2.out.1.lt,HG2.out.2⟩
       have HNE:Hid (g2 ≠ gr):=fun e => by have h1:=HG2.out.1;have h2:=hb4;rw [e] at h1;unfold Blk at h1 h2;rw [h1] at h2;simp only [Option.some.injEq,Obj.cells.injEq] at h2;exact absurd h2.2.1 (by decide)
       clear hb4 ho4 hbl HG3)
    | (clear tk5;with_reducible refine wpSeq_loadD (.tmp 2) g2 x HXL.out HG2.out.1 ?_ ?_ ?_ ?_
       · rfl
       · rfl
       · rfl
       have HQ1:Hid True:=trivial)
    | (clear tk6;with_reducible refine wpSeq_buildZ0 ?_ ?_ ?_
       · rfl
       · rfl
       have HQ2:Hid True:=trivial)
    | (clear tk7;go_at_call 19;refine (HPG.out gr gm _ HI4.out).mono ?_;rintro e w5 ⟨rfl,hb5⟩
       have HB5:Hid (Below w.heap.size w w5):=hb5
       clear hb5))
  refine bodyPost_ret (results_tmp2 rfl _ _ _) rfl ?_
  exact ⟨rfl,HB5.out⟩
theorem pgLoad_none (x:By) (pv:Value) (ps:List By) (w:World) (hK:KOk w) (hx:x.length = 32) (hR:ReadsL w pv ps) (hn:ps.length < 100000) (hb:∀ p ∈ ps,p.length < 1125899906842624) (hp:∀ p ∈ ps,dig p ≠ x) :
    Calls Tryz.prog 8 #[.agg (cb x).toArray,pv] w fun e w' => e = .returned (.tuple #[.pointer none,.int .i64 7]) ∧ Below w.heap.size w w':=
  pgLoad_fail x pv ps w hK hx hR hn hb fun ap cp gr gm W _ hi => by
    have hpl:plK ps ps.length x = none:=by
      cases h:plK ps ps.length x with
      | none => rfl
      | some i =>
        obtain ⟨h1,h2⟩:=plK_some h
        exact absurd h2 (hp _ (by rw [List.getD_eq_getElem?_getD,List.getElem?_eq_getElem h1];exact List.getElem_mem h1))
    refine (pgPage_none w w.heap.size gr gm ap ps.length cp ps 0 nilV nilV [] [] x zb32 0 W hi hx hpl).mono ?_
    rintro e w' ⟨e1,e2⟩
    exact ⟨e1,hi.bel.trans (e2.mono hi.ge)⟩
end Go.Proofs.YtphmmnffgknkcaaGreatDoor
namespace Go.Proofs.YtphmmnffgknkcaaGreatDoor
open Go.RowKit
set_option maxRecDepth 100000
end Go.Proofs.YtphmmnffgknkcaaGreatDoor
namespace Go.Proofs.YtphmmnffgknkcaaGreatDoor
open Go.RowKit
set_option maxRecDepth 100000
end Go.Proofs.YtphmmnffgknkcaaGreatDoor
namespace Go.Proofs.YtphmmnffgknkcaaGreatDoor
open Go.RowKit
set_option maxRecDepth 100000
end Go.Proofs.YtphmmnffgknkcaaGreatDoor
namespace Go.Proofs.YtphmmnffgknkcaaGreatDoor
open Go.RowKit
set_option maxRecDepth 100000
structure Row17 (w:World) (g n c:Nat) (ps:List By):Prop where
  len:n = ps.length
  at_:∀ j,j < n → ∃ u,w.cell? ⟨g,j,none⟩ = some u ∧ Reads w u (ps.getD j [])
  rd:ReadsL w (.slice (some ⟨g,0,none⟩) n c) ps
theorem Row17.next {w w':World} {g n c:Nat} {ps:List By} (h:Row17 w g n c ps) (hb:Below w.heap.size w w'):Row17 w' g n c ps:=
  ⟨h.len,fun j hj => by obtain ⟨u,h1,h2⟩:=h.at_ j hj;exact ⟨u,by rw [hb.cell (p:=⟨g,j,none⟩) (block_lt_of_cell h1)];exact h1,h2.below hb⟩,h.rd.below hb⟩
theorem row17_of {w:World} {base:Nat} {v:Value} {us:List Value} {ps:List By} {X:Nat → Prop} (h:PgS w base v us ps X) (hp:0 < ps.length):∃ g n c,v = .slice (some ⟨g,0,none⟩) n c ∧ Row17 w g n c ps:=by
  have hl:=h.len
  obtain ⟨g,c,hv,_,_⟩:=h.own.at (j:=0) (u:=us[0]) (List.getElem?_eq_getElem (by omega))
  refine ⟨g,us.length,c,hv,hl,fun j hj => ?_,?_⟩
  · obtain ⟨g2,c2,hv2,h3,_⟩:=h.own.at (j:=j) (u:=us[j]) (List.getElem?_eq_getElem hj)
    rw [hv] at hv2
    cases hv2
    exact ⟨us[j],h3,(h.good j us[j] (List.getElem?_eq_getElem hj)).1⟩
  · rw [← hv];exact h.readsL
theorem save_pos (d:Nat) (l:List Lf):0 < (saveL d l).length:=by rw [save_top];simp
theorem mem_take17 (O:List By) (p:By) (k:Nat) (hk:k < O.length):decide (p ∈ O.take (k + 1)) = (decide (p ∈ O.take k) || decide (O.getD k [] = p)):=by
  have e:O.take (k + 1) = O.take k ++ [O.getD k []]:=by
    rw [List.take_add_one,List.getElem?_eq_getElem hk,List.getD_eq_getElem?_getD,List.getElem?_eq_getElem hk];rfl
  rw [e]
  by_cases h1:p ∈ O.take k
  · rw [decide_eq_true h1,Bool.true_or];exact decide_eq_true (List.mem_append_left _ h1)
  · rw [decide_eq_false h1,Bool.false_or]
    exact decide_eq_decide.2 ⟨fun h => (List.mem_append.1 h).elim (fun h => absurd h h1) fun h => (List.mem_singleton.1 h).symm,fun h => List.mem_append_right _ (List.mem_singleton.2 h.symm)⟩
theorem idxP (b n c k:Nat) (hk:k < n) (f:Operand → Value) (o:Oper) (x y:Operand) (ho:o.op = .indexAddr 26 x y) (hx:f x = .slice (some ⟨b,0,none⟩) n c) (hy:f y = .int .i64 (k:Int)) (w:World) :
    (execOp f o).run Tryz.prog w = .ok (.value (.pointer (some ⟨b,k,none⟩))) w:=by
  have k0:(0:Int) ≤ (k:Int):=by omega
  have k1:(k:Int) < (n:Int):=by omega
  unfold execOp
  rw [ho]
  simp [go_sem,hx,hy,k0,k1,Addr.add_mid]
end Go.Proofs.YtphmmnffgknkcaaGreatDoor

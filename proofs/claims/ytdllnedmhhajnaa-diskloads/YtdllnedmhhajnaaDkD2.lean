/- DiskDoes over what disk's functions do (layer 13). -/
import Derived.Test.YtdllnedmhhajnaaDkDd
namespace Go.Proofs.Ytdllnedmhhajnaa
open Go.RowKit
set_option maxRecDepth 100000
theorem idxO (b off cap n k : Nat) (hk : k < n) (f : Operand → Value) (o : Oper) (x y : Operand) (ho : o.op = .indexAddr 22 x y) (hx : f x = .slice (some ⟨b, off, none⟩) n cap) (hy : f y = .int .i64 (k : Int)) (w : World) :
    (execOp f o).run Try.prog w = .ok (.value (.pointer (some ⟨b, off + k * 5, none⟩))) w := by
  have k0 : (0 : Int) ≤ (k : Int) := by omega
  have k1 : (k : Int) < (n : Int) := by omega
  unfold execOp
  rw [ho]
  simp [go_sem, hx, hy, k0, k1, Addr.add_mid]
/-- a step is done, the answer kept beside -/
structure D9 (Dk : World → Nat → (Nat → Prop) → DkT → Prop) (w : World) (g gr ga : Nat) (P1 : Nat → Prop) (D1 : DkT) (cv ce : List Value) (vs vw : Value) (W : World) : Prop where
  bel : Below w.heap.size w W
  dk : Dk W g P1 D1
  pw : ∀ k, P1 k → w.heap.size ≤ k
  rr : Blk W gr cv 27
  ra : Blk W ga ce 27
  rs : RdS (Ext P1 [gr]) W D1 vs vw
  np : ¬ P1 gr
/-- the answer takes the place of what was -/
theorem D9.set {Dk : World → Nat → (Nat → Prop) → DkT → Prop} (OPS : DkOps Dk) {w : World} {g gr ga sn k : Nat} {P1 : Nat → Prop} {D1 : DkT} {cv ce : List Value} {vs vw : Value} {W W' : World} (h : D9 Dk w g gr ga P1 D1 cv ce vs vw W) (hb : Blk W' gr (rdC D1 vs vw) 27) (ho : Only gr W W') (hw : w.heap.size ≤ gr) (hk : D1.wait.length ≤ k) (hs : sizeD D1 = sn) : DdI Dk w g gr sn k P1 D1 vs vw W' :=
  ⟨h.bel.trans (ho.below hw h.bel.size), OPS.same h.dk ho.size (fun k hk => ho.block k (fun e => h.np (e ▸ hk)) (OPS.lt h.dk k hk)), h.pw, hb, h.rs.go (ho.mut (Or.inr (by simp))) (fun _ _ h => h), h.np, hw, hk, hs⟩
theorem DdI.step1 {Dk : World → Nat → (Nat → Prop) → DkT → Prop} {w : World} {g gr ga sn k : Nat} {P P1 : Nat → Prop} {D D1 : DkT} {vs vw vs1 vw1 : Value} {ce : List Value} {y0 z yE : World} (h : DdI Dk w g gr sn k P D vs vw y0) (OPS : DkOps Dk) (hm : Mut P y0 z) (hg : Grew y0 P P1) (hd : Dk z g P1 D1) (hr : RdS (Ext P1 [gr]) z D1 vs1 vw1) (hb : Below z.heap.size z yE) (ha : Blk yE ga ce 27) : D9 Dk w g gr ga P1 D1 (rdC D vs vw) ce vs1 vw1 yE := by
  have h1 := h.bel.trans (hm.below h.bel.size h.pw)
  exact ⟨h1.trans (hb.mono h1.size), OPS.same hd hb.size (fun k hk => hb.block k (OPS.lt hd k hk)), fun k hk => (hg k hk).elim (h.pw k) (fun h2 => Nat.le_trans h.bel.size h2), (hm.blk h.rr h.np).below hb (hm.blk h.rr h.np).lt, ha, hr.below hb, fun h2 => h.np (hg.old gr h.rr.lt h2)⟩
theorem DdI.step2 {Dk : World → Nat → (Nat → Prop) → DkT → Prop} {w : World} {g gr ga sn k : Nat} {P P1 : Nat → Prop} {D D1 : DkT} {vs vw vs1 vw1 : Value} {ce : List Value} {y0 a z yE : World} (h : DdI Dk w g gr sn k P D vs vw y0) (OPS : DkOps Dk) (hba : Below y0.heap.size y0 a) (hga : y0.heap.size ≤ ga) (hla : ga < a.heap.size) (hm : Mut P a z) (hg : Grew a P P1) (hd : Dk z g P1 D1) (hr : RdS (Ext P1 [ga, gr]) z D1 vs1 vw1) (ho : Only ga z yE) (ha : Blk yE ga ce 27) : D9 Dk w g gr ga P1 D1 (rdC D vs vw) ce vs1 vw1 yE := by
  have hi := h.next OPS hba
  have h1 := hi.bel.trans (hm.below hi.bel.size hi.pw)
  have hnp : ¬ P1 ga := fun h2 => absurd (OPS.lt h.dk ga (hg.old ga hla h2)) (by omega)
  have hrr := hm.blk hi.rr hi.np
  have hne : gr ≠ ga := by have := h.rr.lt; omega
  exact ⟨h1.trans (ho.below (Nat.le_trans h.bel.size hga) h1.size), OPS.same hd ho.size (fun k hk => ho.block k (fun e => hnp (e ▸ hk)) (OPS.lt hd k hk)), fun k hk => (hg k hk).elim (hi.pw k) (fun h2 => Nat.le_trans hi.bel.size h2), hrr.only ho hne, ha, (hr.go (ho.mut (Or.inr (by simp))) (fun _ _ h => h)).less, fun h2 => hi.np (hg.old gr hi.rr.lt h2)⟩
set_option maxRecDepth 100000 in
set_option maxHeartbeats 8000000 in
theorem diskDoes_law {Dk : World → Nat → (Nat → Prop) → DkT → Prop} (OPS : DkOps Dk) (n : Int) (v : Value) (l : List OpT) (w : World) (hl : ReadsO w v l) :
    Calls Try.prog 3 #[.int .i64 n, v] w fun e w' => e = .returned (.bool true) ∧ Below w.heap.size w w' := by
  obtain ⟨ad, cp, hv⟩ := hl.form
  obtain ⟨nl, HNL⟩ : ∃ n, Hid (n = l.length) := ⟨_, rfl⟩
  rw [← HNL.out] at hv
  subst hv
  have HL : Hid (ReadsO w (.slice ad nl cp) l) := hl
  have HBW : Hid (Below w.heap.size w w) := Below.refl _ _
  clear hl
  by_cases h60 : nl ≤ 60
  case neg =>
    have HF : Hid (¬ nl ≤ 60) := h60
    clear h60
    go_enter Try.func3, Try.ntmps3
    have tk0 : Hid True := trivial
    have tk1 : Hid True := trivial
    have tk2 : Hid True := trivial
    have tk3 : Hid True := trivial
    have tk4 : Hid True := trivial
    go_wp2_with (first
      | (clear tk0; go_at_call 8; refine (start13_any OPS n w).mono ?_; rintro e0 y1 ⟨sn, g, P, vs0, hs1, hs8, rfl, hdk, hrs, hbz, hpw⟩
         obtain ⟨a0, c0, aw0, cw0, hvs, hvw⟩ := hrs.form
         clear hvw
         obtain ⟨n0, HN0⟩ : ∃ n, Hid (n = (zeroD sn).safe.length) := ⟨_, rfl⟩
         rw [← HN0.out] at hvs
         subst hvs
         have HDK : Hid (Dk y1 g P (zeroD sn)) := hdk
         have HPW : Hid (∀ k, P k → w.heap.size ≤ k) := hpw
         have HRS : Hid (RdS P y1 (zeroD sn) (.slice a0 n0 c0) (.slice none 0 0)) := hrs
         have HSN : Hid (1 ≤ sn ∧ sn ≤ 8) := ⟨hs1, hs8⟩
         replace HBW : Hid (Below w.heap.size w y1) := hbz
         clear hdk hpw hrs hbz hs1 hs8)
      | (clear tk1; with_reducible refine wpSeq_allocRd ?_ ?_ ?_
         · rfl
         · rfl
         intro gr y2 nn
         have NP_gr : Hid (¬ P gr) := fun h => absurd (OPS.lt HDK.out gr h) (by have h2 := nn.ge; omega)
         have GE_gr : Hid (w.heap.size ≤ gr) := Nat.le_trans HBW.out.size nn.ge
         have HRX : Hid (RdS (Ext P [gr]) y1 (zeroD sn) (.slice a0 n0 c0) (.slice none 0 0)) := HRS.out.go (Mut.refl _ _) (fun k hk h => h.elim id (fun h => by rw [List.mem_singleton.1 h] at hk; have h2 := nn.ge; omega)))
      | (clear tk2; with_reducible refine wpSeq_storeRow 27 (.tmp 6) (.tmp 14) gr [.slice none 0 0, .slice none 0 0, .int .i64 0, .bool false] [.slice a0 n0 c0, .slice none 0 0, .int .i64 (-1), .bool false] ?_ ?_ ?_ ?_ ?_ ?_ ?_ ?_ ?_
         · exact nn.blk
         · rfl
         · exact info_rd _ _ _ _
         · exact one_rd _ _ _ _ _ _ _ _
         · rfl
         · rfl
         · rfl
         · rfl
         intro y3 hs
         have hbz := nn.below.trans (hs.only.below nn.ge nn.below.size)
         replace HDK : Hid (Dk y3 g P (zeroD sn)) := OPS.same HDK.out hbz.size (fun k hk => hbz.block k (OPS.lt HDK.out k hk))
         replace HRS : Hid (RdS P y3 (zeroD sn) (.slice a0 n0 c0) (.slice none 0 0)) := HRS.out.below hbz
         replace HBW : Hid (Below w.heap.size w y3) := HBW.out.trans (hbz.mono HBW.out.size)
         have HR : Hid (Blk y3 gr [.slice a0 n0 c0, .slice none 0 0, .int .i64 (-1), .bool false] 27) := hs.blk
         replace HRX : Hid (RdS (Ext P [gr]) y3 (zeroD sn) (.slice a0 n0 c0) (.slice none 0 0)) := HRX.out.below hbz
         clear nn hs hbz)
      | (clear tk3; go_at_call 9; refine (few13_no _ _ _ y3 HF.out).mono ?_; rintro e y4 ⟨rfl, hbz⟩
         replace HR : Hid (Blk y4 gr [.slice a0 n0 c0, .slice none 0 0, .int .i64 (-1), .bool false] 27) := HR.out.below hbz HR.out.lt
         replace HDK : Hid (Dk y4 g P (zeroD sn)) := OPS.same HDK.out hbz.size (fun k hk => hbz.block k (OPS.lt HDK.out k hk))
         replace HBW : Hid (Below w.heap.size w y4) := HBW.out.trans (hbz.mono HBW.out.size)
         clear hbz )
      | (clear tk4; go_at_call 10; refine (works13_any OPS y4).mono ?_; rintro e y5 ⟨rfl, hbz⟩
         replace HR : Hid (Blk y5 gr [.slice a0 n0 c0, .slice none 0 0, .int .i64 (-1), .bool false] 27) := HR.out.below hbz HR.out.lt
         replace HDK : Hid (Dk y5 g P (zeroD sn)) := OPS.same HDK.out hbz.size (fun k hk => hbz.block k (OPS.lt HDK.out k hk))
         replace HBW : Hid (Below w.heap.size w y5) := HBW.out.trans (hbz.mono HBW.out.size)
         clear hbz ))
    go_ret
    exact ⟨rfl, HBW.out⟩
  have HF : Hid (nl ≤ 60) := h60
  clear h60
  go_enter Try.func3, Try.ntmps3
  have tk0 : Hid True := trivial
  have tk1 : Hid True := trivial
  have tk2 : Hid True := trivial
  have tk3 : Hid True := trivial
  go_wp2_with (first
    | (clear tk0; go_at_call 8; refine (start13_any OPS n w).mono ?_; rintro e0 y1 ⟨sn, g, P, vs0, hs1, hs8, rfl, hdk, hrs, hbz, hpw⟩
       obtain ⟨a0, c0, aw0, cw0, hvs, hvw⟩ := hrs.form
       clear hvw
       obtain ⟨n0, HN0⟩ : ∃ n, Hid (n = (zeroD sn).safe.length) := ⟨_, rfl⟩
       rw [← HN0.out] at hvs
       subst hvs
       have HDK : Hid (Dk y1 g P (zeroD sn)) := hdk
       have HPW : Hid (∀ k, P k → w.heap.size ≤ k) := hpw
       have HRS : Hid (RdS P y1 (zeroD sn) (.slice a0 n0 c0) (.slice none 0 0)) := hrs
       have HSN : Hid (1 ≤ sn ∧ sn ≤ 8) := ⟨hs1, hs8⟩
       replace HBW : Hid (Below w.heap.size w y1) := hbz
       clear hdk hpw hrs hbz hs1 hs8)
    | (clear tk1; with_reducible refine wpSeq_allocRd ?_ ?_ ?_
       · rfl
       · rfl
       intro gr y2 nn
       have NP_gr : Hid (¬ P gr) := fun h => absurd (OPS.lt HDK.out gr h) (by have h2 := nn.ge; omega)
       have GE_gr : Hid (w.heap.size ≤ gr) := Nat.le_trans HBW.out.size nn.ge
       have HRX : Hid (RdS (Ext P [gr]) y1 (zeroD sn) (.slice a0 n0 c0) (.slice none 0 0)) := HRS.out.go (Mut.refl _ _) (fun k hk h => h.elim id (fun h => by rw [List.mem_singleton.1 h] at hk; have h2 := nn.ge; omega)))
    | (clear tk2; with_reducible refine wpSeq_storeRow 27 (.tmp 6) (.tmp 14) gr [.slice none 0 0, .slice none 0 0, .int .i64 0, .bool false] [.slice a0 n0 c0, .slice none 0 0, .int .i64 (-1), .bool false] ?_ ?_ ?_ ?_ ?_ ?_ ?_ ?_ ?_
       · exact nn.blk
       · rfl
       · exact info_rd _ _ _ _
       · exact one_rd _ _ _ _ _ _ _ _
       · rfl
       · rfl
       · rfl
       · rfl
       intro y3 hs
       have hbz := nn.below.trans (hs.only.below nn.ge nn.below.size)
       replace HDK : Hid (Dk y3 g P (zeroD sn)) := OPS.same HDK.out hbz.size (fun k hk => hbz.block k (OPS.lt HDK.out k hk))
       replace HRS : Hid (RdS P y3 (zeroD sn) (.slice a0 n0 c0) (.slice none 0 0)) := HRS.out.below hbz
       replace HBW : Hid (Below w.heap.size w y3) := HBW.out.trans (hbz.mono HBW.out.size)
       have HR : Hid (Blk y3 gr [.slice a0 n0 c0, .slice none 0 0, .int .i64 (-1), .bool false] 27) := hs.blk
       replace HRX : Hid (RdS (Ext P [gr]) y3 (zeroD sn) (.slice a0 n0 c0) (.slice none 0 0)) := HRX.out.below hbz
       clear nn hs hbz)
    | (clear tk3; go_at_call 9; refine (few13_yes _ _ _ y3 HF.out).mono ?_; rintro e0 y4 ⟨rfl, hbz⟩
       replace HRX : Hid (RdS (Ext P [gr]) y4 (zeroD sn) (.slice a0 n0 c0) (.slice none 0 0)) := HRX.out.below hbz
       replace HR : Hid (Blk y4 gr [.slice a0 n0 c0, .slice none 0 0, .int .i64 (-1), .bool false] 27) := HR.out.below hbz HR.out.lt
       replace HDK : Hid (Dk y4 g P (zeroD sn)) := OPS.same HDK.out hbz.size (fun k hk => hbz.block k (OPS.lt HDK.out k hk))
       replace HRS : Hid (RdS P y4 (zeroD sn) (.slice a0 n0 c0) (.slice none 0 0)) := HRS.out.below hbz
       replace HBW : Hid (Below w.heap.size w y4) := HBW.out.trans (hbz.mono HBW.out.size)
       clear hbz))
  have HI0 : Hid (DdI Dk w g gr sn 0 P (zeroD sn) (.slice a0 n0 c0) (.slice none 0 0) y4) := ⟨HBW.out, HDK.out, HPW.out, HR.out, HRX.out, NP_gr.out, GE_gr.out, Nat.le_refl _, zero_size sn⟩
  clear HDK HPW HRS HRX HR NP_gr HBW
  go_loopw [7] (fun i wr => ∃ (k : Nat) (P : Nat → Prop) (D : DkT) (va : Option Addr) (na ca : Nat) (vb : Option Addr) (nb cb2 : Nat), k ≤ nl ∧ i = .int .i64 (k : Int) ∧ Hid (DdI Dk w g gr sn k P D (.slice va na ca) (.slice vb nb cb2) wr)) (fun i _ => nl - (intOf i).toNat)
  case atStart => exact ⟨0, P, zeroD sn, a0, n0, c0, none, 0, 0, Nat.zero_le _, rfl, HI0⟩
  case round =>
    clear HI0
    obtain ⟨k, P, D, va, na, ca, vb, nb, cb2, hkn, rfl, HI⟩ := hrel
    obtain ⟨lf, HLF⟩ : ∃ x, Hid (x = D.left) := ⟨_, rfl⟩
    obtain ⟨dn, HDN⟩ : ∃ x, Hid (x = D.down) := ⟨_, rfl⟩
    have HRC : Hid (rdC D (.slice va na ca) (.slice vb nb cb2) = [.slice va na ca, .slice vb nb cb2, .int .i64 lf, .bool dn]) := by show _ = _; rw [rdC, HLF.out, HDN.out]
    have HRR : Hid (Blk wr gr [.slice va na ca, .slice vb nb cb2, .int .i64 lf, .bool dn] 27) := by rw [← HRC.out]; exact HI.out.rr
    have HOK : Hid (okD D) := OPS.ok HI.out.dk
    have c1 : wr.cell? ⟨gr, 1, none⟩ = some (.slice vb nb cb2) := HRR.out.cell 1
    by_cases hlt : k < nl
    case neg =>
      have hlk : ¬ ((k : Int) < (nl : Int)) := by omega
      have HNA : Hid (na = 64 * sn) := by
        show _ = _
        obtain ⟨a1, c1', a2, c2, e1, _⟩ := HI.out.rs.form
        simp only [Value.slice.injEq] at e1
        rw [e1.2.1, HOK.out.size.1, HI.out.sz]
      have hq : Int.tdiv (na : Int) 64 = (sn : Int) := by have h := HNA.out; rw [Int.tdiv_eq_ediv_of_nonneg (by omega)]; omega
      have fq : IntKind.i64.wrap (sn : Int) = (sn : Int) := by rw [IntKind.wrap_i64]; have h := HSN.out; omega
      have HSZ : Hid (∀ (W : World) (X : Nat → Prop), Dk W g X D → Calls Try.prog 16 #[.pointer (some ⟨g, 0, none⟩)] W fun r w' => ∃ P', r = .returned (.int .i64 (sn : Int)) ∧ Dk w' g P' D ∧ Mut X W w' ∧ Grew W X P') := fun W X h => by rw [← HI.out.sz]; exact OPS.size h
      go_wp2
      refine wp_region_held_drew (S := Mut P (World.drew wr)) (by kernel_rfl) (Mut.refl _ _) ?_
      intro hS
      replace HI : Hid (DdI Dk w g gr sn k P D (.slice va na ca) (.slice vb nb cb2) (World.drew wr)) := HI.out.drew OPS
      replace HRR : Hid (Blk (World.drew wr) gr [.slice va na ca, .slice vb nb cb2, .int .i64 lf, .bool dn] 27) := HRR.out.drew
      clear c1
      change wpAnyH _ _ _ _ _ _ _ _ (World.drew wr)
      generalize World.drew wr = y0 at *
      try simp only [Act.put, List.setIfInBounds_toArray, List.set_cons_zero, List.set_cons_succ]
      refine wpAnyH_take (i := 0) (v := .pointer (some ⟨g, 0, none⟩)) rfl (by kernel_rfl) (by kernel_rfl) (by kernel_rfl) (fun _ _ _ h => h) (Or.inl ⟨by rfl, fun wx hx => by simp [go_sem]⟩) hS ?_
      simp only [Act.put, List.getElem_toArray, List.getElem_cons_zero, List.setIfInBounds_toArray, List.set_cons_zero, List.set_cons_succ]
      refine wpAnyH_take (i := 2) (v := .pointer (some ⟨gr, 0, none⟩)) rfl (by kernel_rfl) (by kernel_rfl) (by kernel_rfl) (fun _ _ _ h => h) (Or.inl ⟨by rfl, fun wx hx => by simp [go_sem]⟩) hS ?_
      simp only [Act.put, List.getElem_toArray, List.getElem_cons_succ, List.getElem_cons_zero, List.setIfInBounds_toArray, List.set_cons_zero, List.set_cons_succ]
      refine wpAnyH_take (i := 3) (v := .slice va na ca) rfl (by kernel_rfl) (by kernel_rfl) (by kernel_rfl) (fun _ _ _ h => h) (Or.inl ⟨by rfl, fun wx hx => by (have hc : wx.cell? ⟨gr, 0, none⟩ = some (.slice va na ca) := (hx.blk HRR.out HI.out.np).cell 0); simp [go_sem, hc]⟩) hS ?_
      simp only [Act.put, List.getElem_toArray, List.getElem_cons_succ, List.getElem_cons_zero, List.setIfInBounds_toArray, List.set_cons_zero, List.set_cons_succ]
      refine wpAnyH_take (i := 4) (v := .int .i64 (na : Int)) rfl (by kernel_rfl) (by kernel_rfl) (by kernel_rfl) (fun _ _ _ h => h) (Or.inl ⟨by rfl, fun wx hx => by simp [go_sem]⟩) hS ?_
      simp only [Act.put, List.getElem_toArray, List.getElem_cons_succ, List.getElem_cons_zero, List.setIfInBounds_toArray, List.set_cons_zero, List.set_cons_succ]
      refine wpAnyH_take (i := 5) (v := .int .i64 (sn : Int)) rfl (by kernel_rfl) (by kernel_rfl) (by kernel_rfl) (fun _ _ _ h => h) (Or.inl ⟨by rfl, fun wx hx => by simp [go_sem, hq, fq]⟩) hS ?_
      simp only [Act.put, List.getElem_toArray, List.getElem_cons_succ, List.getElem_cons_zero, List.setIfInBounds_toArray, List.set_cons_zero, List.set_cons_succ]
      have hcc := HSZ.out y0 _ HI.out.dk
      generalize hA : (#[.pointer (some ⟨g, 0, none⟩)] : Array Value) = AA at hcc
      refine wpAnyH_enter 1 (by kernel_rfl) rfl (by rfl) (f := 16) (args := AA) ?_ hcc ?_
      · subst hA; simp [go_sem]
      clear hcc hA
      rintro e z1 ⟨P2, rfl, hdk, hm, hgr⟩
      have HI3 : Hid (DdI Dk w g gr sn k P2 D (.slice va na ca) (.slice vb nb cb2) z1) := HI.out.act hdk hm hgr
      replace hS : Mut P y0 z1 := hm
      refine ⟨_, rfl, hS, ?_⟩
      clear hdk hm hgr
      simp only [Act.put, List.getElem_toArray, List.getElem_cons_succ, List.getElem_cons_zero, List.setIfInBounds_toArray, List.set_cons_zero, List.set_cons_succ]
      refine wpAnyH_take (i := 6) (v := .bool true) rfl (by kernel_rfl) (by kernel_rfl) (by kernel_rfl) (fun _ _ _ h => h) (Or.inl ⟨by rfl, fun wx hx => by simp [go_sem]⟩) hS ?_
      simp only [Act.put, List.getElem_toArray, List.getElem_cons_succ, List.getElem_cons_zero, List.setIfInBounds_toArray, List.set_cons_zero, List.set_cons_succ]
      refine wpAnyH_take (i := 7) (v := .bool true) rfl (by kernel_rfl) (by kernel_rfl) (by kernel_rfl) (fun _ _ _ h => h) (Or.inl ⟨by rfl, fun wx hx => by simp [go_sem]⟩) hS ?_
      simp only [Act.put, List.getElem_toArray, List.getElem_cons_succ, List.getElem_cons_zero, List.setIfInBounds_toArray, List.set_cons_zero, List.set_cons_succ]
      refine wpAnyH_enter 8 (by kernel_rfl) rfl (by rfl) (f := 10) (args := #[]) (by simp [go_sem]) (works13_any OPS z1) ?_
      rintro e z2 ⟨rfl, hb⟩
      have HB2 : Hid (Below w.heap.size w z2) := HI3.out.bel.trans (hb.mono HI3.out.bel.size)
      replace hS : Mut P y0 z2 := hS.trans (fun _ _ h => h) (mut_below hb P)
      refine ⟨_, rfl, hS, ?_⟩
      clear hb
      simp only [Act.put, List.getElem_toArray, List.getElem_cons_succ, List.getElem_cons_zero, List.setIfInBounds_toArray, List.set_cons_zero, List.set_cons_succ]
      refine wpAnyH_take (i := 9) (v := .bool true) rfl (by kernel_rfl) (by kernel_rfl) (by kernel_rfl) (fun _ _ _ h => h) (Or.inl ⟨by rfl, fun wx hx => by simp [go_sem]⟩) hS ?_
      simp only [Act.put, List.getElem_toArray, List.getElem_cons_succ, List.getElem_cons_zero, List.setIfInBounds_toArray, List.set_cons_zero, List.set_cons_succ]
      refine wpAnyH_take (i := 10) (v := .bool true) rfl (by kernel_rfl) (by kernel_rfl) (by kernel_rfl) (fun _ _ _ h => h) (Or.inl ⟨by rfl, fun wx hx => by simp [go_sem]⟩) hS ?_
      simp only [Act.put, List.getElem_toArray, List.getElem_cons_succ, List.getElem_cons_zero, List.setIfInBounds_toArray, List.set_cons_zero, List.set_cons_succ]
      refine wpAnyH_done (by kernel_rfl) ?_ _
      go_wp2
      go_ret
      exact ⟨rfl, HB2.out⟩
    have hlk : (k : Int) < (nl : Int) := by omega
    have f5 : IntKind.i64.wrap ((k : Int) + 1) = (k : Int) + 1 := by rw [IntKind.wrap_i64]; have := HF.out; omega
    have HLT : Hid (k < l.length) := by show _ < _; rw [← HNL.out]; exact hlt
    obtain ⟨b, off, rfl, hat⟩ := HL.out.at (Nat.lt_of_le_of_lt (Nat.zero_le _) HLT.out)
    obtain ⟨vk, hrg, hki, hn63⟩ := hat k HLT.out
    obtain ⟨o, HO⟩ : ∃ o, Hid (o = l.getD k zeroO) := ⟨_, rfl⟩
    rw [← HO.out] at hrg hki hn63
    obtain ⟨co, HCO⟩ : ∃ c, Hid (c = opC o vk) := ⟨_, rfl⟩
    have HRG : Hid (∀ W : World, Below w.heap.size w W → W.rangeAt b (off + k * 5) co) := fun W hh => by rw [HCO.out]; exact range_below hrg hh
    have HIO : Hid ((Try.prog.info? 36).map (·.size) = some co.length) := by show _ = _; rw [HCO.out]; exact info_op _ _ _ _ _
    have HKP : Hid (ReadsI w vk o.keep) := hki
    obtain ⟨D1, HD1⟩ : ∃ x, Hid (x = stepD D o) := ⟨_, rfl⟩
    obtain ⟨l1, HL1⟩ : ∃ x, Hid (x = D1.left) := ⟨_, rfl⟩
    obtain ⟨d1, HDD⟩ : ∃ x, Hid (x = D1.down) := ⟨_, rfl⟩
    have HRF : Hid (∀ x y, rdC D1 x y = [x, y, .int .i64 l1, .bool d1]) := fun x y => by rw [rdC, HL1.out, HDD.out]
    have HWL : Hid (D1.wait.length ≤ k + 1) := by rw [HD1.out]; have h1 := step_wait D o; have h2 := HI.out.wl; show _ ≤ _; omega
    have HS1 : Hid (sizeD D1 = sn) := by rw [HD1.out]; exact (step_size HOK.out o).trans HI.out.sz
    have HST : Hid (∀ (W : World) (X : List Nat), Dk W g P D → RdS (Ext P X) W D (.slice va na ca) (.slice vb nb cb2) → (∀ k, k ∈ X → k < W.heap.size) → Sta P W (fun W' => ReadsI W' vk o.keep) → Calls Try.prog 11 #[.pointer (some ⟨g, 0, none⟩), .agg [.slice va na ca, .slice vb nb cb2, .int .i64 lf, .bool dn].toArray, .agg co.toArray] W fun r w' => ∃ P1 xa xn xc ya yn yc, r = .returned (.tuple #[.agg [.slice xa xn xc, .slice ya yn yc, .int .i64 l1, .bool d1].toArray, .bool true]) ∧ Dk w' g P1 D1 ∧ RdS (Ext P1 X) w' D1 (.slice xa xn xc) (.slice ya yn yc) ∧ Mut P W w' ∧ Grew W P P1) := fun W X h1 h2 h3 h4 => by
      have h := step13_any OPS h1 h2 h3 (by have h5 := HI.out.wl; have h6 := HF.out; omega) h4 hn63
      rw [HRC.out, ← HCO.out, ← HD1.out] at h
      refine h.mono fun e w' h => ?_
      obtain ⟨P1, vs', vw', e1, e2, e3, e4, e5⟩ := h.ex
      obtain ⟨x1, x2, x3, x4, f1, f2⟩ := e3.form
      subst f1 f2
      rw [HRF.out] at e1
      exact ⟨P1, _, _, _, _, _, _, e1, e2, e3, e4, e5⟩
    clear hat hrg hki hn63
    go_wp2
    go_cut [8, 9] from 21 to 55 (fun a b W => ∃ ga P1 xa xn xc ya yn yc, a = .pointer (some ⟨ga, 0, none⟩) ∧ b = .bool true ∧ D9 Dk w g gr ga P1 D1 (rdC D (.slice va na ca) (.slice vb nb cb2)) [.slice xa xn xc, .slice ya yn yc, .int .i64 l1, .bool d1] (.slice xa xn xc) (.slice ya yn yc) W)
    case first =>
      refine wp_region_held_drew (S := Mut P (World.drew wr)) (by kernel_rfl) (Mut.refl _ _) ?_
      intro hS
      replace HI : Hid (DdI Dk w g gr sn k P D (.slice va na ca) (.slice vb nb cb2) (World.drew wr)) := HI.out.drew OPS
      replace HRR : Hid (Blk (World.drew wr) gr [.slice va na ca, .slice vb nb cb2, .int .i64 lf, .bool dn] 27) := HRR.out.drew
      clear c1
      change wpAnyH _ _ _ _ _ _ _ _ (World.drew wr)
      generalize World.drew wr = y0 at *
      try simp only [Act.put, List.setIfInBounds_toArray, List.set_cons_zero, List.set_cons_succ]
      refine wpAnyH_take (i := 0) (v := .pointer (some ⟨g, 0, none⟩)) rfl (by kernel_rfl) (by kernel_rfl) (by kernel_rfl) (fun _ _ _ h => h) (Or.inl ⟨by rfl, fun wx hx => by simp [go_sem]⟩) hS ?_
      simp only [Act.put, List.getElem_toArray, List.getElem_cons_zero, List.setIfInBounds_toArray, List.set_cons_zero, List.set_cons_succ]
      refine wpAnyH_take (i := 1) (v := .agg [.slice va na ca, .slice vb nb cb2, .int .i64 lf, .bool dn].toArray) rfl (by kernel_rfl) (by kernel_rfl) (by kernel_rfl) (fun _ _ _ h => h) (Or.inl ⟨by rfl, fun wx hx => by exact load_run 27 _ rfl gr 0 rfl [.slice va na ca, .slice vb nb cb2, .int .i64 lf, .bool dn] _ (hx.blk HRR.out HI.out.np).range Try.underlying27 rfl (info_rd _ _ _ _)⟩) hS ?_
      simp only [Act.put, List.getElem_toArray, List.getElem_cons_succ, List.getElem_cons_zero, List.setIfInBounds_toArray, List.set_cons_zero, List.set_cons_succ]
      refine wpAnyH_take (i := 2) (v := .slice (some ⟨b, off, none⟩) nl cp) rfl (by kernel_rfl) (by kernel_rfl) (by kernel_rfl) (fun _ _ _ h => h) (Or.inl ⟨by rfl, fun wx hx => by simp [go_sem]⟩) hS ?_
      simp only [Act.put, List.getElem_toArray, List.getElem_cons_succ, List.getElem_cons_zero, List.setIfInBounds_toArray, List.set_cons_zero, List.set_cons_succ]
      refine wpAnyH_take (i := 3) (v := .int .i64 (k : Int)) rfl (by kernel_rfl) (by kernel_rfl) (by kernel_rfl) (fun _ _ _ h => h) (Or.inl ⟨by rfl, fun wx hx => by simp [go_sem]⟩) hS ?_
      simp only [Act.put, List.getElem_toArray, List.getElem_cons_succ, List.getElem_cons_zero, List.setIfInBounds_toArray, List.set_cons_zero, List.set_cons_succ]
      refine wpAnyH_take (i := 4) (v := .pointer (some ⟨b, off + k * 5, none⟩)) rfl (by kernel_rfl) (by kernel_rfl) (by kernel_rfl) (fun _ _ _ h => h) (Or.inl ⟨by rfl, fun wx hx => by exact idxO b off cp nl k hlt _ _ _ _ rfl rfl rfl _⟩) hS ?_
      simp only [Act.put, List.getElem_toArray, List.getElem_cons_succ, List.getElem_cons_zero, List.setIfInBounds_toArray, List.set_cons_zero, List.set_cons_succ]
      refine wpAnyH_take (i := 5) (v := .agg co.toArray) rfl (by kernel_rfl) (by kernel_rfl) (by kernel_rfl) (fun _ _ _ h => h) (Or.inl ⟨by rfl, fun wx hx => by exact load_run 36 _ rfl b (off + k * 5) rfl co _ (HRG.out _ (HI.out.bel.trans (hx.below HI.out.bel.size HI.out.pw))) Try.underlying36 rfl HIO.out⟩) hS ?_
      simp only [Act.put, List.getElem_toArray, List.getElem_cons_succ, List.getElem_cons_zero, List.setIfInBounds_toArray, List.set_cons_zero, List.set_cons_succ]
      refine wpAnyH_pair 6 10 (by kernel_rfl) ?_ ?_
      · have hcc := HST.out y0 [gr] HI.out.dk HI.out.rs (fun k hk => by rw [List.mem_singleton.1 hk]; exact HI.out.rr.lt) (fun W' m => HKP.out.below (HI.out.bel.trans (m.below HI.out.bel.size HI.out.pw)))
        generalize hA : (#[.pointer (some ⟨g, 0, none⟩), .agg [.slice va na ca, .slice vb nb cb2, .int .i64 lf, .bool dn].toArray, .agg co.toArray] : Array Value) = AA at hcc
        refine wpOp_en 6 (by rfl) (by rfl) (f := 11) (args := AA) ?_ hcc ?_
        · subst hA; simp [go_sem]
        clear hcc hA
        rintro e z1 ⟨P1, xa, xn, xc, ya, yn, yc, rfl, hdk, hrs, hm, hgr⟩
        replace hS : Mut P y0 z1 := hm
        refine ⟨_, rfl, hS, ?_⟩
        simp only [Act.put, List.getElem_toArray, List.getElem_cons_succ, List.getElem_cons_zero, List.setIfInBounds_toArray, List.set_cons_zero, List.set_cons_succ]
        refine wpAnyH_take (i := 7) (v := .tuple #[.agg [.slice xa xn xc, .slice ya yn yc, .int .i64 l1, .bool d1].toArray, .bool true]) rfl (by kernel_rfl) (by kernel_rfl) (by kernel_rfl) (fun _ _ _ h => h) (Or.inl ⟨by rfl, fun wx hx => by simp [go_sem]⟩) hS ?_
        simp only [Act.put, List.getElem_toArray, List.getElem_cons_succ, List.getElem_cons_zero, List.setIfInBounds_toArray, List.set_cons_zero, List.set_cons_succ]
        refine wpAnyH_take (i := 8) (v := .agg [.slice xa xn xc, .slice ya yn yc, .int .i64 l1, .bool d1].toArray) rfl (by kernel_rfl) (by kernel_rfl) (by kernel_rfl) (fun _ _ _ h => h) (Or.inl ⟨by rfl, fun wx hx => by simp [go_sem]⟩) hS ?_
        simp only [Act.put, List.getElem_toArray, List.getElem_cons_succ, List.getElem_cons_zero, List.setIfInBounds_toArray, List.set_cons_zero, List.set_cons_succ]
        refine wpAnyH_take (i := 9) (v := .bool true) rfl (by kernel_rfl) (by kernel_rfl) (by kernel_rfl) (fun _ _ _ h => h) (Or.inl ⟨by rfl, fun wx hx => by simp [go_sem]⟩) hS ?_
        simp only [Act.put, List.getElem_toArray, List.getElem_cons_succ, List.getElem_cons_zero, List.setIfInBounds_toArray, List.set_cons_zero, List.set_cons_succ]
        have hb := below_alloc z1 (.cells [.slice none 0 0, .slice none 0 0, .int .i64 0, .bool false].toArray 27)
        have hba : Blk (z1.alloc (.cells [.slice none 0 0, .slice none 0 0, .int .i64 0, .bool false].toArray 27)) z1.heap.size [.slice none 0 0, .slice none 0 0, .int .i64 0, .bool false] 27 := Blk.new _ _ _
        have hsz : y0.heap.size ≤ z1.heap.size := hS.size
        replace hS : Mut P y0 (z1.alloc (.cells [.slice none 0 0, .slice none 0 0, .int .i64 0, .bool false].toArray 27)) := hS.trans (fun _ _ h => h) (mut_below hb P)
        refine wpAnyH_step 10 (.pointer (some ⟨z1.heap.size, 0, none⟩)) (z1.alloc (.cells [.slice none 0 0, .slice none 0 0, .int .i64 0, .bool false].toArray 27)) (by kernel_rfl) rfl (by rfl) (alloc_rd _ _ rfl _) hS ?_
        simp only [Act.put, List.getElem_toArray, List.getElem_cons_succ, List.getElem_cons_zero, List.setIfInBounds_toArray, List.set_cons_zero, List.set_cons_succ]
        generalize z1.alloc (.cells [.slice none 0 0, .slice none 0 0, .int .i64 0, .bool false].toArray 27) = z2 at *
        obtain ⟨ga, HGA⟩ : ∃ z, Hid (z = z1.heap.size) := ⟨_, rfl⟩
        have hgw : y0.heap.size ≤ ga := by rw [HGA.out]; exact hsz
        have hgz : z1.heap.size ≤ ga := by rw [HGA.out]; exact Nat.le_refl _
        rw [← HGA.out] at hba ⊢
        clear HGA hsz
        refine wpAnyH_storeRow 11 27 (.tmp 8) (.tmp 35) ga [.slice none 0 0, .slice none 0 0, .int .i64 0, .bool false] [.slice xa xn xc, .slice ya yn yc, .int .i64 l1, .bool d1] hba rfl (info_rd _ _ _ _) (one_rd _ _ _ _ _ _ _ _) (by kernel_rfl) rfl (by rfl) rfl rfl rfl ?_
        intro yE hs
        replace hS : Mut P y0 yE := hS.own hs.only hgw
        refine ⟨hS, ?_⟩
        simp only [Act.put, List.getElem_toArray, List.getElem_cons_succ, List.getElem_cons_zero]
        refine wpAnyH_take (i := 12) (v := .bool true) rfl (by kernel_rfl) (by kernel_rfl) (by kernel_rfl) (fun _ _ _ h => h) (Or.inl ⟨by rfl, fun wx hx => by simp [go_sem]⟩) hS ?_
        simp only [Act.put, List.getElem_toArray, List.getElem_cons_succ, List.getElem_cons_zero, List.setIfInBounds_toArray, List.set_cons_zero, List.set_cons_succ]
        refine wpAnyH_done (by kernel_rfl) ?_ _
        go_wp2
        go_meet
        case rel => exact ⟨ga, P1, xa, xn, xc, ya, yn, yc, rfl, rfl, HI.out.step1 OPS hm hgr hdk hrs (hb.trans (hs.only.below hgz hb.size)) hs.blk⟩
      · have hb := below_alloc y0 (.cells [.slice none 0 0, .slice none 0 0, .int .i64 0, .bool false].toArray 27)
        have hba : Blk (y0.alloc (.cells [.slice none 0 0, .slice none 0 0, .int .i64 0, .bool false].toArray 27)) y0.heap.size [.slice none 0 0, .slice none 0 0, .int .i64 0, .bool false] 27 := Blk.new _ _ _
        replace hS : Mut P y0 (y0.alloc (.cells [.slice none 0 0, .slice none 0 0, .int .i64 0, .bool false].toArray 27)) := mut_below hb P
        refine wpOp_vl 10 (.pointer (some ⟨y0.heap.size, 0, none⟩)) (y0.alloc (.cells [.slice none 0 0, .slice none 0 0, .int .i64 0, .bool false].toArray 27)) (by rfl) (by rfl) (alloc_rd _ _ rfl _) ⟨hS, ?_⟩
        simp only [Act.put, List.getElem_toArray, List.getElem_cons_succ, List.getElem_cons_zero, List.setIfInBounds_toArray, List.set_cons_zero, List.set_cons_succ]
        generalize y0.alloc (.cells [.slice none 0 0, .slice none 0 0, .int .i64 0, .bool false].toArray 27) = z1 at *
        obtain ⟨ga, HGA⟩ : ∃ z, Hid (z = y0.heap.size) := ⟨_, rfl⟩
        have hgw : y0.heap.size ≤ ga := by rw [HGA.out]; exact Nat.le_refl _
        rw [← HGA.out] at hba ⊢
        clear HGA
        have hlta : ga < z1.heap.size := hba.lt
        have HIA : Hid (DdI Dk w g gr sn k P D (.slice va na ca) (.slice vb nb cb2) z1) := HI.out.next OPS hb
        have hcc := HST.out z1 [ga, gr] HIA.out.dk (HI.out.rs.start (mut_below hb P) hgw) (fun k hk => by rcases List.mem_cons.1 hk with rfl | hk; exact hlta; rw [List.mem_singleton.1 hk]; exact HIA.out.rr.lt) (fun W' m => HKP.out.below (HIA.out.bel.trans (m.below HIA.out.bel.size HIA.out.pw)))
        generalize hA : (#[.pointer (some ⟨g, 0, none⟩), .agg [.slice va na ca, .slice vb nb cb2, .int .i64 lf, .bool dn].toArray, .agg co.toArray] : Array Value) = AA at hcc
        refine wpAnyH_enter 6 (by kernel_rfl) rfl (by rfl) (f := 11) (args := AA) ?_ hcc ?_
        · subst hA; simp [go_sem]
        clear hcc hA
        rintro e z2 ⟨P1, xa, xn, xc, ya, yn, yc, rfl, hdk, hrs, hm, hgr⟩
        have hnp : ¬ P ga := fun h => absurd (OPS.lt HI.out.dk ga h) (by omega)
        replace hba : Blk z2 ga [.slice none 0 0, .slice none 0 0, .int .i64 0, .bool false] 27 := hm.blk hba hnp
        replace hS : Mut P y0 z2 := hS.trans (fun _ _ h => h) hm
        refine ⟨_, rfl, hS, ?_⟩
        simp only [Act.put, List.getElem_toArray, List.getElem_cons_succ, List.getElem_cons_zero, List.setIfInBounds_toArray, List.set_cons_zero, List.set_cons_succ]
        refine wpAnyH_take (i := 7) (v := .tuple #[.agg [.slice xa xn xc, .slice ya yn yc, .int .i64 l1, .bool d1].toArray, .bool true]) rfl (by kernel_rfl) (by kernel_rfl) (by kernel_rfl) (fun _ _ _ h => h) (Or.inl ⟨by rfl, fun wx hx => by simp [go_sem]⟩) hS ?_
        simp only [Act.put, List.getElem_toArray, List.getElem_cons_succ, List.getElem_cons_zero, List.setIfInBounds_toArray, List.set_cons_zero, List.set_cons_succ]
        refine wpAnyH_take (i := 8) (v := .agg [.slice xa xn xc, .slice ya yn yc, .int .i64 l1, .bool d1].toArray) rfl (by kernel_rfl) (by kernel_rfl) (by kernel_rfl) (fun _ _ _ h => h) (Or.inl ⟨by rfl, fun wx hx => by simp [go_sem]⟩) hS ?_
        simp only [Act.put, List.getElem_toArray, List.getElem_cons_succ, List.getElem_cons_zero, List.setIfInBounds_toArray, List.set_cons_zero, List.set_cons_succ]
        refine wpAnyH_take (i := 9) (v := .bool true) rfl (by kernel_rfl) (by kernel_rfl) (by kernel_rfl) (fun _ _ _ h => h) (Or.inl ⟨by rfl, fun wx hx => by simp [go_sem]⟩) hS ?_
        simp only [Act.put, List.getElem_toArray, List.getElem_cons_succ, List.getElem_cons_zero, List.setIfInBounds_toArray, List.set_cons_zero, List.set_cons_succ]
        refine wpAnyH_storeRow 11 27 (.tmp 8) (.tmp 35) ga [.slice none 0 0, .slice none 0 0, .int .i64 0, .bool false] [.slice xa xn xc, .slice ya yn yc, .int .i64 l1, .bool d1] hba rfl (info_rd _ _ _ _) (one_rd _ _ _ _ _ _ _ _) (by kernel_rfl) rfl (by rfl) rfl rfl rfl ?_
        intro yE hs
        replace hS : Mut P y0 yE := hS.own hs.only hgw
        refine ⟨hS, ?_⟩
        simp only [Act.put, List.getElem_toArray, List.getElem_cons_succ, List.getElem_cons_zero]
        refine wpAnyH_take (i := 12) (v := .bool true) rfl (by kernel_rfl) (by kernel_rfl) (by kernel_rfl) (fun _ _ _ h => h) (Or.inl ⟨by rfl, fun wx hx => by simp [go_sem]⟩) hS ?_
        simp only [Act.put, List.getElem_toArray, List.getElem_cons_succ, List.getElem_cons_zero, List.setIfInBounds_toArray, List.set_cons_zero, List.set_cons_succ]
        refine wpAnyH_done (by kernel_rfl) ?_ _
        go_wp2
        go_meet
        case rel => exact ⟨ga, P1, xa, xn, xc, ya, yn, yc, rfl, rfl, HI.out.step2 OPS hb hgw hlta hm hgr hdk hrs hs.only hs.blk⟩
    case rest =>
      obtain ⟨ga, P1, xa, xn, xc, ya, yn, yc, rfl, rfl, h9⟩ := hcut
      have H9 : Hid (D9 Dk w g gr ga P1 D1 (rdC D (.slice va na ca) (.slice vb nb cb2)) [.slice xa xn xc, .slice ya yn yc, .int .i64 l1, .bool d1] (.slice xa xn xc) (.slice ya yn yc) wc) := h9
      have HRC9 : Hid (Blk wc gr [.slice va na ca, .slice vb nb cb2, .int .i64 lf, .bool dn] 27) := by rw [← HRC.out]; exact h9.rr
      have HGR9 : Hid (w.heap.size ≤ gr) := HI.out.wr
      have HYN : Hid (yn = D1.wait.length) := by
        obtain ⟨a1, c1', a2, c2, _, e2⟩ := h9.rs.form
        simp only [Value.slice.injEq] at e2
        exact e2.2.1
      obtain ⟨dd, HDP⟩ : ∃ x, Hid (x = dumpD D1) := ⟨_, rfl⟩
      have HOK1 : Hid (okD D1) := OPS.ok h9.dk
      have HPN : Hid (∀ (W : World) (X : Nat → Prop), Dk W g X D1 → Calls Try.prog 12 #[.pointer (some ⟨g, 0, none⟩)] W fun r w' => ∃ P', r = .returned (.int .i64 (yn : Int)) ∧ Dk w' g P' D1 ∧ Mut X W w' ∧ Grew W X P') := fun W X h => by rw [HYN.out]; exact OPS.pending h
      have HDM : Hid (∀ (W : World) (X : Nat → Prop), Dk W g X D1 → Calls Try.prog 14 #[.pointer (some ⟨g, 0, none⟩)] W fun r w' => ∃ P' da dl dc, r = .returned (.slice da dl dc) ∧ Reads w' (.slice da dl dc) dd ∧ Dk w' g P' D1 ∧ Mut X W w' ∧ Grew W X P') := fun W X h => (OPS.dump h (by have h1 := HWL.out; have h2 := HF.out; omega)).mono fun r w' h => by
        obtain ⟨P', v, e1, e2, e3, e4, e5⟩ := h
        obtain ⟨a, n, c, hv⟩ := e2.now.form
        subst hv
        exact ⟨P', a, n, c, e1, by rw [HDP.out]; exact e2.now, e3, e4, e5⟩
      have HRDM : Hid (∀ (W : World) (X : Nat → Prop), RdS X W D1 (.slice xa xn xc) (.slice ya yn yc) → (∀ k, X k → k < W.heap.size) → Calls Try.prog 15 #[.agg [.slice xa xn xc, .slice ya yn yc, .int .i64 l1, .bool d1].toArray] W fun r w' => ∃ ea el ec, r = .returned (.slice ea el ec) ∧ Reads w' (.slice ea el ec) dd ∧ Below W.heap.size W w') := fun W X h1 h2 => by
        have h := rdDump_any X D1 _ _ W h1 HOK1.out (by have h1 := HWL.out; have h2 := HF.out; omega) h2
        rw [HRF.out] at h
        refine h.mono fun e w' h => ?_
        obtain ⟨v, e1, e2, e3⟩ := h
        obtain ⟨a, n, c, hv⟩ := e2.now.form
        subst hv
        exact ⟨a, n, c, e1, by rw [HDP.out]; exact e2.now, e3⟩
      clear h9 HI HRR c1
      have tk1 : Hid True := trivial
      have tk2 : Hid True := trivial
      go_upto_region 11 with (first
        | (clear tk1; with_reducible refine wpSeq_loadW 27 (.tmp 8) ga 0 [.slice xa xn xc, .slice ya yn yc, .int .i64 l1, .bool d1] _ ?_ Try.underlying27 rfl ?_ ?_ ?_ ?_ ?_
           · exact H9.out.ra.range
           · exact (info_rd _ _ _ _)
           · rfl
           · rfl
           · rfl)
        | (clear tk2; with_reducible refine wpSeq_storeRow 27 (.tmp 6) (.tmp 37) gr [.slice va na ca, .slice vb nb cb2, .int .i64 lf, .bool dn] [.slice xa xn xc, .slice ya yn yc, .int .i64 l1, .bool d1] HRC9.out (by simp) (info_rd _ _ _ _) (one_rd _ _ _ _ _ _ _ _) ?_ ?_ ?_ ?_ ?_
           · rfl
           · rfl
           · rfl
           · rfl
           intro y12 hs
           have HI2 : Hid (DdI Dk w g gr sn (k + 1) P1 D1 (.slice xa xn xc) (.slice ya yn yc) y12) := H9.out.set OPS (by rw [HRF.out]; exact hs.blk) hs.only HGR9.out HWL.out HS1.out
           have HR2 : Hid (Blk y12 gr [.slice xa xn xc, .slice ya yn yc, .int .i64 l1, .bool d1] 27) := hs.blk
           clear hs H9 HRC9))
      refine wp_region_held_drew (S := Mut P1 (World.drew y12)) (by kernel_rfl) (Mut.refl _ _) ?_
      intro hS
      replace HI2 : Hid (DdI Dk w g gr sn (k + 1) P1 D1 (.slice xa xn xc) (.slice ya yn yc) (World.drew y12)) := HI2.out.drew OPS
      replace HR2 : Hid (Blk (World.drew y12) gr [.slice xa xn xc, .slice ya yn yc, .int .i64 l1, .bool d1] 27) := HR2.out.drew
      change wpAnyH _ _ _ _ _ _ _ _ (World.drew y12)
      generalize World.drew y12 = y0 at *
      try simp only [Act.put, List.setIfInBounds_toArray, List.set_cons_zero, List.set_cons_succ]
      refine wpAnyH_take (i := 0) (v := .bool true) rfl (by kernel_rfl) (by kernel_rfl) (by kernel_rfl) (fun _ _ _ h => h) (Or.inl ⟨by rfl, fun wx hx => by simp [go_sem]⟩) hS ?_
      simp only [Act.put, List.getElem_toArray, List.getElem_cons_zero, List.setIfInBounds_toArray, List.set_cons_zero, List.set_cons_succ]
      refine wpAnyH_take (i := 1) (v := .bool false) rfl (by kernel_rfl) (by kernel_rfl) (by kernel_rfl) (fun _ _ _ h => h) (Or.inl ⟨by rfl, fun wx hx => by simp [go_sem]⟩) hS ?_
      simp only [Act.put, List.getElem_toArray, List.getElem_cons_succ, List.getElem_cons_zero, List.setIfInBounds_toArray, List.set_cons_zero, List.set_cons_succ]
      refine wpAnyH_take (i := 2) (v := .bool false) rfl (by kernel_rfl) (by kernel_rfl) (by kernel_rfl) (fun _ _ _ h => h) (Or.inl ⟨by rfl, fun wx hx => by simp [go_sem]⟩) hS ?_
      simp only [Act.put, List.getElem_toArray, List.getElem_cons_succ, List.getElem_cons_zero, List.setIfInBounds_toArray, List.set_cons_zero, List.set_cons_succ]
      refine wpAnyH_take (i := 3) (v := .pointer (some ⟨g, 0, none⟩)) rfl (by kernel_rfl) (by kernel_rfl) (by kernel_rfl) (fun _ _ _ h => h) (Or.inl ⟨by rfl, fun wx hx => by simp [go_sem]⟩) hS ?_
      simp only [Act.put, List.getElem_toArray, List.getElem_cons_succ, List.getElem_cons_zero, List.setIfInBounds_toArray, List.set_cons_zero, List.set_cons_succ]
      refine wpAnyH_take (i := 5) (v := .pointer (some ⟨gr, 1, none⟩)) rfl (by kernel_rfl) (by kernel_rfl) (by kernel_rfl) (fun _ _ _ h => h) (Or.inl ⟨by rfl, fun wx hx => by simp [go_sem]⟩) hS ?_
      simp only [Act.put, List.getElem_toArray, List.getElem_cons_succ, List.getElem_cons_zero, List.setIfInBounds_toArray, List.set_cons_zero, List.set_cons_succ]
      refine wpAnyH_take (i := 6) (v := .slice ya yn yc) rfl (by kernel_rfl) (by kernel_rfl) (by kernel_rfl) (fun _ _ _ h => h) (Or.inl ⟨by rfl, fun wx hx => by (have hc : wx.cell? ⟨gr, 1, none⟩ = some (.slice ya yn yc) := (hx.blk HR2.out HI2.out.np).cell 1); simp [go_sem, hc]⟩) hS ?_
      simp only [Act.put, List.getElem_toArray, List.getElem_cons_succ, List.getElem_cons_zero, List.setIfInBounds_toArray, List.set_cons_zero, List.set_cons_succ]
      refine wpAnyH_take (i := 7) (v := .int .i64 (yn : Int)) rfl (by kernel_rfl) (by kernel_rfl) (by kernel_rfl) (fun _ _ _ h => h) (Or.inl ⟨by rfl, fun wx hx => by simp [go_sem]⟩) hS ?_
      simp only [Act.put, List.getElem_toArray, List.getElem_cons_succ, List.getElem_cons_zero, List.setIfInBounds_toArray, List.set_cons_zero, List.set_cons_succ]
      have hcc := HPN.out y0 _ HI2.out.dk
      generalize hA : (#[.pointer (some ⟨g, 0, none⟩)] : Array Value) = AA at hcc
      refine wpAnyH_enter 4 (by kernel_rfl) rfl (by rfl) (f := 12) (args := AA) ?_ hcc ?_
      · subst hA; simp [go_sem]
      clear hcc hA
      rintro e z1 ⟨P2, rfl, hdk, hm, hgr⟩
      have HI3 : Hid (DdI Dk w g gr sn (k + 1) P2 D1 (.slice xa xn xc) (.slice ya yn yc) z1) := HI2.out.act hdk hm hgr
      replace hS : Mut P1 y0 z1 := hm
      have HG2 : Hid (Grew y0 P1 P2) := hgr
      refine ⟨_, rfl, hS, ?_⟩
      clear hdk hm hgr
      simp only [Act.put, List.getElem_toArray, List.getElem_cons_succ, List.getElem_cons_zero, List.setIfInBounds_toArray, List.set_cons_zero, List.set_cons_succ]
      refine wpAnyH_take (i := 8) (v := .bool false) rfl (by kernel_rfl) (by kernel_rfl) (by kernel_rfl) (fun _ _ _ h => h) (Or.inl ⟨by rfl, fun wx hx => by simp [go_sem]⟩) hS ?_
      simp only [Act.put, List.getElem_toArray, List.getElem_cons_succ, List.getElem_cons_zero, List.setIfInBounds_toArray, List.set_cons_zero, List.set_cons_succ]
      refine wpAnyH_take (i := 9) (v := .bool false) rfl (by kernel_rfl) (by kernel_rfl) (by kernel_rfl) (fun _ _ _ h => h) (Or.inl ⟨by rfl, fun wx hx => by simp [go_sem]⟩) hS ?_
      simp only [Act.put, List.getElem_toArray, List.getElem_cons_succ, List.getElem_cons_zero, List.setIfInBounds_toArray, List.set_cons_zero, List.set_cons_succ]
      refine wpAnyH_take (i := 10) (v := .bool false) rfl (by kernel_rfl) (by kernel_rfl) (by kernel_rfl) (fun _ _ _ h => h) (Or.inl ⟨by rfl, fun wx hx => by simp [go_sem]⟩) hS ?_
      simp only [Act.put, List.getElem_toArray, List.getElem_cons_succ, List.getElem_cons_zero, List.setIfInBounds_toArray, List.set_cons_zero, List.set_cons_succ]
      refine wpAnyH_take (i := 11) (v := .pointer (some ⟨g, 0, none⟩)) rfl (by kernel_rfl) (by kernel_rfl) (by kernel_rfl) (fun _ _ _ h => h) (Or.inl ⟨by rfl, fun wx hx => by simp [go_sem]⟩) hS ?_
      simp only [Act.put, List.getElem_toArray, List.getElem_cons_succ, List.getElem_cons_zero, List.setIfInBounds_toArray, List.set_cons_zero, List.set_cons_succ]
      refine wpAnyH_take (i := 13) (v := .agg [.slice xa xn xc, .slice ya yn yc, .int .i64 l1, .bool d1].toArray) rfl (by kernel_rfl) (by kernel_rfl) (by kernel_rfl) (fun _ _ _ h => h) (Or.inl ⟨by rfl, fun wx hx => by exact load_run 27 _ rfl gr 0 rfl [.slice xa xn xc, .slice ya yn yc, .int .i64 l1, .bool d1] _ (hx.blk HR2.out HI2.out.np).range Try.underlying27 rfl (info_rd _ _ _ _)⟩) hS ?_
      simp only [Act.put, List.getElem_toArray, List.getElem_cons_succ, List.getElem_cons_zero, List.setIfInBounds_toArray, List.set_cons_zero, List.set_cons_succ]
      have hcc := HDM.out z1 _ HI3.out.dk
      generalize hA : (#[.pointer (some ⟨g, 0, none⟩)] : Array Value) = AA at hcc
      refine wpAnyH_enter 12 (by kernel_rfl) rfl (by rfl) (f := 14) (args := AA) ?_ hcc ?_
      · subst hA; simp [go_sem]
      clear hcc hA
      rintro e z2 ⟨P3, da, dl, dc, rfl, hrd, hdk, hm, hgr⟩
      have HI4 : Hid (DdI Dk w g gr sn (k + 1) P3 D1 (.slice xa xn xc) (.slice ya yn yc) z2) := HI3.out.act hdk hm hgr
      replace hS : Mut P1 y0 z2 := hS.trans HG2.out.old hm
      have HRD : Hid (Reads z2 (.slice da dl dc) dd) := hrd
      refine ⟨_, rfl, hS, ?_⟩
      clear hdk hm hgr hrd
      simp only [Act.put, List.getElem_toArray, List.getElem_cons_succ, List.getElem_cons_zero, List.setIfInBounds_toArray, List.set_cons_zero, List.set_cons_succ]
      have hcc := HRDM.out z2 _ HI4.out.rs (fun k hk => by rcases hk with hk | hk; exact OPS.lt HI4.out.dk k hk; rw [List.mem_singleton.1 hk]; exact HI4.out.rr.lt)
      generalize hA : (#[.agg [.slice xa xn xc, .slice ya yn yc, .int .i64 l1, .bool d1].toArray] : Array Value) = AA at hcc
      refine wpAnyH_enter 14 (by kernel_rfl) rfl (by rfl) (f := 15) (args := AA) ?_ hcc ?_
      · subst hA; simp [go_sem]
      clear hcc hA
      rintro e z3 ⟨ea, el, ec, rfl, hre, hb⟩
      have HI5 : Hid (DdI Dk w g gr sn (k + 1) P3 D1 (.slice xa xn xc) (.slice ya yn yc) z3) := HI4.out.next OPS hb
      have HRE : Hid (Reads z3 (.slice ea el ec) dd) := hre
      replace HRD : Hid (Reads z3 (.slice da dl dc) dd) := HRD.out.below hb
      replace hS : Mut P1 y0 z3 := hS.trans (fun _ _ h => h) (mut_below hb P1)
      refine ⟨_, rfl, hS, ?_⟩
      clear hb hre
      simp only [Act.put, List.getElem_toArray, List.getElem_cons_succ, List.getElem_cons_zero, List.setIfInBounds_toArray, List.set_cons_zero, List.set_cons_succ]
      refine wpAnyH_enter 15 (by kernel_rfl) rfl (by rfl) (f := 13) (args := #[.slice da dl dc, .slice ea el ec]) (by simp [go_sem]) (same_self _ _ dd z3 HRD.out HRE.out) ?_
      rintro e z4 ⟨rfl, rfl⟩
      refine ⟨_, rfl, hS, ?_⟩
      simp only [Act.put, List.getElem_toArray, List.getElem_cons_succ, List.getElem_cons_zero, List.setIfInBounds_toArray, List.set_cons_zero, List.set_cons_succ]
      refine wpAnyH_take (i := 16) (v := .bool false) rfl (by kernel_rfl) (by kernel_rfl) (by kernel_rfl) (fun _ _ _ h => h) (Or.inl ⟨by rfl, fun wx hx => by simp [go_sem]⟩) hS ?_
      simp only [Act.put, List.getElem_toArray, List.getElem_cons_succ, List.getElem_cons_zero, List.setIfInBounds_toArray, List.set_cons_zero, List.set_cons_succ]
      refine wpAnyH_take (i := 17) (v := .bool false) rfl (by kernel_rfl) (by kernel_rfl) (by kernel_rfl) (fun _ _ _ h => h) (Or.inl ⟨by rfl, fun wx hx => by simp [go_sem]⟩) hS ?_
      simp only [Act.put, List.getElem_toArray, List.getElem_cons_succ, List.getElem_cons_zero, List.setIfInBounds_toArray, List.set_cons_zero, List.set_cons_succ]
      refine wpAnyH_done (by kernel_rfl) ?_ _
      go_wp2
      go_roundw
      case rel => exact ⟨k + 1, P3, D1, xa, xn, xc, ya, yn, yc, by omega, by simp, HI5⟩
      case measure => simp [intOf]; omega
end Go.Proofs.Ytdllnedmhhajnaa

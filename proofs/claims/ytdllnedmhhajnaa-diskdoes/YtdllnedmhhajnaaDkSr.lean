/- The walk of the statements' own step (layer 13): reads. -/
import Derived.Test.YtdllnedmhhajnaaDkSp
namespace Go.Proofs.Ytdllnedmhhajnaa
open Go.RowKit
set_option maxRecDepth 100000
theorem same_self (va vb : Value) (l : Bs) (w : World) (ha : Reads w va l) (hb : Reads w vb l) : Calls Try.prog 13 #[va, vb] w fun e w' => e = .returned (.bool true) ∧ w' = w :=
  (same_any va vb l l w ha hb).mono fun e w' ⟨h1, h2⟩ => ⟨by rw [h1, decide_eq_true rfl], h2⟩
set_option maxRecDepth 100000 in
set_option maxHeartbeats 8000000 in
theorem step_read {Dk : World → Nat → (Nat → Prop) → DkT → Prop} (OPS : DkOps Dk) {w : World} {g : Nat} {P : Nat → Prop} {X : List Nat} {D : DkT} {vs vw vk : Value} {o : OpT} (hD : Dk w g P D) (hS : RdS (Ext P X) w D vs vw) (hX : ∀ k, k ∈ X → k < w.heap.size) (hw : D.wait.length ≤ 199) (hK : Sta P w (fun W => ReadsI W vk o.keep)) (hk : o.kind = 0) :
    Calls Try.prog 11 #[.pointer (some ⟨g, 0, none⟩), .agg (rdC D vs vw).toArray, .agg (opC o vk).toArray] w (StepR Dk g P X w D) := by
  obtain ⟨ad, cs, aw, cw, hvs, hvw⟩ := hS.form
  obtain ⟨ns, HNS⟩ : ∃ n, Hid (n = D.safe.length) := ⟨_, rfl⟩
  obtain ⟨nw, HNW⟩ : ∃ n, Hid (n = D.wait.length) := ⟨_, rfl⟩
  rw [← HNS.out] at hvs
  rw [← HNW.out] at hvw
  subst hvs hvw
  have HRS0 : Hid (RdS (Ext P X) w D (.slice ad ns cs) (.slice aw nw cw)) := hS
  have HW2 : Hid (D.wait.length ≤ 199) := hw
  obtain ⟨lf, HLF⟩ : ∃ n, Hid (n = D.left) := ⟨_, rfl⟩
  obtain ⟨dn, HDN⟩ : ∃ n, Hid (n = D.down) := ⟨_, rfl⟩
  have HRC : Hid (rdC D (.slice ad ns cs) (.slice aw nw cw) = [.slice ad ns cs, .slice aw nw cw, .int .i64 lf, .bool dn]) := by show _ = _; rw [rdC, HLF.out, HDN.out]
  rw [HRC.out]
  obtain ⟨kd, HKD⟩ : ∃ x, Hid (x = o.kind) := ⟨_, rfl⟩
  obtain ⟨oi, HOI⟩ : ∃ x, Hid (x = o.i) := ⟨_, rfl⟩
  obtain ⟨on, HON⟩ : ∃ x, Hid (x = o.n) := ⟨_, rfl⟩
  obtain ⟨oc, HOC⟩ : ∃ x, Hid (x = o.c) := ⟨_, rfl⟩
  obtain ⟨ak, ck, hvk⟩ := hK.now.form
  obtain ⟨nk, HNK⟩ : ∃ n, Hid (n = o.keep.length) := ⟨_, rfl⟩
  rw [← HNK.out] at hvk
  subst hvk
  have HCO : Hid (opC o (.slice ak nk ck) = [.int .i64 kd, .int .i64 oi, .int .i64 on, .int .u8 (oc.toNat : Int), .slice ak nk ck]) := by show _ = _; rw [opC, HKD.out, HOI.out, HON.out, HOC.out]
  rw [HCO.out]
  have HKP : Hid (Sta P w (fun W => ReadsI W (.slice ak nk ck) o.keep)) := hK
  have HDK : Hid (Dk w g P D) := hD
  have HMW : Hid (Mut P w w) := Mut.refl _ _
  have HGR : Hid (Grew w P P) := Grew.refl _ _
  have HXL : Hid (∀ k, k ∈ X → k < w.heap.size) := hX
  have q0 : (kd == 0) = true := by rw [beq_iff_eq, HKD.out]; exact hk
  obtain ⟨rb, HRB⟩ : ∃ x, Hid (x = readB13 D oi) := ⟨_, rfl⟩
  obtain ⟨rx, HRX⟩ : ∃ x, Hid (x = readX13 D oi) := ⟨_, rfl⟩
  have HOK : Hid (okD D) := OPS.ok hD
  have HRD : Hid (∀ (W : World), Dk W g P D → Calls Try.prog 23 #[.pointer (some ⟨g, 0, none⟩), .int .i64 oi] W fun r w' => ∃ P' a n c, r = .returned (.tuple #[.slice a n c, .int .i64 rx]) ∧ Reads w' (.slice a n c) rb ∧ Dk w' g P' D ∧ Mut P W w' ∧ Grew W P P') := fun W h => (OPS.read oi h).mono fun r w' h => by
    obtain ⟨P', v, h1, h2, h3, h4, h5⟩ := h
    obtain ⟨a, n, c, hv⟩ := h2.now.form
    subst hv
    rw [← HRX.out] at h1
    exact ⟨P', a, n, c, h1, by rw [HRB.out]; exact h2.now, h3, h4, h5⟩
  have HCY : Hid (∀ (W : World) (X : Nat → Prop), RdS X W D (.slice ad ns cs) (.slice aw nw cw) → (∀ k, X k → k < W.heap.size) → Calls Try.prog 26 #[.agg [.slice ad ns cs, .slice aw nw cw, .int .i64 lf, .bool dn].toArray, .int .i64 oi] W fun r w' => ∃ a n c, r = .returned (.tuple #[.slice a n c, .int .i64 rx]) ∧ Reads w' (.slice a n c) rb ∧ Below W.heap.size W w') := fun W X h1 h2 => by
    have h := rdRead_any X D _ _ oi W h1 HOK.out (by have h := HW2.out; omega) h2
    rw [HRC.out] at h
    refine h.mono fun e w' h => ?_
    obtain ⟨v, h3, h4, h5⟩ := h
    obtain ⟨a, n, c, hv⟩ := h4.now.form
    subst hv
    rw [← HRX.out] at h3
    exact ⟨a, n, c, h3, by rw [HRB.out]; exact h4.now, h5⟩
  clear hD hS hX hw hK hk
  go_enter Try.func11, Try.ntmps11
  have tk0 : Hid True := trivial
  have tk1 : Hid True := trivial
  have tk2 : Hid True := trivial
  have tk3 : Hid True := trivial
  have tk4 : Hid True := trivial
  have tk5 : Hid True := trivial
  go_upto_region 5 with (first
    | (clear tk0; with_reducible refine wpSeq_boxW 27 (.tmp 1) [.slice ad ns cs, .slice aw nw cw, .int .i64 lf, .bool dn] ?_ ?_ ?_ ?_
       · rfl
       · rfl
       · rfl
       intro g4 y1 nn
       have GE_g4 : Hid (w.heap.size ≤ g4) := Nat.le_trans HMW.out.size nn.ge
       have NP_g4 : Hid (¬ P g4) := fun h => absurd (OPS.lt HDK.out g4 h) (by have h2 := nn.ge; omega)
       replace HDK : Hid (Dk y1 g P D) := OPS.same HDK.out nn.below.size (fun k hk => nn.below.block k (OPS.lt HDK.out k hk))
       replace HMW : Hid (Mut P w y1) := HMW.out.trans HGR.out.old (mut_below nn.below _)
       have H4 : Hid (Blk y1 g4 [.slice ad ns cs, .slice aw nw cw, .int .i64 lf, .bool dn] 27) := nn.blk
       clear nn)
    | (clear tk1; with_reducible refine wpSeq_boxW 36 (.tmp 2) [.int .i64 kd, .int .i64 oi, .int .i64 on, .int .u8 (oc.toNat : Int), .slice ak nk ck] ?_ ?_ ?_ ?_
       · rfl
       · rfl
       · rfl
       intro g5 y2 nn
       have NE_g4_g5 : Hid (g4 ≠ g5) := by have h1 := H4.out.lt; have h2 := nn.ge; show _ ≠ _; omega
       have GE_g5 : Hid (w.heap.size ≤ g5) := Nat.le_trans HMW.out.size nn.ge
       have NP_g5 : Hid (¬ P g5) := fun h => absurd (OPS.lt HDK.out g5 h) (by have h2 := nn.ge; omega)
       replace H4 : Hid (Blk y2 g4 [.slice ad ns cs, .slice aw nw cw, .int .i64 lf, .bool dn] 27) := H4.out.below nn.below H4.out.lt
       replace HDK : Hid (Dk y2 g P D) := OPS.same HDK.out nn.below.size (fun k hk => nn.below.block k (OPS.lt HDK.out k hk))
       replace HMW : Hid (Mut P w y2) := HMW.out.trans HGR.out.old (mut_below nn.below _)
       have H5 : Hid (Blk y2 g5 [.int .i64 kd, .int .i64 oi, .int .i64 on, .int .u8 (oc.toNat : Int), .slice ak nk ck] 36) := nn.blk
       have o0 : y2.cell? ⟨g5, 0, none⟩ = some (.int .i64 kd) := H5.out.cell 0
       have o1 : y2.cell? ⟨g5, 1, none⟩ = some (.int .i64 oi) := H5.out.cell 1
       have o2 : y2.cell? ⟨g5, 2, none⟩ = some (.int .i64 on) := H5.out.cell 2
       have o4 : y2.cell? ⟨g5, 4, none⟩ = some (.slice ak nk ck) := H5.out.cell 4
       clear nn)
    | (clear tk2; with_reducible refine wpSeq_allocRd ?_ ?_ ?_
       · rfl
       · rfl
       intro g6 y3 nn
       have NE_g4_g6 : Hid (g4 ≠ g6) := by have h1 := H4.out.lt; have h2 := nn.ge; show _ ≠ _; omega
       have NE_g5_g6 : Hid (g5 ≠ g6) := by have h1 := H5.out.lt; have h2 := nn.ge; show _ ≠ _; omega
       have GE_g6 : Hid (w.heap.size ≤ g6) := Nat.le_trans HMW.out.size nn.ge
       have NP_g6 : Hid (¬ P g6) := fun h => absurd (OPS.lt HDK.out g6 h) (by have h2 := nn.ge; omega)
       clear o0
       clear o1
       clear o2
       clear o4
       replace H4 : Hid (Blk y3 g4 [.slice ad ns cs, .slice aw nw cw, .int .i64 lf, .bool dn] 27) := H4.out.below nn.below H4.out.lt
       replace H5 : Hid (Blk y3 g5 [.int .i64 kd, .int .i64 oi, .int .i64 on, .int .u8 (oc.toNat : Int), .slice ak nk ck] 36) := H5.out.below nn.below H5.out.lt
       replace HDK : Hid (Dk y3 g P D) := OPS.same HDK.out nn.below.size (fun k hk => nn.below.block k (OPS.lt HDK.out k hk))
       replace HMW : Hid (Mut P w y3) := HMW.out.trans HGR.out.old (mut_below nn.below _)
       have o0 : y3.cell? ⟨g5, 0, none⟩ = some (.int .i64 kd) := H5.out.cell 0
       have o1 : y3.cell? ⟨g5, 1, none⟩ = some (.int .i64 oi) := H5.out.cell 1
       have o2 : y3.cell? ⟨g5, 2, none⟩ = some (.int .i64 on) := H5.out.cell 2
       have o4 : y3.cell? ⟨g5, 4, none⟩ = some (.slice ak nk ck) := H5.out.cell 4
       have H6 : Hid (Blk y3 g6 [.slice none 0 0, .slice none 0 0, .int .i64 0, .bool false] 27) := nn.blk
       have HRS : Hid (RdS (Ext P (g6 :: X)) y3 D (.slice ad ns cs) (.slice aw nw cw)) := HRS0.out.start HMW.out GE_g6.out
       clear nn)
    | (clear tk3; go_at_call 23; refine (HRD.out _ HDK.out).mono ?_; rintro e0 y4 ⟨P1, aa, na, ca, rfl, hst, hdk, hm, hgr⟩
       clear o0
       clear o1
       clear o2
       clear o4
       have np_g4 : ¬ P1 g4 := fun h => NP_g4.out (hgr.old g4 H4.out.lt h)
       replace H4 : Hid (Blk y4 g4 [.slice ad ns cs, .slice aw nw cw, .int .i64 lf, .bool dn] 27) := hm.blk H4.out NP_g4.out
       replace NP_g4 : Hid (¬ P1 g4) := np_g4
       clear np_g4
       have np_g5 : ¬ P1 g5 := fun h => NP_g5.out (hgr.old g5 H5.out.lt h)
       replace H5 : Hid (Blk y4 g5 [.int .i64 kd, .int .i64 oi, .int .i64 on, .int .u8 (oc.toNat : Int), .slice ak nk ck] 36) := hm.blk H5.out NP_g5.out
       replace NP_g5 : Hid (¬ P1 g5) := np_g5
       clear np_g5
       have np_g6 : ¬ P1 g6 := fun h => NP_g6.out (hgr.old g6 H6.out.lt h)
       replace H6 : Hid (Blk y4 g6 [.slice none 0 0, .slice none 0 0, .int .i64 0, .bool false] 27) := hm.blk H6.out NP_g6.out
       replace NP_g6 : Hid (¬ P1 g6) := np_g6
       clear np_g6
       replace HRS : Hid (RdS (Ext P1 (g6 :: X)) y4 D (.slice ad ns cs) (.slice aw nw cw)) := HRS.out.actE hm hgr
       have hgw : Grew w P P1 := HGR.out.trans HMW.out.size hgr
       replace HMW : Hid (Mut P w y4) := HMW.out.trans HGR.out.old hm
       replace HGR : Hid (Grew w P P1) := hgw
       clear hgw
       replace HDK : Hid (Dk y4 g P1 D) := hdk
       have o0 : y4.cell? ⟨g5, 0, none⟩ = some (.int .i64 kd) := H5.out.cell 0
       have o1 : y4.cell? ⟨g5, 1, none⟩ = some (.int .i64 oi) := H5.out.cell 1
       have o2 : y4.cell? ⟨g5, 2, none⟩ = some (.int .i64 on) := H5.out.cell 2
       have o4 : y4.cell? ⟨g5, 4, none⟩ = some (.slice ak nk ck) := H5.out.cell 4
       have HA : Hid (Reads y4 (.slice aa na ca) rb) := hst
       clear hdk hm hgr hst)
    | (clear tk4; with_reducible refine wpSeq_loadW 27 (.tmp 4) g4 0 [.slice ad ns cs, .slice aw nw cw, .int .i64 lf, .bool dn] _ ?_ Try.underlying27 rfl ?_ ?_ ?_ ?_ ?_
       · exact H4.out.range
       · exact (info_rd _ _ _ _)
       · rfl
       · rfl
       · rfl)
    | (clear tk5; go_at_call 26; refine (HCY.out _ _ HRS.out (fun k hk => by rcases hk with hk | hk; exact OPS.lt HDK.out k hk; rcases List.mem_cons.1 hk with rfl | hk; exact H6.out.lt; exact Nat.lt_of_lt_of_le (HXL.out k hk) HMW.out.size)).mono ?_; rintro e0 y5 ⟨ab, nb, cb2, rfl, hrb, hbz⟩
       clear o0
       clear o1
       clear o2
       clear o4
       replace H4 : Hid (Blk y5 g4 [.slice ad ns cs, .slice aw nw cw, .int .i64 lf, .bool dn] 27) := H4.out.below hbz H4.out.lt
       replace H5 : Hid (Blk y5 g5 [.int .i64 kd, .int .i64 oi, .int .i64 on, .int .u8 (oc.toNat : Int), .slice ak nk ck] 36) := H5.out.below hbz H5.out.lt
       replace H6 : Hid (Blk y5 g6 [.slice none 0 0, .slice none 0 0, .int .i64 0, .bool false] 27) := H6.out.below hbz H6.out.lt
       replace HA : Hid (Reads y5 (.slice aa na ca) rb) := HA.out.below hbz
       replace HDK : Hid (Dk y5 g P1 D) := OPS.same HDK.out hbz.size (fun k hk => hbz.block k (OPS.lt HDK.out k hk))
       replace HRS : Hid (RdS (Ext P1 (g6 :: X)) y5 D (.slice ad ns cs) (.slice aw nw cw)) := HRS.out.below hbz
       replace HMW : Hid (Mut P w y5) := HMW.out.trans HGR.out.old (mut_below hbz _)
       have o0 : y5.cell? ⟨g5, 0, none⟩ = some (.int .i64 kd) := H5.out.cell 0
       have o1 : y5.cell? ⟨g5, 1, none⟩ = some (.int .i64 oi) := H5.out.cell 1
       have o2 : y5.cell? ⟨g5, 2, none⟩ = some (.int .i64 on) := H5.out.cell 2
       have o4 : y5.cell? ⟨g5, 4, none⟩ = some (.slice ak nk ck) := H5.out.cell 4
       have HB : Hid (Reads y5 (.slice ab nb cb2) rb) := hrb
       clear hrb hbz))
  refine wp_region_held_drew (S := Only g6 (World.drew y5)) (by kernel_rfl) (Only.refl _ _) ?_
  intro hS
  replace H4 : Hid (Blk (World.drew y5) g4 [.slice ad ns cs, .slice aw nw cw, .int .i64 lf, .bool dn] 27) := H4.out.drew
  replace H6 : Hid (Blk (World.drew y5) g6 [.slice none 0 0, .slice none 0 0, .int .i64 0, .bool false] 27) := H6.out.drew
  replace HMW : Hid (Mut P w (World.drew y5)) := HMW.out.drew
  replace HDK : Hid (Dk (World.drew y5) g P1 D) := OPS.same HDK.out (Nat.le_refl _) (fun _ _ => rfl)
  replace HRS : Hid (RdS (Ext P1 (g6 :: X)) (World.drew y5) D (.slice ad ns cs) (.slice aw nw cw)) := HRS.out.go (mut_drew _ _) (fun _ _ h => h)
  replace HA : Hid (Reads (World.drew y5) (.slice aa na ca) rb) := HA.out.below (Below.refl _ _).drew
  replace HB : Hid (Reads (World.drew y5) (.slice ab nb cb2) rb) := HB.out.below (Below.refl _ _).drew
  clear o0 o1 o2 o4
  change wpAnyH _ _ _ _ _ _ _ _ (World.drew y5)
  generalize World.drew y5 = y0 at *
  try simp only [Act.put, List.setIfInBounds_toArray, List.set_cons_zero, List.set_cons_succ]
  refine wpAnyH_take (i := 0) (v := .agg [.slice ad ns cs, .slice aw nw cw, .int .i64 lf, .bool dn].toArray) rfl (by kernel_rfl) (by kernel_rfl) (by kernel_rfl) (fun _ _ _ h => h) (Or.inl ⟨by rfl, fun wx hx => by exact load_run 27 _ rfl g4 0 rfl [.slice ad ns cs, .slice aw nw cw, .int .i64 lf, .bool dn] _ (H4.out.only hx NE_g4_g6.out).range Try.underlying27 rfl (info_rd _ _ _ _)⟩) hS ?_
  simp only [Act.put, List.getElem_toArray, List.getElem_cons_zero, List.setIfInBounds_toArray, List.set_cons_zero, List.set_cons_succ]
  refine wpAnyH_take (i := 1) (v := .slice aa na ca) rfl (by kernel_rfl) (by kernel_rfl) (by kernel_rfl) (fun _ _ _ h => h) (Or.inl ⟨by rfl, fun wx hx => by simp [go_sem]⟩) hS ?_
  simp only [Act.put, List.getElem_toArray, List.getElem_cons_succ, List.getElem_cons_zero, List.setIfInBounds_toArray, List.set_cons_zero, List.set_cons_succ]
  refine wpAnyH_take (i := 2) (v := .slice ab nb cb2) rfl (by kernel_rfl) (by kernel_rfl) (by kernel_rfl) (fun _ _ _ h => h) (Or.inl ⟨by rfl, fun wx hx => by simp [go_sem]⟩) hS ?_
  simp only [Act.put, List.getElem_toArray, List.getElem_cons_succ, List.getElem_cons_zero, List.setIfInBounds_toArray, List.set_cons_zero, List.set_cons_succ]
  refine wpAnyH_enter 3 (by kernel_rfl) rfl (by rfl) (f := 13) (args := #[.slice aa na ca, .slice ab nb cb2]) (by simp [go_sem]) (same_self _ _ rb y0 HA.out HB.out) ?_
  rintro e z1 ⟨rfl, rfl⟩
  refine ⟨_, rfl, hS, ?_⟩
  simp only [Act.put, List.getElem_toArray, List.getElem_cons_succ, List.getElem_cons_zero, List.setIfInBounds_toArray, List.set_cons_zero, List.set_cons_succ]
  refine wpAnyH_take (i := 4) (v := .bool true) rfl (by kernel_rfl) (by kernel_rfl) (by kernel_rfl) (fun _ _ _ h => h) (Or.inl ⟨by rfl, fun wx hx => by simp [go_sem]⟩) hS ?_
  simp only [Act.put, List.getElem_toArray, List.getElem_cons_succ, List.getElem_cons_zero, List.setIfInBounds_toArray, List.set_cons_zero, List.set_cons_succ]
  refine wpAnyH_take (i := 5) (v := .int .i64 rx) rfl (by kernel_rfl) (by kernel_rfl) (by kernel_rfl) (fun _ _ _ h => h) (Or.inl ⟨by rfl, fun wx hx => by simp [go_sem]⟩) hS ?_
  simp only [Act.put, List.getElem_toArray, List.getElem_cons_succ, List.getElem_cons_zero, List.setIfInBounds_toArray, List.set_cons_zero, List.set_cons_succ]
  refine wpAnyH_take (i := 6) (v := .int .i64 rx) rfl (by kernel_rfl) (by kernel_rfl) (by kernel_rfl) (fun _ _ _ h => h) (Or.inl ⟨by rfl, fun wx hx => by simp [go_sem]⟩) hS ?_
  simp only [Act.put, List.getElem_toArray, List.getElem_cons_succ, List.getElem_cons_zero, List.setIfInBounds_toArray, List.set_cons_zero, List.set_cons_succ]
  refine wpAnyH_take (i := 7) (v := .bool true) rfl (by kernel_rfl) (by kernel_rfl) (by kernel_rfl) (fun _ _ _ h => h) (Or.inl ⟨by rfl, fun wx hx => by simp [go_sem]⟩) hS ?_
  simp only [Act.put, List.getElem_toArray, List.getElem_cons_succ, List.getElem_cons_zero, List.setIfInBounds_toArray, List.set_cons_zero, List.set_cons_succ]
  refine wpAnyH_take (i := 8) (v := .bool true) rfl (by kernel_rfl) (by kernel_rfl) (by kernel_rfl) (fun _ _ _ h => h) (Or.inl ⟨by rfl, fun wx hx => by simp [go_sem]⟩) hS ?_
  simp only [Act.put, List.getElem_toArray, List.getElem_cons_succ, List.getElem_cons_zero, List.setIfInBounds_toArray, List.set_cons_zero, List.set_cons_succ]
  refine wpAnyH_storeRow 9 27 (.tmp 6) (.tmp 38) g6 [.slice none 0 0, .slice none 0 0, .int .i64 0, .bool false] [.slice ad ns cs, .slice aw nw cw, .int .i64 lf, .bool dn] H6.out rfl (info_rd _ _ _ _) (one_rd _ _ _ _ _ _ _ _) (by kernel_rfl) rfl (by rfl) rfl rfl rfl ?_
  intro yE hs
  replace hS := hs.only
  refine ⟨hS, ?_⟩
  simp only [Act.put, List.getElem_toArray, List.getElem_cons_succ, List.getElem_cons_zero]
  refine wpAnyH_take (i := 10) (v := .bool true) rfl (by kernel_rfl) (by kernel_rfl) (by kernel_rfl) (fun _ _ _ h => h) (Or.inl ⟨by rfl, fun wx hx => by simp [go_sem]⟩) hS ?_
  simp only [Act.put, List.getElem_toArray, List.getElem_cons_succ, List.getElem_cons_zero, List.setIfInBounds_toArray, List.set_cons_zero, List.set_cons_succ]
  refine wpAnyH_done (by kernel_rfl) ?_ _
  go_wp2
  exact bodyPost_ret (results_row_tmp (by rfl) _ _ g6 _ rfl (var_rd hs.blk)) rfl ⟨⟨P1, _, _, by rw [HRC.out]; rfl, OPS.same HDK.out hs.only.size (fun k hk => hs.only.block k (fun e => NP_g6.out (e ▸ hk)) (OPS.lt HDK.out k hk)), (HRS.out.go (hs.only.mut (Or.inr (by simp))) (fun _ _ h => h)).less, HMW.out.own hs.only GE_g6.out, HGR.out⟩⟩
end Go.Proofs.Ytdllnedmhhajnaa

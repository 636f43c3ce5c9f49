/- The walk of the statements' own step (layer 13): all acts but writes. -/
import Derived.Test.YtdllnedmhhajnaaDkSt
namespace Go.Proofs.Ytdllnedmhhajnaa
open Go.RowKit
set_option maxRecDepth 100000
/-- blocks of P, and those of a list -/
def Ext (P : Nat → Prop) (l : List Nat) : Nat → Prop := fun k => P k ∨ k ∈ l
theorem ext_old {P P' : Nat → Prop} {w : World} {l : List Nat} (g : Grew w P P') : ∀ k, k < w.heap.size → Ext P' l k → Ext P l k := fun k hk h => h.elim (fun h => Or.inl (g.old k hk h)) Or.inr
theorem Mut.ext {P : Nat → Prop} {w w' : World} (m : Mut P w w') (l : List Nat) : Mut (Ext P l) w w' := ⟨m.os, m.tape, m.output, m.size, fun k hk hn => m.block k hk (fun h => hn (Or.inl h))⟩
theorem RdS.actE {P P' : Nat → Prop} {w w' : World} {D : DkT} {vs vw : Value} {l : List Nat} (h : RdS (Ext P l) w D vs vw) (m : Mut P w w') (g : Grew w P P') : RdS (Ext P' l) w' D vs vw := h.go (m.ext l) (ext_old g)
/-- new blocks besides -/
theorem ext_new {P : Nat → Prop} {w : World} {l l' : List Nat} (hl : ∀ k, k ∈ l' → k ∈ l ∨ w.heap.size ≤ k) : ∀ k, k < w.heap.size → Ext P l' k → Ext P l k := fun k hk h => h.elim Or.inl (fun h => (hl k h).elim Or.inr (fun h => absurd h (by omega)))
theorem RdS.start {P : Nat → Prop} {w w' : World} {D : DkT} {vs vw : Value} {l : List Nat} {a : Nat} (h : RdS (Ext P l) w D vs vw) (m : Mut P w w') (ha : w.heap.size ≤ a) : RdS (Ext P (a :: l)) w' D vs vw := h.go (m.ext l) (fun k hk h => h.elim Or.inl (fun h => by rcases List.mem_cons.1 h with rfl | h; exact absurd ha (by omega); exact Or.inr h))
theorem RdS.less {P : Nat → Prop} {w : World} {D : DkT} {vs vw : Value} {l : List Nat} {a : Nat} (h : RdS (Ext P (a :: l)) w D vs vw) : RdS (Ext P l) w D vs vw := h.go (Mut.refl _ _) (fun _ _ h => h.elim Or.inl (fun h => Or.inr (List.mem_cons_of_mem _ h)))
/-- behind an act -/
def stepD (D : DkT) (o : OpT) : DkT := if o.kind = 0 then D else if o.kind = 1 then putD13 D o.i (opB o) else if o.kind = 2 then syncD13 D else if o.kind = 3 then fuseD13 D o.n else if o.kind = 4 then crashD13 D o.keep else D
/-- what a step leaves -/
structure StepR (Dk : World → Nat → (Nat → Prop) → DkT → Prop) (g : Nat) (P : Nat → Prop) (X : List Nat) (w : World) (D' : DkT) (r : Ending) (w' : World) : Prop where
  ex : ∃ P' vs vw, r = .returned (.tuple #[.agg (rdC D' vs vw).toArray, .bool true]) ∧ Dk w' g P' D' ∧ RdS (Ext P' X) w' D' vs vw ∧ Mut P w w' ∧ Grew w P P'
set_option maxRecDepth 100000 in
set_option maxHeartbeats 8000000 in
theorem step_other {Dk : World → Nat → (Nat → Prop) → DkT → Prop} (OPS : DkOps Dk) {w : World} {g : Nat} {P : Nat → Prop} {X : List Nat} {D : DkT} {vs vw vk : Value} {o : OpT} (hD : Dk w g P D) (hS : RdS (Ext P X) w D vs vw) (hX : ∀ k, k ∈ X → k < w.heap.size) (hw : D.wait.length ≤ 199) (hK : Sta P w (fun W => ReadsI W vk o.keep)) (hk : o.kind ≠ 0 ∧ o.kind ≠ 1 ∧ o.kind ≠ 2 ∧ o.kind ≠ 3 ∧ o.kind ≠ 4) :
    Calls Try.prog 11 #[.pointer (some ⟨g, 0, none⟩), .agg (rdC D vs vw).toArray, .agg (opC o vk).toArray] w (StepR Dk g P X w D) := by
  obtain ⟨ad, cs, aw, cw, hvs, hvw⟩ := hS.form
  obtain ⟨ns, HNS⟩ : ∃ n, Hid (n = D.safe.length) := ⟨_, rfl⟩
  obtain ⟨nw, HNW⟩ : ∃ n, Hid (n = D.wait.length) := ⟨_, rfl⟩
  rw [← HNS.out] at hvs
  rw [← HNW.out] at hvw
  subst hvs hvw
  have HRS0 : Hid (RdS (Ext P X) w D (.slice ad ns cs) (.slice aw nw cw)) := hS
  have HW2 : Hid (D.wait.length ≤ 199) := hw
  obtain ⟨lf, HLF⟩ : ∃ n, Hid (n = D.left) := ⟨_, rfl⟩
  obtain ⟨dn, HDN⟩ : ∃ n, Hid (n = D.down) := ⟨_, rfl⟩
  have HRC : Hid (rdC D (.slice ad ns cs) (.slice aw nw cw) = [.slice ad ns cs, .slice aw nw cw, .int .i64 lf, .bool dn]) := by show _ = _; rw [rdC, HLF.out, HDN.out]
  rw [HRC.out]
  obtain ⟨kd, HKD⟩ : ∃ x, Hid (x = o.kind) := ⟨_, rfl⟩
  obtain ⟨oi, HOI⟩ : ∃ x, Hid (x = o.i) := ⟨_, rfl⟩
  obtain ⟨on, HON⟩ : ∃ x, Hid (x = o.n) := ⟨_, rfl⟩
  obtain ⟨oc, HOC⟩ : ∃ x, Hid (x = o.c) := ⟨_, rfl⟩
  obtain ⟨ak, ck, hvk⟩ := hK.now.form
  obtain ⟨nk, HNK⟩ : ∃ n, Hid (n = o.keep.length) := ⟨_, rfl⟩
  rw [← HNK.out] at hvk
  subst hvk
  have HCO : Hid (opC o (.slice ak nk ck) = [.int .i64 kd, .int .i64 oi, .int .i64 on, .int .u8 (oc.toNat : Int), .slice ak nk ck]) := by show _ = _; rw [opC, HKD.out, HOI.out, HON.out, HOC.out]
  rw [HCO.out]
  have HKP : Hid (Sta P w (fun W => ReadsI W (.slice ak nk ck) o.keep)) := hK
  have HDK : Hid (Dk w g P D) := hD
  have HMW : Hid (Mut P w w) := Mut.refl _ _
  have HGR : Hid (Grew w P P) := Grew.refl _ _
  have HXL : Hid (∀ k, k ∈ X → k < w.heap.size) := hX
  have q0 : (kd == 0) = false := by rw [beq_eq_false_iff_ne, HKD.out]; omega
  have q1 : (kd == 1) = false := by rw [beq_eq_false_iff_ne, HKD.out]; omega
  have q2 : (kd == 2) = false := by rw [beq_eq_false_iff_ne, HKD.out]; omega
  have q3 : (kd == 3) = false := by rw [beq_eq_false_iff_ne, HKD.out]; omega
  have q4 : (kd == 4) = false := by rw [beq_eq_false_iff_ne, HKD.out]; omega
  clear hD hS hX hw hK hk
  go_enter Try.func11, Try.ntmps11
  have tk0 : Hid True := trivial
  have tk1 : Hid True := trivial
  have tk2 : Hid True := trivial
  have tk3 : Hid True := trivial
  have tk4 : Hid True := trivial
  go_wp2_with (first
    | (clear tk0; with_reducible refine wpSeq_boxW 27 (.tmp 1) [.slice ad ns cs, .slice aw nw cw, .int .i64 lf, .bool dn] ?_ ?_ ?_ ?_
       · rfl
       · rfl
       · rfl
       intro g4 y1 nn
       have GE_g4 : Hid (w.heap.size ≤ g4) := Nat.le_trans HMW.out.size nn.ge
       have NP_g4 : Hid (¬ P g4) := fun h => absurd (OPS.lt HDK.out g4 h) (by have h2 := nn.ge; omega)
       replace HDK : Hid (Dk y1 g P D) := OPS.same HDK.out nn.below.size (fun k hk => nn.below.block k (OPS.lt HDK.out k hk))
       replace HMW : Hid (Mut P w y1) := HMW.out.trans HGR.out.old (mut_below nn.below _)
       have H4 : Hid (Blk y1 g4 [.slice ad ns cs, .slice aw nw cw, .int .i64 lf, .bool dn] 27) := nn.blk
       clear nn)
    | (clear tk1; with_reducible refine wpSeq_boxW 36 (.tmp 2) [.int .i64 kd, .int .i64 oi, .int .i64 on, .int .u8 (oc.toNat : Int), .slice ak nk ck] ?_ ?_ ?_ ?_
       · rfl
       · rfl
       · rfl
       intro g5 y2 nn
       have NE_g4_g5 : Hid (g4 ≠ g5) := by have h1 := H4.out.lt; have h2 := nn.ge; show _ ≠ _; omega
       have GE_g5 : Hid (w.heap.size ≤ g5) := Nat.le_trans HMW.out.size nn.ge
       have NP_g5 : Hid (¬ P g5) := fun h => absurd (OPS.lt HDK.out g5 h) (by have h2 := nn.ge; omega)
       replace H4 : Hid (Blk y2 g4 [.slice ad ns cs, .slice aw nw cw, .int .i64 lf, .bool dn] 27) := H4.out.below nn.below H4.out.lt
       replace HDK : Hid (Dk y2 g P D) := OPS.same HDK.out nn.below.size (fun k hk => nn.below.block k (OPS.lt HDK.out k hk))
       replace HMW : Hid (Mut P w y2) := HMW.out.trans HGR.out.old (mut_below nn.below _)
       have H5 : Hid (Blk y2 g5 [.int .i64 kd, .int .i64 oi, .int .i64 on, .int .u8 (oc.toNat : Int), .slice ak nk ck] 36) := nn.blk
       have o0 : y2.cell? ⟨g5, 0, none⟩ = some (.int .i64 kd) := H5.out.cell 0
       have o1 : y2.cell? ⟨g5, 1, none⟩ = some (.int .i64 oi) := H5.out.cell 1
       have o2 : y2.cell? ⟨g5, 2, none⟩ = some (.int .i64 on) := H5.out.cell 2
       have o4 : y2.cell? ⟨g5, 4, none⟩ = some (.slice ak nk ck) := H5.out.cell 4
       clear nn)
    | (clear tk2; with_reducible refine wpSeq_allocRd ?_ ?_ ?_
       · rfl
       · rfl
       intro g6 y3 nn
       have NE_g4_g6 : Hid (g4 ≠ g6) := by have h1 := H4.out.lt; have h2 := nn.ge; show _ ≠ _; omega
       have NE_g5_g6 : Hid (g5 ≠ g6) := by have h1 := H5.out.lt; have h2 := nn.ge; show _ ≠ _; omega
       have GE_g6 : Hid (w.heap.size ≤ g6) := Nat.le_trans HMW.out.size nn.ge
       have NP_g6 : Hid (¬ P g6) := fun h => absurd (OPS.lt HDK.out g6 h) (by have h2 := nn.ge; omega)
       clear o0
       clear o1
       clear o2
       clear o4
       replace H4 : Hid (Blk y3 g4 [.slice ad ns cs, .slice aw nw cw, .int .i64 lf, .bool dn] 27) := H4.out.below nn.below H4.out.lt
       replace H5 : Hid (Blk y3 g5 [.int .i64 kd, .int .i64 oi, .int .i64 on, .int .u8 (oc.toNat : Int), .slice ak nk ck] 36) := H5.out.below nn.below H5.out.lt
       replace HDK : Hid (Dk y3 g P D) := OPS.same HDK.out nn.below.size (fun k hk => nn.below.block k (OPS.lt HDK.out k hk))
       replace HMW : Hid (Mut P w y3) := HMW.out.trans HGR.out.old (mut_below nn.below _)
       have o0 : y3.cell? ⟨g5, 0, none⟩ = some (.int .i64 kd) := H5.out.cell 0
       have o1 : y3.cell? ⟨g5, 1, none⟩ = some (.int .i64 oi) := H5.out.cell 1
       have o2 : y3.cell? ⟨g5, 2, none⟩ = some (.int .i64 on) := H5.out.cell 2
       have o4 : y3.cell? ⟨g5, 4, none⟩ = some (.slice ak nk ck) := H5.out.cell 4
       have H6 : Hid (Blk y3 g6 [.slice none 0 0, .slice none 0 0, .int .i64 0, .bool false] 27) := nn.blk
       have HRS : Hid (RdS (Ext P (g6 :: X)) y3 D (.slice ad ns cs) (.slice aw nw cw)) := HRS0.out.start HMW.out GE_g6.out
       clear nn)
    | (clear tk3; with_reducible refine wpSeq_loadW 27 (.tmp 4) g4 0 [.slice ad ns cs, .slice aw nw cw, .int .i64 lf, .bool dn] _ ?_ Try.underlying27 rfl ?_ ?_ ?_ ?_ ?_
       · exact H4.out.range
       · exact (info_rd _ _ _ _)
       · rfl
       · rfl
       · rfl)
    | (clear tk4; with_reducible refine wpSeq_storeRow 27 (.tmp 6) (.tmp 114) g6 [.slice none 0 0, .slice none 0 0, .int .i64 0, .bool false] [.slice ad ns cs, .slice aw nw cw, .int .i64 lf, .bool dn] H6.out (by simp) (info_rd _ _ _ _) (one_rd _ _ _ _ _ _ _ _) ?_ ?_ ?_ ?_ ?_
       · rfl
       · rfl
       · rfl
       · rfl
       intro y4 hs
       have hb := hs.blk
       have ho := hs.only
       clear o0
       clear o1
       clear o2
       clear o4
       replace H4 : Hid (Blk y4 g4 [.slice ad ns cs, .slice aw nw cw, .int .i64 lf, .bool dn] 27) := H4.out.only ho NE_g4_g6.out
       replace H5 : Hid (Blk y4 g5 [.int .i64 kd, .int .i64 oi, .int .i64 on, .int .u8 (oc.toNat : Int), .slice ak nk ck] 36) := H5.out.only ho NE_g5_g6.out
       replace HDK : Hid (Dk y4 g P D) := OPS.same HDK.out ho.size (fun k hk => ho.block k (fun e => NP_g6.out (e ▸ hk)) (OPS.lt HDK.out k hk))
       replace HRS : Hid (RdS (Ext P (g6 :: X)) y4 D (.slice ad ns cs) (.slice aw nw cw)) := HRS.out.go (ho.mut (Or.inr (by simp))) (fun _ _ h => h)
       replace HMW : Hid (Mut P w y4) := HMW.out.own ho GE_g6.out
       replace H6 : Hid (Blk y4 g6 [.slice ad ns cs, .slice aw nw cw, .int .i64 lf, .bool dn] 27) := hb
       have o0 : y4.cell? ⟨g5, 0, none⟩ = some (.int .i64 kd) := H5.out.cell 0
       have o1 : y4.cell? ⟨g5, 1, none⟩ = some (.int .i64 oi) := H5.out.cell 1
       have o2 : y4.cell? ⟨g5, 2, none⟩ = some (.int .i64 on) := H5.out.cell 2
       have o4 : y4.cell? ⟨g5, 4, none⟩ = some (.slice ak nk ck) := H5.out.cell 4
       clear hb ho hs))
  exact bodyPost_ret (results_row_tmp (by rfl) _ _ g6 _ rfl (var_rd H6.out)) rfl ⟨⟨P, _, _, by rw [HRC.out]; rfl, HDK.out, HRS.out.less, HMW.out, HGR.out⟩⟩
set_option maxRecDepth 100000 in
set_option maxHeartbeats 8000000 in
theorem step_fuse {Dk : World → Nat → (Nat → Prop) → DkT → Prop} (OPS : DkOps Dk) {w : World} {g : Nat} {P : Nat → Prop} {X : List Nat} {D : DkT} {vs vw vk : Value} {o : OpT} (hD : Dk w g P D) (hS : RdS (Ext P X) w D vs vw) (hX : ∀ k, k ∈ X → k < w.heap.size) (hw : D.wait.length ≤ 199) (hK : Sta P w (fun W => ReadsI W vk o.keep)) (hk : o.kind = 3) (hn : o.n < 9223372036854775808) :
    Calls Try.prog 11 #[.pointer (some ⟨g, 0, none⟩), .agg (rdC D vs vw).toArray, .agg (opC o vk).toArray] w (StepR Dk g P X w (fuseD13 D o.n)) := by
  obtain ⟨ad, cs, aw, cw, hvs, hvw⟩ := hS.form
  obtain ⟨ns, HNS⟩ : ∃ n, Hid (n = D.safe.length) := ⟨_, rfl⟩
  obtain ⟨nw, HNW⟩ : ∃ n, Hid (n = D.wait.length) := ⟨_, rfl⟩
  rw [← HNS.out] at hvs
  rw [← HNW.out] at hvw
  subst hvs hvw
  have HRS0 : Hid (RdS (Ext P X) w D (.slice ad ns cs) (.slice aw nw cw)) := hS
  have HW2 : Hid (D.wait.length ≤ 199) := hw
  obtain ⟨lf, HLF⟩ : ∃ n, Hid (n = D.left) := ⟨_, rfl⟩
  obtain ⟨dn, HDN⟩ : ∃ n, Hid (n = D.down) := ⟨_, rfl⟩
  have HRC : Hid (rdC D (.slice ad ns cs) (.slice aw nw cw) = [.slice ad ns cs, .slice aw nw cw, .int .i64 lf, .bool dn]) := by show _ = _; rw [rdC, HLF.out, HDN.out]
  rw [HRC.out]
  obtain ⟨kd, HKD⟩ : ∃ x, Hid (x = o.kind) := ⟨_, rfl⟩
  obtain ⟨oi, HOI⟩ : ∃ x, Hid (x = o.i) := ⟨_, rfl⟩
  obtain ⟨on, HON⟩ : ∃ x, Hid (x = o.n) := ⟨_, rfl⟩
  obtain ⟨oc, HOC⟩ : ∃ x, Hid (x = o.c) := ⟨_, rfl⟩
  obtain ⟨ak, ck, hvk⟩ := hK.now.form
  obtain ⟨nk, HNK⟩ : ∃ n, Hid (n = o.keep.length) := ⟨_, rfl⟩
  rw [← HNK.out] at hvk
  subst hvk
  have HCO : Hid (opC o (.slice ak nk ck) = [.int .i64 kd, .int .i64 oi, .int .i64 on, .int .u8 (oc.toNat : Int), .slice ak nk ck]) := by show _ = _; rw [opC, HKD.out, HOI.out, HON.out, HOC.out]
  rw [HCO.out]
  have HKP : Hid (Sta P w (fun W => ReadsI W (.slice ak nk ck) o.keep)) := hK
  have HDK : Hid (Dk w g P D) := hD
  have HMW : Hid (Mut P w w) := Mut.refl _ _
  have HGR : Hid (Grew w P P) := Grew.refl _ _
  have HXL : Hid (∀ k, k ∈ X → k < w.heap.size) := hX
  have q0 : (kd == 0) = false := by rw [beq_eq_false_iff_ne, HKD.out]; omega
  have q1 : (kd == 1) = false := by rw [beq_eq_false_iff_ne, HKD.out]; omega
  have q2 : (kd == 2) = false := by rw [beq_eq_false_iff_ne, HKD.out]; omega
  have q3 : (kd == 3) = true := by rw [beq_iff_eq, HKD.out]; exact hk
  have HN63 : Hid (on < 9223372036854775808) := by rw [HON.out]; exact hn
  rw [← HON.out]
  obtain ⟨fl, HFL⟩ : ∃ x, Hid (x = (fuseD13 D on).left) := ⟨_, rfl⟩
  have HRF : Hid (rdC (fuseD13 D on) (.slice ad ns cs) (.slice aw nw cw) = [.slice ad ns cs, .slice aw nw cw, .int .i64 fl, .bool dn]) := by show _ = _; rw [rdC, HFL.out, HDN.out]; rfl
  have HCF : Hid (∀ W : World, Calls Try.prog 29 #[.agg [.slice ad ns cs, .slice aw nw cw, .int .i64 lf, .bool dn].toArray, .int .i64 on] W fun r w' => r = .returned (.agg [.slice ad ns cs, .slice aw nw cw, .int .i64 fl, .bool dn].toArray) ∧ Below W.heap.size W w') := fun W => by
    have h := rdFuse_any D ad ns cs aw nw cw on W
    rw [HRF.out, HRC.out] at h
    exact h
  clear hD hS hX hw hK hk hn
  go_enter Try.func11, Try.ntmps11
  have tk0 : Hid True := trivial
  have tk1 : Hid True := trivial
  have tk2 : Hid True := trivial
  have tk3 : Hid True := trivial
  have tk4 : Hid True := trivial
  have tk5 : Hid True := trivial
  have tk6 : Hid True := trivial
  go_wp2_with (first
    | (clear tk0; with_reducible refine wpSeq_boxW 27 (.tmp 1) [.slice ad ns cs, .slice aw nw cw, .int .i64 lf, .bool dn] ?_ ?_ ?_ ?_
       · rfl
       · rfl
       · rfl
       intro g4 y1 nn
       have GE_g4 : Hid (w.heap.size ≤ g4) := Nat.le_trans HMW.out.size nn.ge
       have NP_g4 : Hid (¬ P g4) := fun h => absurd (OPS.lt HDK.out g4 h) (by have h2 := nn.ge; omega)
       replace HDK : Hid (Dk y1 g P D) := OPS.same HDK.out nn.below.size (fun k hk => nn.below.block k (OPS.lt HDK.out k hk))
       replace HMW : Hid (Mut P w y1) := HMW.out.trans HGR.out.old (mut_below nn.below _)
       have H4 : Hid (Blk y1 g4 [.slice ad ns cs, .slice aw nw cw, .int .i64 lf, .bool dn] 27) := nn.blk
       clear nn)
    | (clear tk1; with_reducible refine wpSeq_boxW 36 (.tmp 2) [.int .i64 kd, .int .i64 oi, .int .i64 on, .int .u8 (oc.toNat : Int), .slice ak nk ck] ?_ ?_ ?_ ?_
       · rfl
       · rfl
       · rfl
       intro g5 y2 nn
       have NE_g4_g5 : Hid (g4 ≠ g5) := by have h1 := H4.out.lt; have h2 := nn.ge; show _ ≠ _; omega
       have GE_g5 : Hid (w.heap.size ≤ g5) := Nat.le_trans HMW.out.size nn.ge
       have NP_g5 : Hid (¬ P g5) := fun h => absurd (OPS.lt HDK.out g5 h) (by have h2 := nn.ge; omega)
       replace H4 : Hid (Blk y2 g4 [.slice ad ns cs, .slice aw nw cw, .int .i64 lf, .bool dn] 27) := H4.out.below nn.below H4.out.lt
       replace HDK : Hid (Dk y2 g P D) := OPS.same HDK.out nn.below.size (fun k hk => nn.below.block k (OPS.lt HDK.out k hk))
       replace HMW : Hid (Mut P w y2) := HMW.out.trans HGR.out.old (mut_below nn.below _)
       have H5 : Hid (Blk y2 g5 [.int .i64 kd, .int .i64 oi, .int .i64 on, .int .u8 (oc.toNat : Int), .slice ak nk ck] 36) := nn.blk
       have o0 : y2.cell? ⟨g5, 0, none⟩ = some (.int .i64 kd) := H5.out.cell 0
       have o1 : y2.cell? ⟨g5, 1, none⟩ = some (.int .i64 oi) := H5.out.cell 1
       have o2 : y2.cell? ⟨g5, 2, none⟩ = some (.int .i64 on) := H5.out.cell 2
       have o4 : y2.cell? ⟨g5, 4, none⟩ = some (.slice ak nk ck) := H5.out.cell 4
       clear nn)
    | (clear tk2; with_reducible refine wpSeq_allocRd ?_ ?_ ?_
       · rfl
       · rfl
       intro g6 y3 nn
       have NE_g4_g6 : Hid (g4 ≠ g6) := by have h1 := H4.out.lt; have h2 := nn.ge; show _ ≠ _; omega
       have NE_g5_g6 : Hid (g5 ≠ g6) := by have h1 := H5.out.lt; have h2 := nn.ge; show _ ≠ _; omega
       have GE_g6 : Hid (w.heap.size ≤ g6) := Nat.le_trans HMW.out.size nn.ge
       have NP_g6 : Hid (¬ P g6) := fun h => absurd (OPS.lt HDK.out g6 h) (by have h2 := nn.ge; omega)
       clear o0
       clear o1
       clear o2
       clear o4
       replace H4 : Hid (Blk y3 g4 [.slice ad ns cs, .slice aw nw cw, .int .i64 lf, .bool dn] 27) := H4.out.below nn.below H4.out.lt
       replace H5 : Hid (Blk y3 g5 [.int .i64 kd, .int .i64 oi, .int .i64 on, .int .u8 (oc.toNat : Int), .slice ak nk ck] 36) := H5.out.below nn.below H5.out.lt
       replace HDK : Hid (Dk y3 g P D) := OPS.same HDK.out nn.below.size (fun k hk => nn.below.block k (OPS.lt HDK.out k hk))
       replace HMW : Hid (Mut P w y3) := HMW.out.trans HGR.out.old (mut_below nn.below _)
       have o0 : y3.cell? ⟨g5, 0, none⟩ = some (.int .i64 kd) := H5.out.cell 0
       have o1 : y3.cell? ⟨g5, 1, none⟩ = some (.int .i64 oi) := H5.out.cell 1
       have o2 : y3.cell? ⟨g5, 2, none⟩ = some (.int .i64 on) := H5.out.cell 2
       have o4 : y3.cell? ⟨g5, 4, none⟩ = some (.slice ak nk ck) := H5.out.cell 4
       have H6 : Hid (Blk y3 g6 [.slice none 0 0, .slice none 0 0, .int .i64 0, .bool false] 27) := nn.blk
       have HRS : Hid (RdS (Ext P (g6 :: X)) y3 D (.slice ad ns cs) (.slice aw nw cw)) := HRS0.out.start HMW.out GE_g6.out
       clear nn)
    | (clear tk3; go_at_call 21; refine (OPS.fuse on HN63.out HDK.out).mono ?_; rintro e0 y4 ⟨P1, rfl, hdk, hm, hgr⟩
       clear o0
       clear o1
       clear o2
       clear o4
       have np_g4 : ¬ P1 g4 := fun h => NP_g4.out (hgr.old g4 H4.out.lt h)
       replace H4 : Hid (Blk y4 g4 [.slice ad ns cs, .slice aw nw cw, .int .i64 lf, .bool dn] 27) := hm.blk H4.out NP_g4.out
       replace NP_g4 : Hid (¬ P1 g4) := np_g4
       clear np_g4
       have np_g5 : ¬ P1 g5 := fun h => NP_g5.out (hgr.old g5 H5.out.lt h)
       replace H5 : Hid (Blk y4 g5 [.int .i64 kd, .int .i64 oi, .int .i64 on, .int .u8 (oc.toNat : Int), .slice ak nk ck] 36) := hm.blk H5.out NP_g5.out
       replace NP_g5 : Hid (¬ P1 g5) := np_g5
       clear np_g5
       have np_g6 : ¬ P1 g6 := fun h => NP_g6.out (hgr.old g6 H6.out.lt h)
       replace H6 : Hid (Blk y4 g6 [.slice none 0 0, .slice none 0 0, .int .i64 0, .bool false] 27) := hm.blk H6.out NP_g6.out
       replace NP_g6 : Hid (¬ P1 g6) := np_g6
       clear np_g6
       replace HRS : Hid (RdS (Ext P1 (g6 :: X)) y4 D (.slice ad ns cs) (.slice aw nw cw)) := HRS.out.actE hm hgr
       have hgw : Grew w P P1 := HGR.out.trans HMW.out.size hgr
       replace HMW : Hid (Mut P w y4) := HMW.out.trans HGR.out.old hm
       replace HGR : Hid (Grew w P P1) := hgw
       clear hgw
       replace HDK : Hid (Dk y4 g P1 (fuseD13 D on)) := hdk
       have o0 : y4.cell? ⟨g5, 0, none⟩ = some (.int .i64 kd) := H5.out.cell 0
       have o1 : y4.cell? ⟨g5, 1, none⟩ = some (.int .i64 oi) := H5.out.cell 1
       have o2 : y4.cell? ⟨g5, 2, none⟩ = some (.int .i64 on) := H5.out.cell 2
       have o4 : y4.cell? ⟨g5, 4, none⟩ = some (.slice ak nk ck) := H5.out.cell 4
       clear hdk hm hgr )
    | (clear tk4; with_reducible refine wpSeq_loadW 27 (.tmp 4) g4 0 [.slice ad ns cs, .slice aw nw cw, .int .i64 lf, .bool dn] _ ?_ Try.underlying27 rfl ?_ ?_ ?_ ?_ ?_
       · exact H4.out.range
       · exact (info_rd _ _ _ _)
       · rfl
       · rfl
       · rfl)
    | (clear tk5; go_at_call 29; refine (HCF.out y4).mono ?_; rintro e y5 ⟨rfl, hbz⟩
       clear o0
       clear o1
       clear o2
       clear o4
       replace H4 : Hid (Blk y5 g4 [.slice ad ns cs, .slice aw nw cw, .int .i64 lf, .bool dn] 27) := H4.out.below hbz H4.out.lt
       replace H5 : Hid (Blk y5 g5 [.int .i64 kd, .int .i64 oi, .int .i64 on, .int .u8 (oc.toNat : Int), .slice ak nk ck] 36) := H5.out.below hbz H5.out.lt
       replace H6 : Hid (Blk y5 g6 [.slice none 0 0, .slice none 0 0, .int .i64 0, .bool false] 27) := H6.out.below hbz H6.out.lt
       replace HDK : Hid (Dk y5 g P1 (fuseD13 D on)) := OPS.same HDK.out hbz.size (fun k hk => hbz.block k (OPS.lt HDK.out k hk))
       replace HRS : Hid (RdS (Ext P1 (g6 :: X)) y5 D (.slice ad ns cs) (.slice aw nw cw)) := HRS.out.below hbz
       replace HMW : Hid (Mut P w y5) := HMW.out.trans HGR.out.old (mut_below hbz _)
       have o0 : y5.cell? ⟨g5, 0, none⟩ = some (.int .i64 kd) := H5.out.cell 0
       have o1 : y5.cell? ⟨g5, 1, none⟩ = some (.int .i64 oi) := H5.out.cell 1
       have o2 : y5.cell? ⟨g5, 2, none⟩ = some (.int .i64 on) := H5.out.cell 2
       have o4 : y5.cell? ⟨g5, 4, none⟩ = some (.slice ak nk ck) := H5.out.cell 4
       clear hbz )
    | (clear tk6; with_reducible refine wpSeq_storeRow 27 (.tmp 6) (.tmp 103) g6 [.slice none 0 0, .slice none 0 0, .int .i64 0, .bool false] [.slice ad ns cs, .slice aw nw cw, .int .i64 fl, .bool dn] H6.out (by simp) (info_rd _ _ _ _) (one_rd _ _ _ _ _ _ _ _) ?_ ?_ ?_ ?_ ?_
       · rfl
       · rfl
       · rfl
       · rfl
       intro y6 hs
       have hb := hs.blk
       have ho := hs.only
       clear o0
       clear o1
       clear o2
       clear o4
       replace H4 : Hid (Blk y6 g4 [.slice ad ns cs, .slice aw nw cw, .int .i64 lf, .bool dn] 27) := H4.out.only ho NE_g4_g6.out
       replace H5 : Hid (Blk y6 g5 [.int .i64 kd, .int .i64 oi, .int .i64 on, .int .u8 (oc.toNat : Int), .slice ak nk ck] 36) := H5.out.only ho NE_g5_g6.out
       replace HDK : Hid (Dk y6 g P1 (fuseD13 D on)) := OPS.same HDK.out ho.size (fun k hk => ho.block k (fun e => NP_g6.out (e ▸ hk)) (OPS.lt HDK.out k hk))
       replace HRS : Hid (RdS (Ext P1 (g6 :: X)) y6 D (.slice ad ns cs) (.slice aw nw cw)) := HRS.out.go (ho.mut (Or.inr (by simp))) (fun _ _ h => h)
       replace HMW : Hid (Mut P w y6) := HMW.out.own ho GE_g6.out
       replace H6 : Hid (Blk y6 g6 [.slice ad ns cs, .slice aw nw cw, .int .i64 fl, .bool dn] 27) := hb
       have o0 : y6.cell? ⟨g5, 0, none⟩ = some (.int .i64 kd) := H5.out.cell 0
       have o1 : y6.cell? ⟨g5, 1, none⟩ = some (.int .i64 oi) := H5.out.cell 1
       have o2 : y6.cell? ⟨g5, 2, none⟩ = some (.int .i64 on) := H5.out.cell 2
       have o4 : y6.cell? ⟨g5, 4, none⟩ = some (.slice ak nk ck) := H5.out.cell 4
       clear hb ho hs))
  exact bodyPost_ret (results_row_tmp (by rfl) _ _ g6 _ rfl (var_rd H6.out)) rfl ⟨⟨P1, _, _, by rw [HRF.out]; rfl, HDK.out, HRS.out.less.of rfl rfl, HMW.out, HGR.out⟩⟩
set_option maxRecDepth 100000 in
set_option maxHeartbeats 8000000 in
theorem step_sync {Dk : World → Nat → (Nat → Prop) → DkT → Prop} (OPS : DkOps Dk) {w : World} {g : Nat} {P : Nat → Prop} {X : List Nat} {D : DkT} {vs vw vk : Value} {o : OpT} (hD : Dk w g P D) (hS : RdS (Ext P X) w D vs vw) (hX : ∀ k, k ∈ X → k < w.heap.size) (hw : D.wait.length ≤ 199) (hK : Sta P w (fun W => ReadsI W vk o.keep)) (hk : o.kind = 2) :
    Calls Try.prog 11 #[.pointer (some ⟨g, 0, none⟩), .agg (rdC D vs vw).toArray, .agg (opC o vk).toArray] w (StepR Dk g P X w (syncD13 D)) := by
  obtain ⟨ad, cs, aw, cw, hvs, hvw⟩ := hS.form
  obtain ⟨ns, HNS⟩ : ∃ n, Hid (n = D.safe.length) := ⟨_, rfl⟩
  obtain ⟨nw, HNW⟩ : ∃ n, Hid (n = D.wait.length) := ⟨_, rfl⟩
  rw [← HNS.out] at hvs
  rw [← HNW.out] at hvw
  subst hvs hvw
  have HRS0 : Hid (RdS (Ext P X) w D (.slice ad ns cs) (.slice aw nw cw)) := hS
  have HW2 : Hid (D.wait.length ≤ 199) := hw
  obtain ⟨lf, HLF⟩ : ∃ n, Hid (n = D.left) := ⟨_, rfl⟩
  obtain ⟨dn, HDN⟩ : ∃ n, Hid (n = D.down) := ⟨_, rfl⟩
  have HRC : Hid (rdC D (.slice ad ns cs) (.slice aw nw cw) = [.slice ad ns cs, .slice aw nw cw, .int .i64 lf, .bool dn]) := by show _ = _; rw [rdC, HLF.out, HDN.out]
  rw [HRC.out]
  obtain ⟨kd, HKD⟩ : ∃ x, Hid (x = o.kind) := ⟨_, rfl⟩
  obtain ⟨oi, HOI⟩ : ∃ x, Hid (x = o.i) := ⟨_, rfl⟩
  obtain ⟨on, HON⟩ : ∃ x, Hid (x = o.n) := ⟨_, rfl⟩
  obtain ⟨oc, HOC⟩ : ∃ x, Hid (x = o.c) := ⟨_, rfl⟩
  obtain ⟨ak, ck, hvk⟩ := hK.now.form
  obtain ⟨nk, HNK⟩ : ∃ n, Hid (n = o.keep.length) := ⟨_, rfl⟩
  rw [← HNK.out] at hvk
  subst hvk
  have HCO : Hid (opC o (.slice ak nk ck) = [.int .i64 kd, .int .i64 oi, .int .i64 on, .int .u8 (oc.toNat : Int), .slice ak nk ck]) := by show _ = _; rw [opC, HKD.out, HOI.out, HON.out, HOC.out]
  rw [HCO.out]
  have HKP : Hid (Sta P w (fun W => ReadsI W (.slice ak nk ck) o.keep)) := hK
  have HDK : Hid (Dk w g P D) := hD
  have HMW : Hid (Mut P w w) := Mut.refl _ _
  have HGR : Hid (Grew w P P) := Grew.refl _ _
  have HXL : Hid (∀ k, k ∈ X → k < w.heap.size) := hX
  have q0 : (kd == 0) = false := by rw [beq_eq_false_iff_ne, HKD.out]; omega
  have q1 : (kd == 1) = false := by rw [beq_eq_false_iff_ne, HKD.out]; omega
  have q2 : (kd == 2) = true := by rw [beq_iff_eq, HKD.out]; exact hk
  obtain ⟨l2, HL2⟩ : ∃ x, Hid (x = (syncD13 D).left) := ⟨_, rfl⟩
  obtain ⟨d2, HD2⟩ : ∃ x, Hid (x = (syncD13 D).down) := ⟨_, rfl⟩
  obtain ⟨sx, HSX⟩ : ∃ x, Hid (x = syncX13 D) := ⟨_, rfl⟩
  have HRF : Hid (∀ x y, rdC (syncD13 D) x y = [x, y, .int .i64 l2, .bool d2]) := fun x y => by rw [rdC, HL2.out, HD2.out]
  have HOK : Hid (okD D) := OPS.ok hD
  have HSY : Hid (∀ (W : World), Dk W g P D → Calls Try.prog 22 #[.pointer (some ⟨g, 0, none⟩)] W fun r w' => ∃ P', r = .returned (.int .i64 sx) ∧ Dk w' g P' (syncD13 D) ∧ Mut P W w' ∧ Grew W P P') := fun W h => by rw [HSX.out]; exact OPS.sync h (by have h := HW2.out; omega)
  have HCY : Hid (∀ (W : World) (X : Nat → Prop), RdS X W D (.slice ad ns cs) (.slice aw nw cw) → (∀ k, X k → k < W.heap.size) → Calls Try.prog 28 #[.agg [.slice ad ns cs, .slice aw nw cw, .int .i64 lf, .bool dn].toArray] W fun r w' => ∃ a2 n2 c2 a3 n3 c3, r = .returned (.tuple #[.agg [.slice a2 n2 c2, .slice a3 n3 c3, .int .i64 l2, .bool d2].toArray, .int .i64 sx]) ∧ RdS X w' (syncD13 D) (.slice a2 n2 c2) (.slice a3 n3 c3) ∧ Below W.heap.size W w') := fun W X h1 h2 => by
    have h := rdSync_any X D _ _ W h1 HOK.out (by have h := HW2.out; omega) h2
    rw [HRC.out, ← HSX.out] at h
    refine h.mono fun e w' h => ?_
    obtain ⟨vs', vw', h3, h4, h5⟩ := h
    obtain ⟨a2, c2, a3, c3, e1, e2⟩ := h4.form
    subst e1 e2
    rw [HRF.out] at h3
    exact ⟨_, _, _, _, _, _, h3, h4, h5⟩
  clear hD hS hX hw hK hk
  go_enter Try.func11, Try.ntmps11
  have tk0 : Hid True := trivial
  have tk1 : Hid True := trivial
  have tk2 : Hid True := trivial
  have tk3 : Hid True := trivial
  have tk4 : Hid True := trivial
  have tk5 : Hid True := trivial
  have tk6 : Hid True := trivial
  have tk7 : Hid True := trivial
  have tk8 : Hid True := trivial
  have tk9 : Hid True := trivial
  go_wp2_with (first
    | (clear tk0; with_reducible refine wpSeq_boxW 27 (.tmp 1) [.slice ad ns cs, .slice aw nw cw, .int .i64 lf, .bool dn] ?_ ?_ ?_ ?_
       · rfl
       · rfl
       · rfl
       intro g4 y1 nn
       have GE_g4 : Hid (w.heap.size ≤ g4) := Nat.le_trans HMW.out.size nn.ge
       have NP_g4 : Hid (¬ P g4) := fun h => absurd (OPS.lt HDK.out g4 h) (by have h2 := nn.ge; omega)
       replace HDK : Hid (Dk y1 g P D) := OPS.same HDK.out nn.below.size (fun k hk => nn.below.block k (OPS.lt HDK.out k hk))
       replace HMW : Hid (Mut P w y1) := HMW.out.trans HGR.out.old (mut_below nn.below _)
       have H4 : Hid (Blk y1 g4 [.slice ad ns cs, .slice aw nw cw, .int .i64 lf, .bool dn] 27) := nn.blk
       clear nn)
    | (clear tk1; with_reducible refine wpSeq_boxW 36 (.tmp 2) [.int .i64 kd, .int .i64 oi, .int .i64 on, .int .u8 (oc.toNat : Int), .slice ak nk ck] ?_ ?_ ?_ ?_
       · rfl
       · rfl
       · rfl
       intro g5 y2 nn
       have NE_g4_g5 : Hid (g4 ≠ g5) := by have h1 := H4.out.lt; have h2 := nn.ge; show _ ≠ _; omega
       have GE_g5 : Hid (w.heap.size ≤ g5) := Nat.le_trans HMW.out.size nn.ge
       have NP_g5 : Hid (¬ P g5) := fun h => absurd (OPS.lt HDK.out g5 h) (by have h2 := nn.ge; omega)
       replace H4 : Hid (Blk y2 g4 [.slice ad ns cs, .slice aw nw cw, .int .i64 lf, .bool dn] 27) := H4.out.below nn.below H4.out.lt
       replace HDK : Hid (Dk y2 g P D) := OPS.same HDK.out nn.below.size (fun k hk => nn.below.block k (OPS.lt HDK.out k hk))
       replace HMW : Hid (Mut P w y2) := HMW.out.trans HGR.out.old (mut_below nn.below _)
       have H5 : Hid (Blk y2 g5 [.int .i64 kd, .int .i64 oi, .int .i64 on, .int .u8 (oc.toNat : Int), .slice ak nk ck] 36) := nn.blk
       have o0 : y2.cell? ⟨g5, 0, none⟩ = some (.int .i64 kd) := H5.out.cell 0
       have o1 : y2.cell? ⟨g5, 1, none⟩ = some (.int .i64 oi) := H5.out.cell 1
       have o2 : y2.cell? ⟨g5, 2, none⟩ = some (.int .i64 on) := H5.out.cell 2
       have o4 : y2.cell? ⟨g5, 4, none⟩ = some (.slice ak nk ck) := H5.out.cell 4
       clear nn)
    | (clear tk2; with_reducible refine wpSeq_allocRd ?_ ?_ ?_
       · rfl
       · rfl
       intro g6 y3 nn
       have NE_g4_g6 : Hid (g4 ≠ g6) := by have h1 := H4.out.lt; have h2 := nn.ge; show _ ≠ _; omega
       have NE_g5_g6 : Hid (g5 ≠ g6) := by have h1 := H5.out.lt; have h2 := nn.ge; show _ ≠ _; omega
       have GE_g6 : Hid (w.heap.size ≤ g6) := Nat.le_trans HMW.out.size nn.ge
       have NP_g6 : Hid (¬ P g6) := fun h => absurd (OPS.lt HDK.out g6 h) (by have h2 := nn.ge; omega)
       clear o0
       clear o1
       clear o2
       clear o4
       replace H4 : Hid (Blk y3 g4 [.slice ad ns cs, .slice aw nw cw, .int .i64 lf, .bool dn] 27) := H4.out.below nn.below H4.out.lt
       replace H5 : Hid (Blk y3 g5 [.int .i64 kd, .int .i64 oi, .int .i64 on, .int .u8 (oc.toNat : Int), .slice ak nk ck] 36) := H5.out.below nn.below H5.out.lt
       replace HDK : Hid (Dk y3 g P D) := OPS.same HDK.out nn.below.size (fun k hk => nn.below.block k (OPS.lt HDK.out k hk))
       replace HMW : Hid (Mut P w y3) := HMW.out.trans HGR.out.old (mut_below nn.below _)
       have o0 : y3.cell? ⟨g5, 0, none⟩ = some (.int .i64 kd) := H5.out.cell 0
       have o1 : y3.cell? ⟨g5, 1, none⟩ = some (.int .i64 oi) := H5.out.cell 1
       have o2 : y3.cell? ⟨g5, 2, none⟩ = some (.int .i64 on) := H5.out.cell 2
       have o4 : y3.cell? ⟨g5, 4, none⟩ = some (.slice ak nk ck) := H5.out.cell 4
       have H6 : Hid (Blk y3 g6 [.slice none 0 0, .slice none 0 0, .int .i64 0, .bool false] 27) := nn.blk
       have HRS : Hid (RdS (Ext P (g6 :: X)) y3 D (.slice ad ns cs) (.slice aw nw cw)) := HRS0.out.start HMW.out GE_g6.out
       clear nn)
    | (clear tk3; go_at_call 22; refine (HSY.out _ HDK.out).mono ?_; rintro e0 y4 ⟨P1, rfl, hdk, hm, hgr⟩
       clear o0
       clear o1
       clear o2
       clear o4
       have np_g4 : ¬ P1 g4 := fun h => NP_g4.out (hgr.old g4 H4.out.lt h)
       replace H4 : Hid (Blk y4 g4 [.slice ad ns cs, .slice aw nw cw, .int .i64 lf, .bool dn] 27) := hm.blk H4.out NP_g4.out
       replace NP_g4 : Hid (¬ P1 g4) := np_g4
       clear np_g4
       have np_g5 : ¬ P1 g5 := fun h => NP_g5.out (hgr.old g5 H5.out.lt h)
       replace H5 : Hid (Blk y4 g5 [.int .i64 kd, .int .i64 oi, .int .i64 on, .int .u8 (oc.toNat : Int), .slice ak nk ck] 36) := hm.blk H5.out NP_g5.out
       replace NP_g5 : Hid (¬ P1 g5) := np_g5
       clear np_g5
       have np_g6 : ¬ P1 g6 := fun h => NP_g6.out (hgr.old g6 H6.out.lt h)
       replace H6 : Hid (Blk y4 g6 [.slice none 0 0, .slice none 0 0, .int .i64 0, .bool false] 27) := hm.blk H6.out NP_g6.out
       replace NP_g6 : Hid (¬ P1 g6) := np_g6
       clear np_g6
       replace HRS : Hid (RdS (Ext P1 (g6 :: X)) y4 D (.slice ad ns cs) (.slice aw nw cw)) := HRS.out.actE hm hgr
       have hgw : Grew w P P1 := HGR.out.trans HMW.out.size hgr
       replace HMW : Hid (Mut P w y4) := HMW.out.trans HGR.out.old hm
       replace HGR : Hid (Grew w P P1) := hgw
       clear hgw
       replace HDK : Hid (Dk y4 g P1 (syncD13 D)) := hdk
       have o0 : y4.cell? ⟨g5, 0, none⟩ = some (.int .i64 kd) := H5.out.cell 0
       have o1 : y4.cell? ⟨g5, 1, none⟩ = some (.int .i64 oi) := H5.out.cell 1
       have o2 : y4.cell? ⟨g5, 2, none⟩ = some (.int .i64 on) := H5.out.cell 2
       have o4 : y4.cell? ⟨g5, 4, none⟩ = some (.slice ak nk ck) := H5.out.cell 4
       clear hdk hm hgr )
    | (clear tk4; with_reducible refine wpSeq_loadW 27 (.tmp 4) g4 0 [.slice ad ns cs, .slice aw nw cw, .int .i64 lf, .bool dn] _ ?_ Try.underlying27 rfl ?_ ?_ ?_ ?_ ?_
       · exact H4.out.range
       · exact (info_rd _ _ _ _)
       · rfl
       · rfl
       · rfl)
    | (clear tk5; go_at_call 28; refine (HCY.out _ _ HRS.out (fun k hk => by rcases hk with hk | hk; exact OPS.lt HDK.out k hk; rcases List.mem_cons.1 hk with rfl | hk; exact H6.out.lt; exact Nat.lt_of_lt_of_le (HXL.out k hk) HMW.out.size)).mono ?_; rintro e0 y5 ⟨a2, n2, c2, a3, n3, c3, rfl, hrs, hbz⟩
       clear HRS
       clear o0
       clear o1
       clear o2
       clear o4
       replace H4 : Hid (Blk y5 g4 [.slice ad ns cs, .slice aw nw cw, .int .i64 lf, .bool dn] 27) := H4.out.below hbz H4.out.lt
       replace H5 : Hid (Blk y5 g5 [.int .i64 kd, .int .i64 oi, .int .i64 on, .int .u8 (oc.toNat : Int), .slice ak nk ck] 36) := H5.out.below hbz H5.out.lt
       replace H6 : Hid (Blk y5 g6 [.slice none 0 0, .slice none 0 0, .int .i64 0, .bool false] 27) := H6.out.below hbz H6.out.lt
       replace HDK : Hid (Dk y5 g P1 (syncD13 D)) := OPS.same HDK.out hbz.size (fun k hk => hbz.block k (OPS.lt HDK.out k hk))
       replace HMW : Hid (Mut P w y5) := HMW.out.trans HGR.out.old (mut_below hbz _)
       have o0 : y5.cell? ⟨g5, 0, none⟩ = some (.int .i64 kd) := H5.out.cell 0
       have o1 : y5.cell? ⟨g5, 1, none⟩ = some (.int .i64 oi) := H5.out.cell 1
       have o2 : y5.cell? ⟨g5, 2, none⟩ = some (.int .i64 on) := H5.out.cell 2
       have o4 : y5.cell? ⟨g5, 4, none⟩ = some (.slice ak nk ck) := H5.out.cell 4
       have HRS : Hid (RdS (Ext P1 (g6 :: X)) y5 (syncD13 D) (.slice a2 n2 c2) (.slice a3 n3 c3)) := hrs
       clear hrs hbz)
    | (clear tk6; with_reducible refine wpSeq_allocRd ?_ ?_ ?_
       · rfl
       · rfl
       intro g18 y6 nn
       have HL18 : Hid (g6 < g18) := Nat.lt_of_lt_of_le H6.out.lt nn.ge
       have HL4 : Hid (g4 < g18) := Nat.lt_of_lt_of_le H4.out.lt nn.ge
       have HL5 : Hid (g5 < g18) := Nat.lt_of_lt_of_le H5.out.lt nn.ge)
    | (clear tk7; with_reducible refine wpSeq_storeRow 27 (.tmp 18) (.tmp 88) g18 [.slice none 0 0, .slice none 0 0, .int .i64 0, .bool false] [.slice a2 n2 c2, .slice a3 n3 c3, .int .i64 l2, .bool d2] ?_ ?_ ?_ ?_ ?_ ?_ ?_ ?_ ?_
       · exact nn.blk
       · rfl
       · exact info_rd _ _ _ _
       · exact one_rd _ _ _ _ _ _ _ _
       · rfl
       · rfl
       · rfl
       · rfl
       intro y7 hs
       have hbz := nn.below.trans (hs.only.below nn.ge nn.below.size)
       clear o0
       clear o1
       clear o2
       clear o4
       replace H4 : Hid (Blk y7 g4 [.slice ad ns cs, .slice aw nw cw, .int .i64 lf, .bool dn] 27) := H4.out.below hbz H4.out.lt
       replace H5 : Hid (Blk y7 g5 [.int .i64 kd, .int .i64 oi, .int .i64 on, .int .u8 (oc.toNat : Int), .slice ak nk ck] 36) := H5.out.below hbz H5.out.lt
       replace H6 : Hid (Blk y7 g6 [.slice none 0 0, .slice none 0 0, .int .i64 0, .bool false] 27) := H6.out.below hbz H6.out.lt
       replace HDK : Hid (Dk y7 g P1 (syncD13 D)) := OPS.same HDK.out hbz.size (fun k hk => hbz.block k (OPS.lt HDK.out k hk))
       replace HRS : Hid (RdS (Ext P1 (g6 :: X)) y7 (syncD13 D) (.slice a2 n2 c2) (.slice a3 n3 c3)) := HRS.out.below hbz
       replace HMW : Hid (Mut P w y7) := HMW.out.trans HGR.out.old (mut_below hbz _)
       have o0 : y7.cell? ⟨g5, 0, none⟩ = some (.int .i64 kd) := H5.out.cell 0
       have o1 : y7.cell? ⟨g5, 1, none⟩ = some (.int .i64 oi) := H5.out.cell 1
       have o2 : y7.cell? ⟨g5, 2, none⟩ = some (.int .i64 on) := H5.out.cell 2
       have o4 : y7.cell? ⟨g5, 4, none⟩ = some (.slice ak nk ck) := H5.out.cell 4
       have NE_g6_g18 : Hid (g6 ≠ g18) := by have h2 := HL18.out; show _ ≠ _; omega
       have NE_g4_g18 : Hid (g4 ≠ g18) := by have h1 := HL18.out; have h2 := HL4.out; show _ ≠ _; omega
       have NE_g5_g18 : Hid (g5 ≠ g18) := by have h1 := HL18.out; have h2 := HL5.out; show _ ≠ _; omega
       have H18 : Hid (Blk y7 g18 [.slice a2 n2 c2, .slice a3 n3 c3, .int .i64 l2, .bool d2] 27) := hs.blk
       clear nn hs hbz)
    | (clear tk8; with_reducible refine wpSeq_loadW 27 (.tmp 18) g18 0 [.slice a2 n2 c2, .slice a3 n3 c3, .int .i64 l2, .bool d2] _ ?_ Try.underlying27 rfl ?_ ?_ ?_ ?_ ?_
       · exact H18.out.range
       · exact (info_rd _ _ _ _)
       · rfl
       · rfl
       · rfl)
    | (clear tk9; with_reducible refine wpSeq_storeRow 27 (.tmp 6) (.tmp 90) g6 [.slice none 0 0, .slice none 0 0, .int .i64 0, .bool false] [.slice a2 n2 c2, .slice a3 n3 c3, .int .i64 l2, .bool d2] H6.out (by simp) (info_rd _ _ _ _) (one_rd _ _ _ _ _ _ _ _) ?_ ?_ ?_ ?_ ?_
       · rfl
       · rfl
       · rfl
       · rfl
       intro y8 hs
       have hb := hs.blk
       have ho := hs.only
       clear o0
       clear o1
       clear o2
       clear o4
       replace H4 : Hid (Blk y8 g4 [.slice ad ns cs, .slice aw nw cw, .int .i64 lf, .bool dn] 27) := H4.out.only ho NE_g4_g6.out
       replace H5 : Hid (Blk y8 g5 [.int .i64 kd, .int .i64 oi, .int .i64 on, .int .u8 (oc.toNat : Int), .slice ak nk ck] 36) := H5.out.only ho NE_g5_g6.out
       replace H18 : Hid (Blk y8 g18 [.slice a2 n2 c2, .slice a3 n3 c3, .int .i64 l2, .bool d2] 27) := H18.out.only ho (Ne.symm NE_g6_g18.out)
       replace HDK : Hid (Dk y8 g P1 (syncD13 D)) := OPS.same HDK.out ho.size (fun k hk => ho.block k (fun e => NP_g6.out (e ▸ hk)) (OPS.lt HDK.out k hk))
       replace HRS : Hid (RdS (Ext P1 (g6 :: X)) y8 (syncD13 D) (.slice a2 n2 c2) (.slice a3 n3 c3)) := HRS.out.go (ho.mut (Or.inr (by simp))) (fun _ _ h => h)
       replace HMW : Hid (Mut P w y8) := HMW.out.own ho GE_g6.out
       replace H6 : Hid (Blk y8 g6 [.slice a2 n2 c2, .slice a3 n3 c3, .int .i64 l2, .bool d2] 27) := hb
       have o0 : y8.cell? ⟨g5, 0, none⟩ = some (.int .i64 kd) := H5.out.cell 0
       have o1 : y8.cell? ⟨g5, 1, none⟩ = some (.int .i64 oi) := H5.out.cell 1
       have o2 : y8.cell? ⟨g5, 2, none⟩ = some (.int .i64 on) := H5.out.cell 2
       have o4 : y8.cell? ⟨g5, 4, none⟩ = some (.slice ak nk ck) := H5.out.cell 4
       clear hb ho hs))
  exact bodyPost_ret (results_row_tmp (by rfl) _ _ g6 _ rfl (var_rd H6.out)) rfl ⟨⟨P1, _, _, by rw [HRF.out]; rfl, HDK.out, HRS.out.less, HMW.out, HGR.out⟩⟩
set_option maxRecDepth 100000 in
set_option maxHeartbeats 8000000 in
theorem step_crash {Dk : World → Nat → (Nat → Prop) → DkT → Prop} (OPS : DkOps Dk) {w : World} {g : Nat} {P : Nat → Prop} {X : List Nat} {D : DkT} {vs vw vk : Value} {o : OpT} (hD : Dk w g P D) (hS : RdS (Ext P X) w D vs vw) (hX : ∀ k, k ∈ X → k < w.heap.size) (hw : D.wait.length ≤ 199) (hK : Sta P w (fun W => ReadsI W vk o.keep)) (hk : o.kind = 4) :
    Calls Try.prog 11 #[.pointer (some ⟨g, 0, none⟩), .agg (rdC D vs vw).toArray, .agg (opC o vk).toArray] w (StepR Dk g P X w (crashD13 D o.keep)) := by
  obtain ⟨ad, cs, aw, cw, hvs, hvw⟩ := hS.form
  obtain ⟨ns, HNS⟩ : ∃ n, Hid (n = D.safe.length) := ⟨_, rfl⟩
  obtain ⟨nw, HNW⟩ : ∃ n, Hid (n = D.wait.length) := ⟨_, rfl⟩
  rw [← HNS.out] at hvs
  rw [← HNW.out] at hvw
  subst hvs hvw
  have HRS0 : Hid (RdS (Ext P X) w D (.slice ad ns cs) (.slice aw nw cw)) := hS
  have HW2 : Hid (D.wait.length ≤ 199) := hw
  obtain ⟨lf, HLF⟩ : ∃ n, Hid (n = D.left) := ⟨_, rfl⟩
  obtain ⟨dn, HDN⟩ : ∃ n, Hid (n = D.down) := ⟨_, rfl⟩
  have HRC : Hid (rdC D (.slice ad ns cs) (.slice aw nw cw) = [.slice ad ns cs, .slice aw nw cw, .int .i64 lf, .bool dn]) := by show _ = _; rw [rdC, HLF.out, HDN.out]
  rw [HRC.out]
  obtain ⟨kd, HKD⟩ : ∃ x, Hid (x = o.kind) := ⟨_, rfl⟩
  obtain ⟨oi, HOI⟩ : ∃ x, Hid (x = o.i) := ⟨_, rfl⟩
  obtain ⟨on, HON⟩ : ∃ x, Hid (x = o.n) := ⟨_, rfl⟩
  obtain ⟨oc, HOC⟩ : ∃ x, Hid (x = o.c) := ⟨_, rfl⟩
  obtain ⟨ak, ck, hvk⟩ := hK.now.form
  obtain ⟨nk, HNK⟩ : ∃ n, Hid (n = o.keep.length) := ⟨_, rfl⟩
  rw [← HNK.out] at hvk
  subst hvk
  have HCO : Hid (opC o (.slice ak nk ck) = [.int .i64 kd, .int .i64 oi, .int .i64 on, .int .u8 (oc.toNat : Int), .slice ak nk ck]) := by show _ = _; rw [opC, HKD.out, HOI.out, HON.out, HOC.out]
  rw [HCO.out]
  have HKP : Hid (Sta P w (fun W => ReadsI W (.slice ak nk ck) o.keep)) := hK
  have HDK : Hid (Dk w g P D) := hD
  have HMW : Hid (Mut P w w) := Mut.refl _ _
  have HGR : Hid (Grew w P P) := Grew.refl _ _
  have HXL : Hid (∀ k, k ∈ X → k < w.heap.size) := hX
  have q0 : (kd == 0) = false := by rw [beq_eq_false_iff_ne, HKD.out]; omega
  have q1 : (kd == 1) = false := by rw [beq_eq_false_iff_ne, HKD.out]; omega
  have q2 : (kd == 2) = false := by rw [beq_eq_false_iff_ne, HKD.out]; omega
  have q3 : (kd == 3) = false := by rw [beq_eq_false_iff_ne, HKD.out]; omega
  have q4 : (kd == 4) = true := by rw [beq_iff_eq, HKD.out]; exact hk
  have HRF : Hid (∀ x y, rdC (crashD13 D o.keep) x y = [x, y, .int .i64 (-1), .bool false]) := fun x y => rfl
  have HOK : Hid (okD D) := OPS.ok hD
  have HCY : Hid (∀ (W : World) (X : Nat → Prop), RdS X W D (.slice ad ns cs) (.slice aw nw cw) → (∀ k, X k → k < W.heap.size) → ReadsI W (.slice ak nk ck) o.keep → Calls Try.prog 30 #[.agg [.slice ad ns cs, .slice aw nw cw, .int .i64 lf, .bool dn].toArray, .slice ak nk ck] W fun r w' => ∃ a2 n2 c2, r = .returned (.agg [.slice a2 n2 c2, .slice none 0 0, .int .i64 (-1), .bool false].toArray) ∧ RdS X w' (crashD13 D o.keep) (.slice a2 n2 c2) (.slice none 0 0) ∧ Below W.heap.size W w') := fun W X h1 h2 h3 => by
    have h := rdCrash_any X D _ _ _ o.keep W h1 HOK.out (by have h := HW2.out; omega) h2 h3
    rw [HRC.out] at h
    refine h.mono fun e w' h => ?_
    obtain ⟨vs', h3, h4, h5⟩ := h
    obtain ⟨a2, c2, a3, c3, e1, e2⟩ := h4.form
    clear e2
    subst e1
    rw [HRF.out] at h3
    exact ⟨_, _, _, h3, h4, h5⟩
  clear hD hS hX hw hK hk
  go_enter Try.func11, Try.ntmps11
  have tk0 : Hid True := trivial
  have tk1 : Hid True := trivial
  have tk2 : Hid True := trivial
  have tk3 : Hid True := trivial
  have tk4 : Hid True := trivial
  have tk5 : Hid True := trivial
  have tk6 : Hid True := trivial
  go_wp2_with (first
    | (clear tk0; with_reducible refine wpSeq_boxW 27 (.tmp 1) [.slice ad ns cs, .slice aw nw cw, .int .i64 lf, .bool dn] ?_ ?_ ?_ ?_
       · rfl
       · rfl
       · rfl
       intro g4 y1 nn
       have GE_g4 : Hid (w.heap.size ≤ g4) := Nat.le_trans HMW.out.size nn.ge
       have NP_g4 : Hid (¬ P g4) := fun h => absurd (OPS.lt HDK.out g4 h) (by have h2 := nn.ge; omega)
       replace HDK : Hid (Dk y1 g P D) := OPS.same HDK.out nn.below.size (fun k hk => nn.below.block k (OPS.lt HDK.out k hk))
       replace HMW : Hid (Mut P w y1) := HMW.out.trans HGR.out.old (mut_below nn.below _)
       have H4 : Hid (Blk y1 g4 [.slice ad ns cs, .slice aw nw cw, .int .i64 lf, .bool dn] 27) := nn.blk
       clear nn)
    | (clear tk1; with_reducible refine wpSeq_boxW 36 (.tmp 2) [.int .i64 kd, .int .i64 oi, .int .i64 on, .int .u8 (oc.toNat : Int), .slice ak nk ck] ?_ ?_ ?_ ?_
       · rfl
       · rfl
       · rfl
       intro g5 y2 nn
       have NE_g4_g5 : Hid (g4 ≠ g5) := by have h1 := H4.out.lt; have h2 := nn.ge; show _ ≠ _; omega
       have GE_g5 : Hid (w.heap.size ≤ g5) := Nat.le_trans HMW.out.size nn.ge
       have NP_g5 : Hid (¬ P g5) := fun h => absurd (OPS.lt HDK.out g5 h) (by have h2 := nn.ge; omega)
       replace H4 : Hid (Blk y2 g4 [.slice ad ns cs, .slice aw nw cw, .int .i64 lf, .bool dn] 27) := H4.out.below nn.below H4.out.lt
       replace HDK : Hid (Dk y2 g P D) := OPS.same HDK.out nn.below.size (fun k hk => nn.below.block k (OPS.lt HDK.out k hk))
       replace HMW : Hid (Mut P w y2) := HMW.out.trans HGR.out.old (mut_below nn.below _)
       have H5 : Hid (Blk y2 g5 [.int .i64 kd, .int .i64 oi, .int .i64 on, .int .u8 (oc.toNat : Int), .slice ak nk ck] 36) := nn.blk
       have o0 : y2.cell? ⟨g5, 0, none⟩ = some (.int .i64 kd) := H5.out.cell 0
       have o1 : y2.cell? ⟨g5, 1, none⟩ = some (.int .i64 oi) := H5.out.cell 1
       have o2 : y2.cell? ⟨g5, 2, none⟩ = some (.int .i64 on) := H5.out.cell 2
       have o4 : y2.cell? ⟨g5, 4, none⟩ = some (.slice ak nk ck) := H5.out.cell 4
       clear nn)
    | (clear tk2; with_reducible refine wpSeq_allocRd ?_ ?_ ?_
       · rfl
       · rfl
       intro g6 y3 nn
       have NE_g4_g6 : Hid (g4 ≠ g6) := by have h1 := H4.out.lt; have h2 := nn.ge; show _ ≠ _; omega
       have NE_g5_g6 : Hid (g5 ≠ g6) := by have h1 := H5.out.lt; have h2 := nn.ge; show _ ≠ _; omega
       have GE_g6 : Hid (w.heap.size ≤ g6) := Nat.le_trans HMW.out.size nn.ge
       have NP_g6 : Hid (¬ P g6) := fun h => absurd (OPS.lt HDK.out g6 h) (by have h2 := nn.ge; omega)
       clear o0
       clear o1
       clear o2
       clear o4
       replace H4 : Hid (Blk y3 g4 [.slice ad ns cs, .slice aw nw cw, .int .i64 lf, .bool dn] 27) := H4.out.below nn.below H4.out.lt
       replace H5 : Hid (Blk y3 g5 [.int .i64 kd, .int .i64 oi, .int .i64 on, .int .u8 (oc.toNat : Int), .slice ak nk ck] 36) := H5.out.below nn.below H5.out.lt
       replace HDK : Hid (Dk y3 g P D) := OPS.same HDK.out nn.below.size (fun k hk => nn.below.block k (OPS.lt HDK.out k hk))
       replace HMW : Hid (Mut P w y3) := HMW.out.trans HGR.out.old (mut_below nn.below _)
       have o0 : y3.cell? ⟨g5, 0, none⟩ = some (.int .i64 kd) := H5.out.cell 0
       have o1 : y3.cell? ⟨g5, 1, none⟩ = some (.int .i64 oi) := H5.out.cell 1
       have o2 : y3.cell? ⟨g5, 2, none⟩ = some (.int .i64 on) := H5.out.cell 2
       have o4 : y3.cell? ⟨g5, 4, none⟩ = some (.slice ak nk ck) := H5.out.cell 4
       have H6 : Hid (Blk y3 g6 [.slice none 0 0, .slice none 0 0, .int .i64 0, .bool false] 27) := nn.blk
       have HRS : Hid (RdS (Ext P (g6 :: X)) y3 D (.slice ad ns cs) (.slice aw nw cw)) := HRS0.out.start HMW.out GE_g6.out
       clear nn)
    | (clear tk3; go_at_call 20; refine (OPS.crash _ o.keep HDK.out (by have h := HW2.out; omega) (HKP.out.go HMW.out HGR.out.old)).mono ?_; rintro e0 y4 ⟨P1, rfl, hdk, hm, hgr⟩
       clear o0
       clear o1
       clear o2
       clear o4
       have np_g4 : ¬ P1 g4 := fun h => NP_g4.out (hgr.old g4 H4.out.lt h)
       replace H4 : Hid (Blk y4 g4 [.slice ad ns cs, .slice aw nw cw, .int .i64 lf, .bool dn] 27) := hm.blk H4.out NP_g4.out
       replace NP_g4 : Hid (¬ P1 g4) := np_g4
       clear np_g4
       have np_g5 : ¬ P1 g5 := fun h => NP_g5.out (hgr.old g5 H5.out.lt h)
       replace H5 : Hid (Blk y4 g5 [.int .i64 kd, .int .i64 oi, .int .i64 on, .int .u8 (oc.toNat : Int), .slice ak nk ck] 36) := hm.blk H5.out NP_g5.out
       replace NP_g5 : Hid (¬ P1 g5) := np_g5
       clear np_g5
       have np_g6 : ¬ P1 g6 := fun h => NP_g6.out (hgr.old g6 H6.out.lt h)
       replace H6 : Hid (Blk y4 g6 [.slice none 0 0, .slice none 0 0, .int .i64 0, .bool false] 27) := hm.blk H6.out NP_g6.out
       replace NP_g6 : Hid (¬ P1 g6) := np_g6
       clear np_g6
       replace HRS : Hid (RdS (Ext P1 (g6 :: X)) y4 D (.slice ad ns cs) (.slice aw nw cw)) := HRS.out.actE hm hgr
       have hgw : Grew w P P1 := HGR.out.trans HMW.out.size hgr
       replace HMW : Hid (Mut P w y4) := HMW.out.trans HGR.out.old hm
       replace HGR : Hid (Grew w P P1) := hgw
       clear hgw
       replace HDK : Hid (Dk y4 g P1 (crashD13 D o.keep)) := hdk
       have o0 : y4.cell? ⟨g5, 0, none⟩ = some (.int .i64 kd) := H5.out.cell 0
       have o1 : y4.cell? ⟨g5, 1, none⟩ = some (.int .i64 oi) := H5.out.cell 1
       have o2 : y4.cell? ⟨g5, 2, none⟩ = some (.int .i64 on) := H5.out.cell 2
       have o4 : y4.cell? ⟨g5, 4, none⟩ = some (.slice ak nk ck) := H5.out.cell 4
       have HKN : Hid (ReadsI y4 (.slice ak nk ck) o.keep) := HKP.out.at HMW.out
       clear hdk hm hgr )
    | (clear tk4; with_reducible refine wpSeq_loadW 27 (.tmp 4) g4 0 [.slice ad ns cs, .slice aw nw cw, .int .i64 lf, .bool dn] _ ?_ Try.underlying27 rfl ?_ ?_ ?_ ?_ ?_
       · exact H4.out.range
       · exact (info_rd _ _ _ _)
       · rfl
       · rfl
       · rfl)
    | (clear tk5; go_at_call 30; refine (HCY.out _ _ HRS.out (fun k hk => by rcases hk with hk | hk; exact OPS.lt HDK.out k hk; rcases List.mem_cons.1 hk with rfl | hk; exact H6.out.lt; exact Nat.lt_of_lt_of_le (HXL.out k hk) HMW.out.size) HKN.out).mono ?_; rintro e0 y5 ⟨a2, n2, c2, rfl, hrs, hbz⟩
       clear HRS
       clear o0
       clear o1
       clear o2
       clear o4
       replace H4 : Hid (Blk y5 g4 [.slice ad ns cs, .slice aw nw cw, .int .i64 lf, .bool dn] 27) := H4.out.below hbz H4.out.lt
       replace H5 : Hid (Blk y5 g5 [.int .i64 kd, .int .i64 oi, .int .i64 on, .int .u8 (oc.toNat : Int), .slice ak nk ck] 36) := H5.out.below hbz H5.out.lt
       replace H6 : Hid (Blk y5 g6 [.slice none 0 0, .slice none 0 0, .int .i64 0, .bool false] 27) := H6.out.below hbz H6.out.lt
       replace HKN : Hid (ReadsI y5 (.slice ak nk ck) o.keep) := HKN.out.below hbz
       replace HDK : Hid (Dk y5 g P1 (crashD13 D o.keep)) := OPS.same HDK.out hbz.size (fun k hk => hbz.block k (OPS.lt HDK.out k hk))
       replace HMW : Hid (Mut P w y5) := HMW.out.trans HGR.out.old (mut_below hbz _)
       have o0 : y5.cell? ⟨g5, 0, none⟩ = some (.int .i64 kd) := H5.out.cell 0
       have o1 : y5.cell? ⟨g5, 1, none⟩ = some (.int .i64 oi) := H5.out.cell 1
       have o2 : y5.cell? ⟨g5, 2, none⟩ = some (.int .i64 on) := H5.out.cell 2
       have o4 : y5.cell? ⟨g5, 4, none⟩ = some (.slice ak nk ck) := H5.out.cell 4
       have HRS : Hid (RdS (Ext P1 (g6 :: X)) y5 (crashD13 D o.keep) (.slice a2 n2 c2) (.slice none 0 0)) := hrs
       clear hrs hbz HKN)
    | (clear tk6; with_reducible refine wpSeq_storeRow 27 (.tmp 6) (.tmp 113) g6 [.slice none 0 0, .slice none 0 0, .int .i64 0, .bool false] [.slice a2 n2 c2, .slice none 0 0, .int .i64 (-1), .bool false] H6.out (by simp) (info_rd _ _ _ _) (one_rd _ _ _ _ _ _ _ _) ?_ ?_ ?_ ?_ ?_
       · rfl
       · rfl
       · rfl
       · rfl
       intro y6 hs
       have hb := hs.blk
       have ho := hs.only
       clear o0
       clear o1
       clear o2
       clear o4
       replace H4 : Hid (Blk y6 g4 [.slice ad ns cs, .slice aw nw cw, .int .i64 lf, .bool dn] 27) := H4.out.only ho NE_g4_g6.out
       replace H5 : Hid (Blk y6 g5 [.int .i64 kd, .int .i64 oi, .int .i64 on, .int .u8 (oc.toNat : Int), .slice ak nk ck] 36) := H5.out.only ho NE_g5_g6.out
       replace HDK : Hid (Dk y6 g P1 (crashD13 D o.keep)) := OPS.same HDK.out ho.size (fun k hk => ho.block k (fun e => NP_g6.out (e ▸ hk)) (OPS.lt HDK.out k hk))
       replace HRS : Hid (RdS (Ext P1 (g6 :: X)) y6 (crashD13 D o.keep) (.slice a2 n2 c2) (.slice none 0 0)) := HRS.out.go (ho.mut (Or.inr (by simp))) (fun _ _ h => h)
       replace HMW : Hid (Mut P w y6) := HMW.out.own ho GE_g6.out
       replace H6 : Hid (Blk y6 g6 [.slice a2 n2 c2, .slice none 0 0, .int .i64 (-1), .bool false] 27) := hb
       have o0 : y6.cell? ⟨g5, 0, none⟩ = some (.int .i64 kd) := H5.out.cell 0
       have o1 : y6.cell? ⟨g5, 1, none⟩ = some (.int .i64 oi) := H5.out.cell 1
       have o2 : y6.cell? ⟨g5, 2, none⟩ = some (.int .i64 on) := H5.out.cell 2
       have o4 : y6.cell? ⟨g5, 4, none⟩ = some (.slice ak nk ck) := H5.out.cell 4
       clear hb ho hs))
  exact bodyPost_ret (results_row_tmp (by rfl) _ _ g6 _ rfl (var_rd H6.out)) rfl ⟨⟨P1, _, _, by rw [HRF.out]; rfl, HDK.out, HRS.out.less, HMW.out, HGR.out⟩⟩
end Go.Proofs.Ytdllnedmhhajnaa

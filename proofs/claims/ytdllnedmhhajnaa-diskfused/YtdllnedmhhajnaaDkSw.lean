/- The walk of the statements' own step (layer 13): writes; step whole. -/
import Derived.Test.YtdllnedmhhajnaaDkSr
namespace Go.Proofs.Ytdllnedmhhajnaa
open Go.RowKit
set_option maxRecDepth 100000
/-- where a write stands, while its bytes are turned -/
structure KwI (Dk : World → Nat → (Nat → Prop) → DkT → Prop) (g : Nat) (P : Nat → Prop) (X : List Nat) (w : World) (P1 : Nat → Prop) (D1 : DkT) (g6 g12 g14 : Nat) (cs : List Value) (vs vw : Value) (l : Bs) (W : World) : Prop where
  mw : Mut P w W
  dk : Dk W g P1 D1
  r6 : Blk W g6 [.slice none 0 0, .slice none 0 0, .int .i64 0, .bool false] 27
  r14 : Blk W g14 cs 27
  r12 : Blk W g12 (cb l) 5
  rs : RdS (Ext P1 (g14 :: g12 :: g6 :: X)) W D1 vs vw
  n6 : ¬ P1 g6
  n12 : ¬ P1 g12
  e612 : g6 ≠ g12
  e614 : g6 ≠ g14
  e124 : g14 ≠ g12
  w6 : w.heap.size ≤ g6
  w12 : w.heap.size ≤ g12
theorem KwI.set {Dk : World → Nat → (Nat → Prop) → DkT → Prop} (OPS : DkOps Dk) {g : Nat} {P : Nat → Prop} {X : List Nat} {w : World} {P1 : Nat → Prop} {D1 : DkT} {g6 g12 g14 : Nat} {cs : List Value} {vs vw : Value} {l l' : Bs} {W W' : World} (h : KwI Dk g P X w P1 D1 g6 g12 g14 cs vs vw l W) (hb : Blk W' g12 (cb l') 5) (ho : Only g12 W W') : KwI Dk g P X w P1 D1 g6 g12 g14 cs vs vw l' W' :=
  ⟨h.mw.own ho h.w12, OPS.same h.dk ho.size (fun k hk => ho.block k (fun e => h.n12 (e ▸ hk)) (OPS.lt h.dk k hk)), h.r6.only ho h.e612, h.r14.only ho h.e124, hb, h.rs.go (ho.mut (Or.inr (by simp))) (fun _ _ h => h), h.n6, h.n12, h.e612, h.e614, h.e124, h.w6, h.w12⟩
set_option maxRecDepth 100000 in
set_option maxHeartbeats 8000000 in
theorem step_write {Dk : World → Nat → (Nat → Prop) → DkT → Prop} (OPS : DkOps Dk) {w : World} {g : Nat} {P : Nat → Prop} {X : List Nat} {D : DkT} {vs vw vk : Value} {o : OpT} (hD : Dk w g P D) (hS : RdS (Ext P X) w D vs vw) (hX : ∀ k, k ∈ X → k < w.heap.size) (hw : D.wait.length ≤ 199) (hK : Sta P w (fun W => ReadsI W vk o.keep)) (hk : o.kind = 1) :
    Calls Try.prog 11 #[.pointer (some ⟨g, 0, none⟩), .agg (rdC D vs vw).toArray, .agg (opC o vk).toArray] w (StepR Dk g P X w (putD13 D o.i (opB o))) := by
  obtain ⟨ad, cs, aw, cw, hvs, hvw⟩ := hS.form
  obtain ⟨ns, HNS⟩ : ∃ n, Hid (n = D.safe.length) := ⟨_, rfl⟩
  obtain ⟨nw, HNW⟩ : ∃ n, Hid (n = D.wait.length) := ⟨_, rfl⟩
  rw [← HNS.out] at hvs
  rw [← HNW.out] at hvw
  subst hvs hvw
  have HRS0 : Hid (RdS (Ext P X) w D (.slice ad ns cs) (.slice aw nw cw)) := hS
  have HW2 : Hid (D.wait.length ≤ 199) := hw
  obtain ⟨lf, HLF⟩ : ∃ n, Hid (n = D.left) := ⟨_, rfl⟩
  obtain ⟨dn, HDN⟩ : ∃ n, Hid (n = D.down) := ⟨_, rfl⟩
  have HRC : Hid (rdC D (.slice ad ns cs) (.slice aw nw cw) = [.slice ad ns cs, .slice aw nw cw, .int .i64 lf, .bool dn]) := by show _ = _; rw [rdC, HLF.out, HDN.out]
  rw [HRC.out]
  obtain ⟨kd, HKD⟩ : ∃ x, Hid (x = o.kind) := ⟨_, rfl⟩
  obtain ⟨oi, HOI⟩ : ∃ x, Hid (x = o.i) := ⟨_, rfl⟩
  obtain ⟨on, HON⟩ : ∃ x, Hid (x = o.n) := ⟨_, rfl⟩
  obtain ⟨oc, HOC⟩ : ∃ x, Hid (x = o.c) := ⟨_, rfl⟩
  obtain ⟨ak, ck, hvk⟩ := hK.now.form
  obtain ⟨nk, HNK⟩ : ∃ n, Hid (n = o.keep.length) := ⟨_, rfl⟩
  rw [← HNK.out] at hvk
  subst hvk
  have HCO : Hid (opC o (.slice ak nk ck) = [.int .i64 kd, .int .i64 oi, .int .i64 on, .int .u8 (oc.toNat : Int), .slice ak nk ck]) := by show _ = _; rw [opC, HKD.out, HOI.out, HON.out, HOC.out]
  rw [HCO.out]
  have HKP : Hid (Sta P w (fun W => ReadsI W (.slice ak nk ck) o.keep)) := hK
  have HDK : Hid (Dk w g P D) := hD
  have HMW : Hid (Mut P w w) := Mut.refl _ _
  have HGR : Hid (Grew w P P) := Grew.refl _ _
  have HXL : Hid (∀ k, k ∈ X → k < w.heap.size) := hX
  have q0 : (kd == 0) = false := by rw [beq_eq_false_iff_ne, HKD.out]; omega
  have q1 : (kd == 1) = true := by rw [beq_iff_eq, HKD.out]; exact hk
  obtain ⟨bo, HBO⟩ : ∃ x, Hid (x = opB o) := ⟨_, rfl⟩
  obtain ⟨L, HLL⟩ : ∃ x, Hid (x = opL o) := ⟨_, rfl⟩
  have HBL : Hid (L = bo.length) := by show _ = _; rw [HBO.out, HLL.out, len_opB]
  have HL2 : Hid (L ≤ 200) := by rw [HLL.out]; exact opL_le o
  rw [← HBO.out, ← HOI.out]
  obtain ⟨D1, HD1⟩ : ∃ x, Hid (x = putD13 D oi bo) := ⟨_, rfl⟩
  obtain ⟨wx2, HWX⟩ : ∃ x, Hid (x = putX13 D oi bo) := ⟨_, rfl⟩
  obtain ⟨l1, HL1⟩ : ∃ x, Hid (x = D1.left) := ⟨_, rfl⟩
  obtain ⟨d1, HDD⟩ : ∃ x, Hid (x = D1.down) := ⟨_, rfl⟩
  rw [← HD1.out]
  have HRF : Hid (∀ x y, rdC D1 x y = [x, y, .int .i64 l1, .bool d1]) := fun x y => by rw [rdC, HL1.out, HDD.out]
  have HOK : Hid (okD D) := OPS.ok hD
  have HOB : Hid (∀ W : World, Calls Try.prog 25 #[.agg [.int .i64 kd, .int .i64 oi, .int .i64 on, .int .u8 (oc.toNat : Int), .slice ak nk ck].toArray] W fun r w' => ∃ g, r = .returned (.slice (some ⟨g, 0, none⟩) L L) ∧ W.heap.size ≤ g ∧ Blk w' g (cb bo) 5 ∧ Below W.heap.size W w') := fun W => by
    have h := opBytes_any o ak nk ck W
    rw [HCO.out, ← HLL.out, ← HBO.out] at h
    exact h
  have HWR : Hid (∀ (W : World) (v : Value), Dk W g P D → Sta P W (fun X => Reads X v bo) → Calls Try.prog 24 #[.pointer (some ⟨g, 0, none⟩), .int .i64 oi, v] W fun r w' => ∃ P', r = .returned (.int .i64 wx2) ∧ Dk w' g P' D1 ∧ Mut P W w' ∧ Grew W P P') := fun W v h1 h2 => by
    have h := OPS.write oi v bo h1 (by have h := HW2.out; omega) (by rw [← HBL.out]; have h := HL2.out; omega) h2
    rw [← HWX.out, ← HD1.out] at h
    exact h
  have HPT : Hid (∀ (W : World) (X : Nat → Prop) (v : Value), RdS X W D (.slice ad ns cs) (.slice aw nw cw) → (∀ k, X k → k < W.heap.size) → Reads W v bo → Calls Try.prog 27 #[.agg [.slice ad ns cs, .slice aw nw cw, .int .i64 lf, .bool dn].toArray, .int .i64 oi, v] W fun r w' => ∃ a2 n2 c2 a3 n3 c3, r = .returned (.tuple #[.agg [.slice a2 n2 c2, .slice a3 n3 c3, .int .i64 l1, .bool d1].toArray, .int .i64 wx2]) ∧ RdS X w' D1 (.slice a2 n2 c2) (.slice a3 n3 c3) ∧ Below W.heap.size W w') := fun W X v h1 h2 h3 => by
    have h := rdPut_any X D _ _ oi v bo W h1 HOK.out (by have h := HW2.out; omega) h2 h3 (by rw [← HBL.out]; have h := HL2.out; omega)
    rw [HRC.out, ← HWX.out, ← HD1.out] at h
    refine h.mono fun e w' h => ?_
    obtain ⟨vs', vw', h3, h4, h5⟩ := h
    obtain ⟨a2, c2, a3, c3, e1, e2⟩ := h4.form
    subst e1 e2
    rw [HRF.out] at h3
    exact ⟨_, _, _, _, _, _, h3, h4, h5⟩
  clear hD hS hX hw hK hk
  go_enter Try.func11, Try.ntmps11
  have tk0 : Hid True := trivial
  have tk1 : Hid True := trivial
  have tk2 : Hid True := trivial
  have tk3 : Hid True := trivial
  have tk4 : Hid True := trivial
  have tk5 : Hid True := trivial
  go_upto_region 9 with (first
    | (clear tk0; with_reducible refine wpSeq_boxW 27 (.tmp 1) [.slice ad ns cs, .slice aw nw cw, .int .i64 lf, .bool dn] ?_ ?_ ?_ ?_
       · rfl
       · rfl
       · rfl
       intro g4 y1 nn
       have GE_g4 : Hid (w.heap.size ≤ g4) := Nat.le_trans HMW.out.size nn.ge
       have NP_g4 : Hid (¬ P g4) := fun h => absurd (OPS.lt HDK.out g4 h) (by have h2 := nn.ge; omega)
       replace HDK : Hid (Dk y1 g P D) := OPS.same HDK.out nn.below.size (fun k hk => nn.below.block k (OPS.lt HDK.out k hk))
       replace HMW : Hid (Mut P w y1) := HMW.out.trans HGR.out.old (mut_below nn.below _)
       have H4 : Hid (Blk y1 g4 [.slice ad ns cs, .slice aw nw cw, .int .i64 lf, .bool dn] 27) := nn.blk
       clear nn)
    | (clear tk1; with_reducible refine wpSeq_boxW 36 (.tmp 2) [.int .i64 kd, .int .i64 oi, .int .i64 on, .int .u8 (oc.toNat : Int), .slice ak nk ck] ?_ ?_ ?_ ?_
       · rfl
       · rfl
       · rfl
       intro g5 y2 nn
       have NE_g4_g5 : Hid (g4 ≠ g5) := by have h1 := H4.out.lt; have h2 := nn.ge; show _ ≠ _; omega
       have GE_g5 : Hid (w.heap.size ≤ g5) := Nat.le_trans HMW.out.size nn.ge
       have NP_g5 : Hid (¬ P g5) := fun h => absurd (OPS.lt HDK.out g5 h) (by have h2 := nn.ge; omega)
       replace H4 : Hid (Blk y2 g4 [.slice ad ns cs, .slice aw nw cw, .int .i64 lf, .bool dn] 27) := H4.out.below nn.below H4.out.lt
       replace HDK : Hid (Dk y2 g P D) := OPS.same HDK.out nn.below.size (fun k hk => nn.below.block k (OPS.lt HDK.out k hk))
       replace HMW : Hid (Mut P w y2) := HMW.out.trans HGR.out.old (mut_below nn.below _)
       have H5 : Hid (Blk y2 g5 [.int .i64 kd, .int .i64 oi, .int .i64 on, .int .u8 (oc.toNat : Int), .slice ak nk ck] 36) := nn.blk
       have o0 : y2.cell? ⟨g5, 0, none⟩ = some (.int .i64 kd) := H5.out.cell 0
       have o1 : y2.cell? ⟨g5, 1, none⟩ = some (.int .i64 oi) := H5.out.cell 1
       have o2 : y2.cell? ⟨g5, 2, none⟩ = some (.int .i64 on) := H5.out.cell 2
       have o4 : y2.cell? ⟨g5, 4, none⟩ = some (.slice ak nk ck) := H5.out.cell 4
       clear nn)
    | (clear tk2; with_reducible refine wpSeq_allocRd ?_ ?_ ?_
       · rfl
       · rfl
       intro g6 y3 nn
       have NE_g4_g6 : Hid (g4 ≠ g6) := by have h1 := H4.out.lt; have h2 := nn.ge; show _ ≠ _; omega
       have NE_g5_g6 : Hid (g5 ≠ g6) := by have h1 := H5.out.lt; have h2 := nn.ge; show _ ≠ _; omega
       have GE_g6 : Hid (w.heap.size ≤ g6) := Nat.le_trans HMW.out.size nn.ge
       have NP_g6 : Hid (¬ P g6) := fun h => absurd (OPS.lt HDK.out g6 h) (by have h2 := nn.ge; omega)
       clear o0
       clear o1
       clear o2
       clear o4
       replace H4 : Hid (Blk y3 g4 [.slice ad ns cs, .slice aw nw cw, .int .i64 lf, .bool dn] 27) := H4.out.below nn.below H4.out.lt
       replace H5 : Hid (Blk y3 g5 [.int .i64 kd, .int .i64 oi, .int .i64 on, .int .u8 (oc.toNat : Int), .slice ak nk ck] 36) := H5.out.below nn.below H5.out.lt
       replace HDK : Hid (Dk y3 g P D) := OPS.same HDK.out nn.below.size (fun k hk => nn.below.block k (OPS.lt HDK.out k hk))
       replace HMW : Hid (Mut P w y3) := HMW.out.trans HGR.out.old (mut_below nn.below _)
       have o0 : y3.cell? ⟨g5, 0, none⟩ = some (.int .i64 kd) := H5.out.cell 0
       have o1 : y3.cell? ⟨g5, 1, none⟩ = some (.int .i64 oi) := H5.out.cell 1
       have o2 : y3.cell? ⟨g5, 2, none⟩ = some (.int .i64 on) := H5.out.cell 2
       have o4 : y3.cell? ⟨g5, 4, none⟩ = some (.slice ak nk ck) := H5.out.cell 4
       have H6 : Hid (Blk y3 g6 [.slice none 0 0, .slice none 0 0, .int .i64 0, .bool false] 27) := nn.blk
       have HRS : Hid (RdS (Ext P (g6 :: X)) y3 D (.slice ad ns cs) (.slice aw nw cw)) := HRS0.out.start HMW.out GE_g6.out
       clear nn)
    | (clear tk3; with_reducible refine wpSeq_loadW 36 (.tmp 5) g5 0 [.int .i64 kd, .int .i64 oi, .int .i64 on, .int .u8 (oc.toNat : Int), .slice ak nk ck] _ ?_ Try.underlying36 rfl ?_ ?_ ?_ ?_ ?_
       · exact H5.out.range
       · exact (info_op _ _ _ _ _)
       · rfl
       · rfl
       · rfl)
    | (clear tk4; go_at_call 25; refine (HOB.out y3).mono ?_; rintro e0 y4 ⟨g12, rfl, hge, hbk, hbz⟩
       have NE_g4_g12 : Hid (g4 ≠ g12) := by have h := H4.out.lt; show _ ≠ _; omega
       have NE_g5_g12 : Hid (g5 ≠ g12) := by have h := H5.out.lt; show _ ≠ _; omega
       have NE_g6_g12 : Hid (g6 ≠ g12) := by have h := H6.out.lt; show _ ≠ _; omega
       have GE_g12 : Hid (w.heap.size ≤ g12) := Nat.le_trans HMW.out.size hge
       have NP_g12 : Hid (¬ P g12) := fun h => absurd (OPS.lt HDK.out g12 h) (by omega)
       replace HRS : Hid (RdS (Ext P (g12 :: g6 :: X)) y4 D (.slice ad ns cs) (.slice aw nw cw)) := HRS.out.go (mut_below hbz _) (ext_new (fun k hk => by
         rcases List.mem_cons.1 hk with rfl | hk
         · exact Or.inr hge
         · exact Or.inl hk))
       clear o0
       clear o1
       clear o2
       clear o4
       replace H4 : Hid (Blk y4 g4 [.slice ad ns cs, .slice aw nw cw, .int .i64 lf, .bool dn] 27) := H4.out.below hbz H4.out.lt
       replace H5 : Hid (Blk y4 g5 [.int .i64 kd, .int .i64 oi, .int .i64 on, .int .u8 (oc.toNat : Int), .slice ak nk ck] 36) := H5.out.below hbz H5.out.lt
       replace H6 : Hid (Blk y4 g6 [.slice none 0 0, .slice none 0 0, .int .i64 0, .bool false] 27) := H6.out.below hbz H6.out.lt
       replace HDK : Hid (Dk y4 g P D) := OPS.same HDK.out hbz.size (fun k hk => hbz.block k (OPS.lt HDK.out k hk))
       replace HMW : Hid (Mut P w y4) := HMW.out.trans HGR.out.old (mut_below hbz _)
       have o0 : y4.cell? ⟨g5, 0, none⟩ = some (.int .i64 kd) := H5.out.cell 0
       have o1 : y4.cell? ⟨g5, 1, none⟩ = some (.int .i64 oi) := H5.out.cell 1
       have o2 : y4.cell? ⟨g5, 2, none⟩ = some (.int .i64 on) := H5.out.cell 2
       have o4 : y4.cell? ⟨g5, 4, none⟩ = some (.slice ak nk ck) := H5.out.cell 4
       have H12 : Hid (Blk y4 g12 (cb bo) 5) := hbk
       clear hge hbk hbz)
    | (clear tk5; go_at_call 24; refine (HWR.out _ _ HDK.out (H12.out.stB NP_g12.out HBL.out (Nat.le_of_eq HBL.out.symm))).mono ?_; rintro e0 y5 ⟨P1, rfl, hdk, hm, hgr⟩
       clear o0
       clear o1
       clear o2
       clear o4
       have np_g4 : ¬ P1 g4 := fun h => NP_g4.out (hgr.old g4 H4.out.lt h)
       replace H4 : Hid (Blk y5 g4 [.slice ad ns cs, .slice aw nw cw, .int .i64 lf, .bool dn] 27) := hm.blk H4.out NP_g4.out
       replace NP_g4 : Hid (¬ P1 g4) := np_g4
       clear np_g4
       have np_g5 : ¬ P1 g5 := fun h => NP_g5.out (hgr.old g5 H5.out.lt h)
       replace H5 : Hid (Blk y5 g5 [.int .i64 kd, .int .i64 oi, .int .i64 on, .int .u8 (oc.toNat : Int), .slice ak nk ck] 36) := hm.blk H5.out NP_g5.out
       replace NP_g5 : Hid (¬ P1 g5) := np_g5
       clear np_g5
       have np_g6 : ¬ P1 g6 := fun h => NP_g6.out (hgr.old g6 H6.out.lt h)
       replace H6 : Hid (Blk y5 g6 [.slice none 0 0, .slice none 0 0, .int .i64 0, .bool false] 27) := hm.blk H6.out NP_g6.out
       replace NP_g6 : Hid (¬ P1 g6) := np_g6
       clear np_g6
       have np_g12 : ¬ P1 g12 := fun h => NP_g12.out (hgr.old g12 H12.out.lt h)
       replace H12 : Hid (Blk y5 g12 (cb bo) 5) := hm.blk H12.out NP_g12.out
       replace NP_g12 : Hid (¬ P1 g12) := np_g12
       clear np_g12
       replace HRS : Hid (RdS (Ext P1 (g12 :: g6 :: X)) y5 D (.slice ad ns cs) (.slice aw nw cw)) := HRS.out.actE hm hgr
       have hgw : Grew w P P1 := HGR.out.trans HMW.out.size hgr
       replace HMW : Hid (Mut P w y5) := HMW.out.trans HGR.out.old hm
       replace HGR : Hid (Grew w P P1) := hgw
       clear hgw
       replace HDK : Hid (Dk y5 g P1 D1) := hdk
       have o0 : y5.cell? ⟨g5, 0, none⟩ = some (.int .i64 kd) := H5.out.cell 0
       have o1 : y5.cell? ⟨g5, 1, none⟩ = some (.int .i64 oi) := H5.out.cell 1
       have o2 : y5.cell? ⟨g5, 2, none⟩ = some (.int .i64 on) := H5.out.cell 2
       have o4 : y5.cell? ⟨g5, 4, none⟩ = some (.slice ak nk ck) := H5.out.cell 4
       clear hdk hm hgr ))
  go_cut [14, 15] from 20 to 114 (fun a b W => ∃ g14 a2 n2 c2 a3 n3 c3, a = .pointer (some ⟨g14, 0, none⟩) ∧ b = .int .i64 wx2 ∧ KwI Dk g P X w P1 D1 g6 g12 g14 [.slice a2 n2 c2, .slice a3 n3 c3, .int .i64 l1, .bool d1] (.slice a2 n2 c2) (.slice a3 n3 c3) bo W)
  case first =>
    refine wp_region_held_drew (S := Over (World.drew y5)) (by kernel_rfl) (Over.refl _) ?_
    intro hS
    replace H4 : Hid (Blk (World.drew y5) g4 [.slice ad ns cs, .slice aw nw cw, .int .i64 lf, .bool dn] 27) := H4.out.drew
    replace H5 : Hid (Blk (World.drew y5) g5 [.int .i64 kd, .int .i64 oi, .int .i64 on, .int .u8 (oc.toNat : Int), .slice ak nk ck] 36) := H5.out.drew
    replace H6 : Hid (Blk (World.drew y5) g6 [.slice none 0 0, .slice none 0 0, .int .i64 0, .bool false] 27) := H6.out.drew
    replace H12 : Hid (Blk (World.drew y5) g12 (cb bo) 5) := H12.out.drew
    replace HMW : Hid (Mut P w (World.drew y5)) := HMW.out.drew
    replace HDK : Hid (Dk (World.drew y5) g P1 D1) := OPS.same HDK.out (Nat.le_refl _) (fun _ _ => rfl)
    replace HRS : Hid (RdS (Ext P1 (g12 :: g6 :: X)) (World.drew y5) D (.slice ad ns cs) (.slice aw nw cw)) := HRS.out.go (mut_drew _ _) (fun _ _ h => h)
    clear o0 o1 o2 o4
    change wpAnyH _ _ _ _ _ _ _ _ (World.drew y5)
    generalize World.drew y5 = y0 at *
    try simp only [Act.put, List.setIfInBounds_toArray, List.set_cons_zero, List.set_cons_succ]
    refine wpAnyH_take (i := 0) (v := .agg [.slice ad ns cs, .slice aw nw cw, .int .i64 lf, .bool dn].toArray) rfl (by kernel_rfl) (by kernel_rfl) (by kernel_rfl) (fun _ _ _ h => h) (Or.inl ⟨by rfl, fun wx hx => by exact load_run 27 _ rfl g4 0 rfl [.slice ad ns cs, .slice aw nw cw, .int .i64 lf, .bool dn] _ (H4.out.below hx H4.out.lt).range Try.underlying27 rfl (info_rd _ _ _ _)⟩) hS ?_
    simp only [Act.put, List.getElem_toArray, List.getElem_cons_zero, List.setIfInBounds_toArray, List.set_cons_zero, List.set_cons_succ]
    refine wpAnyH_take (i := 1) (v := .pointer (some ⟨g5, 1, none⟩)) rfl (by kernel_rfl) (by kernel_rfl) (by kernel_rfl) (fun _ _ _ h => h) (Or.inl ⟨by rfl, fun wx hx => by simp [go_sem]⟩) hS ?_
    simp only [Act.put, List.getElem_toArray, List.getElem_cons_succ, List.getElem_cons_zero, List.setIfInBounds_toArray, List.set_cons_zero, List.set_cons_succ]
    refine wpAnyH_take (i := 2) (v := .int .i64 oi) rfl (by kernel_rfl) (by kernel_rfl) (by kernel_rfl) (fun _ _ _ h => h) (Or.inl ⟨by rfl, fun wx hx => by (have hc : wx.cell? ⟨g5, 1, none⟩ = some (.int .i64 oi) := (H5.out.below hx H5.out.lt).cell 1); simp [go_sem, hc]⟩) hS ?_
    simp only [Act.put, List.getElem_toArray, List.getElem_cons_succ, List.getElem_cons_zero, List.setIfInBounds_toArray, List.set_cons_zero, List.set_cons_succ]
    refine wpAnyH_take (i := 3) (v := .agg [.int .i64 kd, .int .i64 oi, .int .i64 on, .int .u8 (oc.toNat : Int), .slice ak nk ck].toArray) rfl (by kernel_rfl) (by kernel_rfl) (by kernel_rfl) (fun _ _ _ h => h) (Or.inl ⟨by rfl, fun wx hx => by exact load_run 36 _ rfl g5 0 rfl [.int .i64 kd, .int .i64 oi, .int .i64 on, .int .u8 (oc.toNat : Int), .slice ak nk ck] _ (H5.out.below hx H5.out.lt).range Try.underlying36 rfl (info_op _ _ _ _ _)⟩) hS ?_
    simp only [Act.put, List.getElem_toArray, List.getElem_cons_succ, List.getElem_cons_zero, List.setIfInBounds_toArray, List.set_cons_zero, List.set_cons_succ]
    refine wpAnyH_pair 4 9 (by kernel_rfl) ?_ ?_
    · have hcc := HOB.out y0
      generalize hA : (#[.agg [.int .i64 kd, .int .i64 oi, .int .i64 on, .int .u8 (oc.toNat : Int), .slice ak nk ck].toArray] : Array Value) = AA at hcc
      refine wpOp_en 4 (by rfl) (by rfl) (f := 25) (args := AA) ?_ hcc ?_
      · subst hA; simp [go_sem]
      clear hcc hA
      rintro e z1 ⟨gq, rfl, hgq, hbq, hb⟩
      replace hS := Over.more hS hb
      have HQ : Hid (Blk z1 gq (cb bo) 5) := hbq
      refine ⟨_, rfl, hS, ?_⟩
      clear hb hgq hbq
      simp only [Act.put, List.getElem_toArray, List.getElem_cons_succ, List.getElem_cons_zero, List.setIfInBounds_toArray, List.set_cons_zero, List.set_cons_succ]
      refine wpAnyH_pair 5 9 (by kernel_rfl) ?_ ?_
      · have hcc := HPT.out z1 (Ext P1 (g12 :: g6 :: X)) _ (HRS.out.below hS) (fun k hk => by rcases hk with hk | hk; exact Nat.lt_of_lt_of_le (OPS.lt HDK.out k hk) (Below.size hS); rcases List.mem_cons.1 hk with rfl | hk; exact Nat.lt_of_lt_of_le H12.out.lt (Below.size hS); rcases List.mem_cons.1 hk with rfl | hk; exact Nat.lt_of_lt_of_le H6.out.lt (Below.size hS); exact Nat.lt_of_lt_of_le (HXL.out k hk) (Nat.le_trans HMW.out.size (Below.size hS))) (HQ.out.reads HBL.out (Nat.le_of_eq HBL.out.symm))
        generalize hA : (#[.agg [.slice ad ns cs, .slice aw nw cw, .int .i64 lf, .bool dn].toArray, .int .i64 oi, .slice (some ⟨gq, 0, none⟩) L L] : Array Value) = AA at hcc
        refine wpOp_en 5 (by rfl) (by rfl) (f := 27) (args := AA) ?_ hcc ?_
        · subst hA; simp [go_sem]
        clear hcc hA
        rintro e z2 ⟨a2, n2, c2, a3, n3, c3, rfl, hrs, hb⟩
        replace hS := Over.more hS hb
        have HR2 : Hid (RdS (Ext P1 (g12 :: g6 :: X)) z2 D1 (.slice a2 n2 c2) (.slice a3 n3 c3)) := hrs
        refine ⟨_, rfl, hS, ?_⟩
        clear hb hrs HQ
        simp only [Act.put, List.getElem_toArray, List.getElem_cons_succ, List.getElem_cons_zero, List.setIfInBounds_toArray, List.set_cons_zero, List.set_cons_succ]
        refine wpAnyH_take (i := 6) (v := .tuple #[.agg [.slice a2 n2 c2, .slice a3 n3 c3, .int .i64 l1, .bool d1].toArray, .int .i64 wx2]) rfl (by kernel_rfl) (by kernel_rfl) (by kernel_rfl) (fun _ _ _ h => h) (Or.inl ⟨by rfl, fun wx hx => by simp [go_sem]⟩) hS ?_
        simp only [Act.put, List.getElem_toArray, List.getElem_cons_succ, List.getElem_cons_zero, List.setIfInBounds_toArray, List.set_cons_zero, List.set_cons_succ]
        refine wpAnyH_take (i := 7) (v := .agg [.slice a2 n2 c2, .slice a3 n3 c3, .int .i64 l1, .bool d1].toArray) rfl (by kernel_rfl) (by kernel_rfl) (by kernel_rfl) (fun _ _ _ h => h) (Or.inl ⟨by rfl, fun wx hx => by simp [go_sem]⟩) hS ?_
        simp only [Act.put, List.getElem_toArray, List.getElem_cons_succ, List.getElem_cons_zero, List.setIfInBounds_toArray, List.set_cons_zero, List.set_cons_succ]
        refine wpAnyH_take (i := 8) (v := .int .i64 wx2) rfl (by kernel_rfl) (by kernel_rfl) (by kernel_rfl) (fun _ _ _ h => h) (Or.inl ⟨by rfl, fun wx hx => by simp [go_sem]⟩) hS ?_
        simp only [Act.put, List.getElem_toArray, List.getElem_cons_succ, List.getElem_cons_zero, List.setIfInBounds_toArray, List.set_cons_zero, List.set_cons_succ]
        have hb := below_alloc z2 (.cells [.slice none 0 0, .slice none 0 0, .int .i64 0, .bool false].toArray 27)
        have hba : Blk (z2.alloc (.cells [.slice none 0 0, .slice none 0 0, .int .i64 0, .bool false].toArray 27)) z2.heap.size [.slice none 0 0, .slice none 0 0, .int .i64 0, .bool false] 27 := Blk.new _ _ _
        have hsz : y0.heap.size ≤ z2.heap.size := Below.size hS
        replace hS := Over.more hS hb
        replace HR2 : Hid (RdS (Ext P1 (z2.heap.size :: g12 :: g6 :: X)) (z2.alloc (.cells [.slice none 0 0, .slice none 0 0, .int .i64 0, .bool false].toArray 27)) D1 (.slice a2 n2 c2) (.slice a3 n3 c3)) := HR2.out.go (mut_below hb _) (ext_new (fun k hk => by rcases List.mem_cons.1 hk with rfl | hk; exact Or.inr (Nat.le_refl _); exact Or.inl hk))
        refine wpAnyH_step 9 (.pointer (some ⟨z2.heap.size, 0, none⟩)) (z2.alloc (.cells [.slice none 0 0, .slice none 0 0, .int .i64 0, .bool false].toArray 27)) (by kernel_rfl) rfl (by rfl) (alloc_rd _ _ rfl _) hS ?_
        simp only [Act.put, List.getElem_toArray, List.getElem_cons_succ, List.getElem_cons_zero, List.setIfInBounds_toArray, List.set_cons_zero, List.set_cons_succ]
        clear hb
        generalize z2.alloc (.cells [.slice none 0 0, .slice none 0 0, .int .i64 0, .bool false].toArray 27) = z3 at *
        obtain ⟨ga, HGA⟩ : ∃ z, Hid (z = z2.heap.size) := ⟨_, rfl⟩
        have hgw : y0.heap.size ≤ ga := by rw [HGA.out]; exact hsz
        rw [← HGA.out] at hba HR2 ⊢
        clear HGA hsz
        refine wpAnyH_storeRow 10 27 (.tmp 14) (.tmp 63) ga [.slice none 0 0, .slice none 0 0, .int .i64 0, .bool false] [.slice a2 n2 c2, .slice a3 n3 c3, .int .i64 l1, .bool d1] hba rfl (info_rd _ _ _ _) (one_rd _ _ _ _ _ _ _ _) (by kernel_rfl) rfl (by rfl) rfl rfl rfl ?_
        intro yE hs
        replace hS : Over y0 yE := Below.trans hS (hs.only.below hgw (Below.size hS))
        refine ⟨hS, ?_⟩
        simp only [Act.put, List.getElem_toArray, List.getElem_cons_succ, List.getElem_cons_zero]
        refine wpAnyH_take (i := 11) (v := .int .i64 wx2) rfl (by kernel_rfl) (by kernel_rfl) (by kernel_rfl) (fun _ _ _ h => h) (Or.inl ⟨by rfl, fun wx hx => by simp [go_sem]⟩) hS ?_
        simp only [Act.put, List.getElem_toArray, List.getElem_cons_succ, List.getElem_cons_zero, List.setIfInBounds_toArray, List.set_cons_zero, List.set_cons_succ]
        refine wpAnyH_done (by kernel_rfl) ?_ _
        go_wp2
        go_meet
        case rel => exact ⟨ga, a2, n2, c2, a3, n3, c3, rfl, rfl, ⟨HMW.out.trans HGR.out.old (mut_below (Over.out hS) _), OPS.same HDK.out (Below.size hS) (fun k hk => Below.block hS k (OPS.lt HDK.out k hk)), H6.out.below hS H6.out.lt, hs.blk, H12.out.below hS H12.out.lt, HR2.out.go (hs.only.mut (Or.inr (by simp))) (fun _ _ h => h), NP_g6.out, NP_g12.out, NE_g6_g12.out, (by have h := H6.out.lt; omega), (by have h := H12.out.lt; omega), GE_g6.out, GE_g12.out⟩⟩
      · have hb := below_alloc z1 (.cells [.slice none 0 0, .slice none 0 0, .int .i64 0, .bool false].toArray 27)
        have hba : Blk (z1.alloc (.cells [.slice none 0 0, .slice none 0 0, .int .i64 0, .bool false].toArray 27)) z1.heap.size [.slice none 0 0, .slice none 0 0, .int .i64 0, .bool false] 27 := Blk.new _ _ _
        have hsz : y0.heap.size ≤ z1.heap.size := Below.size hS
        replace hS := Over.more hS hb
        replace HQ : Hid (Blk (z1.alloc (.cells [.slice none 0 0, .slice none 0 0, .int .i64 0, .bool false].toArray 27)) gq (cb bo) 5) := HQ.out.below hb HQ.out.lt
        refine wpOp_vl 9 (.pointer (some ⟨z1.heap.size, 0, none⟩)) (z1.alloc (.cells [.slice none 0 0, .slice none 0 0, .int .i64 0, .bool false].toArray 27)) (by rfl) (by rfl) (alloc_rd _ _ rfl _) ⟨hS, ?_⟩
        simp only [Act.put, List.getElem_toArray, List.getElem_cons_succ, List.getElem_cons_zero, List.setIfInBounds_toArray, List.set_cons_zero, List.set_cons_succ]
        clear hb
        generalize z1.alloc (.cells [.slice none 0 0, .slice none 0 0, .int .i64 0, .bool false].toArray 27) = z4 at *
        obtain ⟨ga, HGA⟩ : ∃ z, Hid (z = z1.heap.size) := ⟨_, rfl⟩
        have hgw : y0.heap.size ≤ ga := by rw [HGA.out]; exact hsz
        rw [← HGA.out] at hba ⊢
        clear HGA hsz
        have hcc := HPT.out z4 (Ext P1 (ga :: g12 :: g6 :: X)) _ (HRS.out.go (mut_below (Over.out hS) _) (ext_new (fun k hk => by rcases List.mem_cons.1 hk with rfl | hk; exact Or.inr hgw; exact Or.inl hk))) (fun k hk => by rcases hk with hk | hk; exact Nat.lt_of_lt_of_le (OPS.lt HDK.out k hk) (Below.size hS); rcases List.mem_cons.1 hk with rfl | hk; exact hba.lt; rcases List.mem_cons.1 hk with rfl | hk; exact Nat.lt_of_lt_of_le H12.out.lt (Below.size hS); rcases List.mem_cons.1 hk with rfl | hk; exact Nat.lt_of_lt_of_le H6.out.lt (Below.size hS); exact Nat.lt_of_lt_of_le (HXL.out k hk) (Nat.le_trans HMW.out.size (Below.size hS))) (HQ.out.reads HBL.out (Nat.le_of_eq HBL.out.symm))
        generalize hA : (#[.agg [.slice ad ns cs, .slice aw nw cw, .int .i64 lf, .bool dn].toArray, .int .i64 oi, .slice (some ⟨gq, 0, none⟩) L L] : Array Value) = AA at hcc
        refine wpAnyH_enter 5 (by kernel_rfl) rfl (by rfl) (f := 27) (args := AA) ?_ hcc ?_
        · subst hA; simp [go_sem]
        clear hcc hA
        rintro e z5 ⟨a2, n2, c2, a3, n3, c3, rfl, hrs, hb⟩
        replace hS := Over.more hS hb
        replace hba := hba.below hb hba.lt
        have HR2 : Hid (RdS (Ext P1 (ga :: g12 :: g6 :: X)) z5 D1 (.slice a2 n2 c2) (.slice a3 n3 c3)) := hrs
        refine ⟨_, rfl, hS, ?_⟩
        clear hb hrs HQ
        simp only [Act.put, List.getElem_toArray, List.getElem_cons_succ, List.getElem_cons_zero, List.setIfInBounds_toArray, List.set_cons_zero, List.set_cons_succ]
        refine wpAnyH_take (i := 6) (v := .tuple #[.agg [.slice a2 n2 c2, .slice a3 n3 c3, .int .i64 l1, .bool d1].toArray, .int .i64 wx2]) rfl (by kernel_rfl) (by kernel_rfl) (by kernel_rfl) (fun _ _ _ h => h) (Or.inl ⟨by rfl, fun wx hx => by simp [go_sem]⟩) hS ?_
        simp only [Act.put, List.getElem_toArray, List.getElem_cons_succ, List.getElem_cons_zero, List.setIfInBounds_toArray, List.set_cons_zero, List.set_cons_succ]
        refine wpAnyH_take (i := 7) (v := .agg [.slice a2 n2 c2, .slice a3 n3 c3, .int .i64 l1, .bool d1].toArray) rfl (by kernel_rfl) (by kernel_rfl) (by kernel_rfl) (fun _ _ _ h => h) (Or.inl ⟨by rfl, fun wx hx => by simp [go_sem]⟩) hS ?_
        simp only [Act.put, List.getElem_toArray, List.getElem_cons_succ, List.getElem_cons_zero, List.setIfInBounds_toArray, List.set_cons_zero, List.set_cons_succ]
        refine wpAnyH_take (i := 8) (v := .int .i64 wx2) rfl (by kernel_rfl) (by kernel_rfl) (by kernel_rfl) (fun _ _ _ h => h) (Or.inl ⟨by rfl, fun wx hx => by simp [go_sem]⟩) hS ?_
        simp only [Act.put, List.getElem_toArray, List.getElem_cons_succ, List.getElem_cons_zero, List.setIfInBounds_toArray, List.set_cons_zero, List.set_cons_succ]
        refine wpAnyH_storeRow 10 27 (.tmp 14) (.tmp 63) ga [.slice none 0 0, .slice none 0 0, .int .i64 0, .bool false] [.slice a2 n2 c2, .slice a3 n3 c3, .int .i64 l1, .bool d1] hba rfl (info_rd _ _ _ _) (one_rd _ _ _ _ _ _ _ _) (by kernel_rfl) rfl (by rfl) rfl rfl rfl ?_
        intro yE hs
        replace hS : Over y0 yE := Below.trans hS (hs.only.below hgw (Below.size hS))
        refine ⟨hS, ?_⟩
        simp only [Act.put, List.getElem_toArray, List.getElem_cons_succ, List.getElem_cons_zero]
        refine wpAnyH_take (i := 11) (v := .int .i64 wx2) rfl (by kernel_rfl) (by kernel_rfl) (by kernel_rfl) (fun _ _ _ h => h) (Or.inl ⟨by rfl, fun wx hx => by simp [go_sem]⟩) hS ?_
        simp only [Act.put, List.getElem_toArray, List.getElem_cons_succ, List.getElem_cons_zero, List.setIfInBounds_toArray, List.set_cons_zero, List.set_cons_succ]
        refine wpAnyH_done (by kernel_rfl) ?_ _
        go_wp2
        go_meet
        case rel => exact ⟨ga, a2, n2, c2, a3, n3, c3, rfl, rfl, ⟨HMW.out.trans HGR.out.old (mut_below (Over.out hS) _), OPS.same HDK.out (Below.size hS) (fun k hk => Below.block hS k (OPS.lt HDK.out k hk)), H6.out.below hS H6.out.lt, hs.blk, H12.out.below hS H12.out.lt, HR2.out.go (hs.only.mut (Or.inr (by simp))) (fun _ _ h => h), NP_g6.out, NP_g12.out, NE_g6_g12.out, (by have h := H6.out.lt; omega), (by have h := H12.out.lt; omega), GE_g6.out, GE_g12.out⟩⟩
    · have hb := below_alloc y0 (.cells [.slice none 0 0, .slice none 0 0, .int .i64 0, .bool false].toArray 27)
      have hba : Blk (y0.alloc (.cells [.slice none 0 0, .slice none 0 0, .int .i64 0, .bool false].toArray 27)) y0.heap.size [.slice none 0 0, .slice none 0 0, .int .i64 0, .bool false] 27 := Blk.new _ _ _
      have hsz : y0.heap.size ≤ y0.heap.size := Below.size hS
      replace hS := Over.more hS hb
      refine wpOp_vl 9 (.pointer (some ⟨y0.heap.size, 0, none⟩)) (y0.alloc (.cells [.slice none 0 0, .slice none 0 0, .int .i64 0, .bool false].toArray 27)) (by rfl) (by rfl) (alloc_rd _ _ rfl _) ⟨hS, ?_⟩
      simp only [Act.put, List.getElem_toArray, List.getElem_cons_succ, List.getElem_cons_zero, List.setIfInBounds_toArray, List.set_cons_zero, List.set_cons_succ]
      clear hb
      generalize y0.alloc (.cells [.slice none 0 0, .slice none 0 0, .int .i64 0, .bool false].toArray 27) = z6 at *
      obtain ⟨ga, HGA⟩ : ∃ z, Hid (z = y0.heap.size) := ⟨_, rfl⟩
      have hgw : y0.heap.size ≤ ga := by rw [HGA.out]; exact hsz
      rw [← HGA.out] at hba ⊢
      clear HGA hsz
      have hcc := HOB.out z6
      generalize hA : (#[.agg [.int .i64 kd, .int .i64 oi, .int .i64 on, .int .u8 (oc.toNat : Int), .slice ak nk ck].toArray] : Array Value) = AA at hcc
      refine wpAnyH_enter 4 (by kernel_rfl) rfl (by rfl) (f := 25) (args := AA) ?_ hcc ?_
      · subst hA; simp [go_sem]
      clear hcc hA
      rintro e z7 ⟨gq, rfl, hgq, hbq, hb⟩
      replace hS := Over.more hS hb
      replace hba := hba.below hb hba.lt
      have HQ : Hid (Blk z7 gq (cb bo) 5) := hbq
      refine ⟨_, rfl, hS, ?_⟩
      clear hb hgq hbq
      simp only [Act.put, List.getElem_toArray, List.getElem_cons_succ, List.getElem_cons_zero, List.setIfInBounds_toArray, List.set_cons_zero, List.set_cons_succ]
      have hcc := HPT.out z7 (Ext P1 (ga :: g12 :: g6 :: X)) _ (HRS.out.go (mut_below (Over.out hS) _) (ext_new (fun k hk => by rcases List.mem_cons.1 hk with rfl | hk; exact Or.inr hgw; exact Or.inl hk))) (fun k hk => by rcases hk with hk | hk; exact Nat.lt_of_lt_of_le (OPS.lt HDK.out k hk) (Below.size hS); rcases List.mem_cons.1 hk with rfl | hk; exact hba.lt; rcases List.mem_cons.1 hk with rfl | hk; exact Nat.lt_of_lt_of_le H12.out.lt (Below.size hS); rcases List.mem_cons.1 hk with rfl | hk; exact Nat.lt_of_lt_of_le H6.out.lt (Below.size hS); exact Nat.lt_of_lt_of_le (HXL.out k hk) (Nat.le_trans HMW.out.size (Below.size hS))) (HQ.out.reads HBL.out (Nat.le_of_eq HBL.out.symm))
      generalize hA : (#[.agg [.slice ad ns cs, .slice aw nw cw, .int .i64 lf, .bool dn].toArray, .int .i64 oi, .slice (some ⟨gq, 0, none⟩) L L] : Array Value) = AA at hcc
      refine wpAnyH_enter 5 (by kernel_rfl) rfl (by rfl) (f := 27) (args := AA) ?_ hcc ?_
      · subst hA; simp [go_sem]
      clear hcc hA
      rintro e z8 ⟨a2, n2, c2, a3, n3, c3, rfl, hrs, hb⟩
      replace hS := Over.more hS hb
      replace hba := hba.below hb hba.lt
      have HR2 : Hid (RdS (Ext P1 (ga :: g12 :: g6 :: X)) z8 D1 (.slice a2 n2 c2) (.slice a3 n3 c3)) := hrs
      refine ⟨_, rfl, hS, ?_⟩
      clear hb hrs HQ
      simp only [Act.put, List.getElem_toArray, List.getElem_cons_succ, List.getElem_cons_zero, List.setIfInBounds_toArray, List.set_cons_zero, List.set_cons_succ]
      refine wpAnyH_take (i := 6) (v := .tuple #[.agg [.slice a2 n2 c2, .slice a3 n3 c3, .int .i64 l1, .bool d1].toArray, .int .i64 wx2]) rfl (by kernel_rfl) (by kernel_rfl) (by kernel_rfl) (fun _ _ _ h => h) (Or.inl ⟨by rfl, fun wx hx => by simp [go_sem]⟩) hS ?_
      simp only [Act.put, List.getElem_toArray, List.getElem_cons_succ, List.getElem_cons_zero, List.setIfInBounds_toArray, List.set_cons_zero, List.set_cons_succ]
      refine wpAnyH_take (i := 7) (v := .agg [.slice a2 n2 c2, .slice a3 n3 c3, .int .i64 l1, .bool d1].toArray) rfl (by kernel_rfl) (by kernel_rfl) (by kernel_rfl) (fun _ _ _ h => h) (Or.inl ⟨by rfl, fun wx hx => by simp [go_sem]⟩) hS ?_
      simp only [Act.put, List.getElem_toArray, List.getElem_cons_succ, List.getElem_cons_zero, List.setIfInBounds_toArray, List.set_cons_zero, List.set_cons_succ]
      refine wpAnyH_take (i := 8) (v := .int .i64 wx2) rfl (by kernel_rfl) (by kernel_rfl) (by kernel_rfl) (fun _ _ _ h => h) (Or.inl ⟨by rfl, fun wx hx => by simp [go_sem]⟩) hS ?_
      simp only [Act.put, List.getElem_toArray, List.getElem_cons_succ, List.getElem_cons_zero, List.setIfInBounds_toArray, List.set_cons_zero, List.set_cons_succ]
      refine wpAnyH_storeRow 10 27 (.tmp 14) (.tmp 63) ga [.slice none 0 0, .slice none 0 0, .int .i64 0, .bool false] [.slice a2 n2 c2, .slice a3 n3 c3, .int .i64 l1, .bool d1] hba rfl (info_rd _ _ _ _) (one_rd _ _ _ _ _ _ _ _) (by kernel_rfl) rfl (by rfl) rfl rfl rfl ?_
      intro yE hs
      replace hS : Over y0 yE := Below.trans hS (hs.only.below hgw (Below.size hS))
      refine ⟨hS, ?_⟩
      simp only [Act.put, List.getElem_toArray, List.getElem_cons_succ, List.getElem_cons_zero]
      refine wpAnyH_take (i := 11) (v := .int .i64 wx2) rfl (by kernel_rfl) (by kernel_rfl) (by kernel_rfl) (fun _ _ _ h => h) (Or.inl ⟨by rfl, fun wx hx => by simp [go_sem]⟩) hS ?_
      simp only [Act.put, List.getElem_toArray, List.getElem_cons_succ, List.getElem_cons_zero, List.setIfInBounds_toArray, List.set_cons_zero, List.set_cons_succ]
      refine wpAnyH_done (by kernel_rfl) ?_ _
      go_wp2
      go_meet
      case rel => exact ⟨ga, a2, n2, c2, a3, n3, c3, rfl, rfl, ⟨HMW.out.trans HGR.out.old (mut_below (Over.out hS) _), OPS.same HDK.out (Below.size hS) (fun k hk => Below.block hS k (OPS.lt HDK.out k hk)), H6.out.below hS H6.out.lt, hs.blk, H12.out.below hS H12.out.lt, HR2.out.go (hs.only.mut (Or.inr (by simp))) (fun _ _ h => h), NP_g6.out, NP_g12.out, NE_g6_g12.out, (by have h := H6.out.lt; omega), (by have h := H12.out.lt; omega), GE_g6.out, GE_g12.out⟩⟩
  case rest =>
    obtain ⟨g14, a2, n2, c2, a3, n3, c3, rfl, rfl, hI⟩ := hcut
    have HI0 : Hid (KwI Dk g P X w P1 D1 g6 g12 g14 [.slice a2 n2 c2, .slice a3 n3 c3, .int .i64 l1, .bool d1] (.slice a2 n2 c2) (.slice a3 n3 c3) bo wc) := hI
    clear hI H4 H5 H6 H12 HDK HRS HMW
    go_wp2
    go_loopw [16] (fun i wr => ∃ (k : Nat) (l : Bs), k ≤ L ∧ i = .int .i64 (k : Int) ∧ Hid (l.length = L) ∧ Hid (KwI Dk g P X w P1 D1 g6 g12 g14 [.slice a2 n2 c2, .slice a3 n3 c3, .int .i64 l1, .bool d1] (.slice a2 n2 c2) (.slice a3 n3 c3) l wr)) (fun i _ => L - (intOf i).toNat)
    case atStart => exact ⟨0, bo, Nat.zero_le _, rfl, HBL.out.symm, HI0⟩
    case round =>
      obtain ⟨k, l, hkn, rfl, HLN, HI⟩ := hrel
      clear HI0
      by_cases hlt : k < L
      case pos =>
        have hlk : (k : Int) < (L : Int) := by omega
        have k0 : (0 : Int) ≤ (k : Int) := by omega
        have f5 : IntKind.i64.wrap ((k : Int) + 1) = (k : Int) + 1 := by rw [IntKind.wrap_i64]; have := HL2.out; omega
        obtain ⟨x, HX⟩ : ∃ x, Hid (x = l.getD k 0) := ⟨_, rfl⟩
        have cx : wr.cell? ⟨g12, k, none⟩ = some (.int .u8 (x.toNat : Int)) := by rw [HI.out.r12.cell, cb_get l k (by rw [HLN.out]; exact hlt), HX.out]
        have fy : IntKind.u8.wrap ((x.toNat : Int) + 1) = ((x + 1).toNat : Int) := by
          have hx := x.isLt
          rw [BitVec.toNat_add]
          simp [IntKind.wrap, IntKind.bits, IntKind.signed]
        have tk1 : Hid True := trivial
        go_wp2_with (first
          | (clear tk1; with_reducible refine wpSeq_storeY (.tmp 76) (.tmp 75) g12 k l (x + 1) ?_ HI.out.r12 ?_ ?_ ?_ ?_ ?_
             · rw [HLN.out]; exact hlt
             · rfl
             · first | rfl | (simp [Act.eval]; done)
             · first | rfl | (exact congrArg (Value.int .u8) fy) | (simp [Act.eval]; done)
             · rfl
             intro y5 hb5 ho5
             have HI5 : Hid (KwI Dk g P X w P1 D1 g6 g12 g14 [.slice a2 n2 c2, .slice a3 n3 c3, .int .i64 l1, .bool d1] (.slice a2 n2 c2) (.slice a3 n3 c3) (l.set k (x + 1)) y5) := HI.out.set OPS hb5 ho5
             have HL5 : Hid ((l.set k (x + 1)).length = L) := by show _ = _; rw [List.length_set]; exact HLN.out
             clear hb5 ho5 cx))
        go_roundw
        case rel => exact ⟨k + 1, _, by omega, by simp, HL5, HI5⟩
        case measure => simp [intOf]; omega
      case neg =>
        have hlk : ¬ ((k : Int) < (L : Int)) := by omega
        have tk2 : Hid True := trivial
        have tk3 : Hid True := trivial
        go_wp2_with (first
          | (clear tk2; with_reducible refine wpSeq_loadW 27 (.tmp 14) g14 0 [.slice a2 n2 c2, .slice a3 n3 c3, .int .i64 l1, .bool d1] _ ?_ Try.underlying27 rfl ?_ ?_ ?_ ?_ ?_
             · exact HI.out.r14.range
             · exact (info_rd _ _ _ _)
             · rfl
             · rfl
             · rfl)
          | (clear tk3; with_reducible refine wpSeq_storeRow 27 (.tmp 6) (.tmp 77) g6 [.slice none 0 0, .slice none 0 0, .int .i64 0, .bool false] [.slice a2 n2 c2, .slice a3 n3 c3, .int .i64 l1, .bool d1] HI.out.r6 (by simp) (info_rd _ _ _ _) (one_rd _ _ _ _ _ _ _ _) ?_ ?_ ?_ ?_ ?_
             · rfl
             · rfl
             · rfl
             · rfl
             intro y9 hs))
        exact bodyPost_ret (results_row_tmp (by rfl) _ _ g6 _ rfl (var_rd hs.blk)) rfl ⟨⟨P1, _, _, by rw [HRF.out]; rfl, OPS.same HI.out.dk hs.only.size (fun k hk => hs.only.block k (fun e => HI.out.n6 (e ▸ hk)) (OPS.lt HI.out.dk k hk)), (HI.out.rs.go (hs.only.mut (Or.inr (by simp))) (fun _ _ h => h)).less.less.less, HI.out.mw.own hs.only HI.out.w6, HGR.out⟩⟩
/-- step, whichever act -/
theorem step13_any {Dk : World → Nat → (Nat → Prop) → DkT → Prop} (OPS : DkOps Dk) {w : World} {g : Nat} {P : Nat → Prop} {X : List Nat} {D : DkT} {vs vw vk : Value} {o : OpT} (hD : Dk w g P D) (hS : RdS (Ext P X) w D vs vw) (hX : ∀ k, k ∈ X → k < w.heap.size) (hw : D.wait.length ≤ 199) (hK : Sta P w (fun W => ReadsI W vk o.keep)) (hn : o.n < 9223372036854775808) :
    Calls Try.prog 11 #[.pointer (some ⟨g, 0, none⟩), .agg (rdC D vs vw).toArray, .agg (opC o vk).toArray] w (StepR Dk g P X w (stepD D o)) := by
  unfold stepD
  by_cases h0 : o.kind = 0
  · rw [if_pos h0]; exact step_read OPS hD hS hX hw hK h0
  rw [if_neg h0]
  by_cases h1 : o.kind = 1
  · rw [if_pos h1]; exact step_write OPS hD hS hX hw hK h1
  rw [if_neg h1]
  by_cases h2 : o.kind = 2
  · rw [if_pos h2]; exact step_sync OPS hD hS hX hw hK h2
  rw [if_neg h2]
  by_cases h3 : o.kind = 3
  · rw [if_pos h3]; exact step_fuse OPS hD hS hX hw hK h3 hn
  rw [if_neg h3]
  by_cases h4 : o.kind = 4
  · rw [if_pos h4]; exact step_crash OPS hD hS hX hw hK h4
  rw [if_neg h4]
  exact step_other OPS hD hS hX hw hK ⟨h0, h1, h2, h3, h4⟩
end Go.Proofs.Ytdllnedmhhajnaa

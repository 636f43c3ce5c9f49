/- Texts that the proof leans on, one behind the other: The walks of fork's joined and Bytes (layer 12). The walks of fork's parted, Read and Accept (layer 12). The walk of the reference's Same (layer 12). .. -/
import Derived.Test.YtableajopaappaaDoorMge
import Derived.Test.YtableajopaappaaDoorMgd
import Derived.Test.YtableajopaappaaDoorRows
import Derived.Test.YtableajopaappaaDoorMga
import Derived.ProofKit
import Derived.LaidMore
import Derived.OpenShut
import Derived.Stop.Joined
import Derived.Lib.LaidTab
/- The walks of fork's joined and Bytes (layer 12). -/
namespace Go.Proofs.YtableajopaappaaDoor
open Go.RowKit Go.Shelf
set_option maxRecDepth 100000
set_option maxRecDepth 100000 in
set_option maxHeartbeats 8000000 in
theorem fkJoined_any (e : EvT) (cs : List Value) (w : World) (hE : EvB w e cs) (h64 : e.1.length ≤ 64) :
    Calls Tryd.prog 38 #[.agg cs.toArray] w fun r w' => ∃ v, r = .returned v ∧ ReadsS w' v (allE e) ∧ Below w.heap.size w w' := by
  obtain ⟨vt, va, vb, hcs, he⟩ := hE.open
  subst hcs
  obtain ⟨adt, ct, hvt⟩ := he.tr.form
  obtain ⟨ada, na, ca, hva⟩ := he.a.form
  obtain ⟨adb, nb, cc, hvb⟩ := he.b.form
  obtain ⟨nt, HNT⟩ : ∃ n, Hid (n = e.1.length) := ⟨_, rfl⟩
  rw [← HNT.out] at hvt
  subst hvt hva hvb
  obtain ⟨cev, HCE⟩ : ∃ c, Hid (c = evC e (.slice adt nt ct) (.slice ada na ca) (.slice adb nb cc)) := ⟨_, rfl⟩
  rw [← HCE.out]
  have HEV : Hid (EvIs w e (.slice adt nt ct) (.slice ada na ca) (.slice adb nb cc)) := he
  have HIE : Hid ((Tryd.prog.info? 32).map (·.size) = some cev.length) := by show _ = _; rw [HCE.out]; exact info_evC he.oa he.ob _ _ _
  have HAT : Hid (∀ (W : World) (g : Nat), Blk W g cev 32 → EvAt W g 0 e (.slice adt nt ct) (.slice ada na ca) (.slice adb nb cc)) := fun W g hg => by rw [HCE.out] at hg; exact hg.evAt HEV.out.oa HEV.out.ob
  obtain ⟨csa, HSA⟩ : ∃ c, Hid (c = sgC e.2.1 (.slice ada na ca)) := ⟨_, rfl⟩
  obtain ⟨csb, HSB⟩ : ∃ c, Hid (c = sgC e.2.2 (.slice adb nb cc)) := ⟨_, rfl⟩
  have HIS : Hid ((Tryd.prog.info? 30).map (·.size) = some csa.length ∧ (Tryd.prog.info? 30).map (·.size) = some csb.length) := by rw [HSA.out, HSB.out]; exact ⟨info_sgC HEV.out.oa _, info_sgC HEV.out.ob _⟩
  have HRG : Hid (∀ (W : World) (g : Nat), Blk W g cev 32 → W.rangeAt g 1 csa ∧ W.rangeAt g 99 csb) := fun W g hg => by rw [HSA.out, HSB.out]; have h := HAT.out W g hg; refine ⟨?_, ?_⟩; have := h.a.all; rwa [Nat.zero_add] at this; have := h.b.all; rwa [Nat.zero_add] at this
  clear he
  have HN64 : Hid (nt ≤ 64) := by show _ ≤ _; rw [HNT.out]; exact h64
  have HBW : Hid (Below w.heap.size w w) := Below.refl _ _
  have HLL : Hid (csa.length = 98 ∧ csb.length = 98) := by rw [HSA.out, HSB.out]; exact ⟨len_sgC HEV.out.oa _, len_sgC HEV.out.ob _⟩
  have HFL : Hid (flatS [(e.2.1, .slice ada na ca), (e.2.2, .slice adb nb cc)] = csa ++ csb) := by show _ = _; rw [HSA.out, HSB.out]; simp [flatS]
  have HOK2 : Hid (∀ p ∈ [(e.2.1, Value.slice ada na ca), (e.2.2, .slice adb nb cc)], okS p.1) := fun p hp => by
    rcases List.mem_cons.1 hp with rfl | hp
    · exact HEV.out.oa
    · rw [List.mem_singleton.1 hp]; exact HEV.out.ob
  have HON2 : Hid (∀ p ∈ [(e.2.1, Value.slice ada na ca), (e.2.2, .slice adb nb cc)], p.2.oneCell' = true) := fun p hp => by
    rcases List.mem_cons.1 hp with rfl | hp
    · rfl
    · rw [List.mem_singleton.1 hp]; rfl
  have f2 : IntKind.i64.wrap ((nt : Int) + 2) = (nt : Int) + 2 := by rw [IntKind.wrap_i64]; have := HN64.out; omega
  have HNZ : Hid (nt + 2 ≤ 1000000) := by show _ ≤ _; have := HN64.out; omega
  clear h64 hE
  go_enter Tryd.func38, Tryd.ntmps38
  have tk0 : Hid True := trivial
  have tk1 : Hid True := trivial
  have tk2 : Hid True := trivial
  go_upto_region 3 with (first
    | (clear tk0; with_reducible refine wpSeq_boxW 32 (.tmp 0) cev ?_ ?_ ?_ ?_
       · rfl
       · rfl
       · rfl
       intro g1 y1 nn
       have HG1 : Hid (Blk y1 g1 cev 32) := nn.blk
       have HGW : Hid (w.heap.size ≤ g1) := nn.ge
       replace HBW : Hid (Below w.heap.size w y1) := nn.below
       have cet : y1.cell? ⟨g1, 0, none⟩ = some (.slice adt nt ct) := (HAT.out _ _ HG1.out).tr
       clear nn)
    | (clear tk1; with_reducible refine wpSeq_makeS (.tmp 8) (.tmp 8) (nt + 2) HNZ.out ?_ ?_ ?_ ?_ ?_
       · rfl
       · first | rfl | (simp [Act.eval]; done)
       · first | rfl | (simp [Act.eval]; done)
       · rfl
       intro g4 y2 hge hrow hbz
       have HR : Hid (RowS y2 g4 (zeroL (nt + 2))) := hrow
       have HGG : Hid (g1 < g4) := Nat.lt_of_lt_of_le HG1.out.lt hge
       clear cet
       replace HG1 : Hid (Blk y2 g1 cev 32) := HG1.out.below hbz HG1.out.lt
       replace HBW : Hid (Below w.heap.size w y2) := HBW.out.trans (hbz.mono HBW.out.size)
       have cet : y2.cell? ⟨g1, 0, none⟩ = some (.slice adt nt ct) := (HAT.out _ _ HG1.out).tr
       clear hge hrow hbz)
    | (clear tk2; with_reducible refine wpSeq_copyW w (.tmp 10) (.tmp 12) g4 (nt + 2) (nt + 2) nt (zeroL (nt + 2)) e.1 adt nt ct HR.out (len_zeroL _).symm HEV.out.tr HBW.out ?_ ?_ ?_ ?_ ?_ ?_
       · rw [len_zeroL, ← HNT.out]; exact Nat.min_eq_left (by omega)
       · rfl
       · rfl
       · rfl
       · rfl
       intro y3 T hT1 hT2 hrow hon
       replace HR : Hid (RowS y3 g4 (T ++ zeroL 2)) := by rw [zeroL_drop, Nat.add_sub_cancel_left] at hrow; exact hrow
       have HTM : Hid (T.map (·.1) = e.1) := by rw [List.take_of_length_le (by rw [HNT.out]; omega)] at hT1; exact hT1
       have HTL : Hid (T.length = nt) := by show _ = _; rw [HNT.out, ← HTM.out, List.length_map]
       have HTR : Hid (∀ p ∈ T, Reads w p.2 p.1.2) := hT2
       clear cet
       replace HG1 : Hid (Blk y3 g1 cev 32) := HG1.out.only hon (by have := HGG.out; omega)
       replace HBW : Hid (Below w.heap.size w y3) := HBW.out.trans (hon.below (by have h1 := HGW.out; have h2 := HGG.out; omega) HBW.out.size)
       clear hT1 hT2 hrow hon))
  refine wp_region_held_drew (S := Below g4 (World.drew y3)) (by kernel_rfl) (Below.refl _ _) ?_
  intro hS
  replace HG1 : Hid (Blk (World.drew y3) g1 cev 32) := HG1.out.drew
  replace HR : Hid (RowS (World.drew y3) g4 (T ++ zeroL 2)) := HR.out.drew
  replace HBW : Hid (Below w.heap.size w (World.drew y3)) := HBW.out.drew
  change wpAnyH _ _ _ _ _ _ _ _ (World.drew y3)
  generalize World.drew y3 = y0 at *
  try simp only [Act.put, List.setIfInBounds_toArray, List.set_cons_zero, List.set_cons_succ]
  refine wpAnyH_take (i := 0) (v := .slice (some ⟨g4, 0, none⟩) (nt + 2) (nt + 2)) rfl (by kernel_rfl) (by kernel_rfl) (by kernel_rfl) (fun _ _ _ h => h) (Or.inl ⟨by rfl, fun wx hx => by simp [go_sem]⟩) hS ?_
  simp only [Act.put, List.getElem_toArray, List.getElem_cons_zero, List.setIfInBounds_toArray, List.set_cons_zero, List.set_cons_succ]
  refine wpAnyH_take (i := 1) (v := .int .i64 (nt : Int)) rfl (by kernel_rfl) (by kernel_rfl) (by kernel_rfl) (fun _ _ _ h => h) (Or.inl ⟨by rfl, fun wx hx => by simp [go_sem]⟩) hS ?_
  simp only [Act.put, List.getElem_toArray, List.getElem_cons_succ, List.getElem_cons_zero, List.setIfInBounds_toArray, List.set_cons_zero, List.set_cons_succ]
  refine wpAnyH_take (i := 2) (v := .slice (some ⟨g4, nt * 98, none⟩) 2 2) rfl (by kernel_rfl) (by kernel_rfl) (by kernel_rfl) (fun _ _ _ h => h) (Or.inl ⟨by rfl, fun wx hx => by exact drop2_op _ _ _ _ rfl g4 nt rfl rfl _⟩) hS ?_
  simp only [Act.put, List.getElem_toArray, List.getElem_cons_succ, List.getElem_cons_zero, List.setIfInBounds_toArray, List.set_cons_zero, List.set_cons_succ]
  refine wpAnyH_take (i := 3) (v := .pointer (some ⟨g1, 1, none⟩)) rfl (by kernel_rfl) (by kernel_rfl) (by kernel_rfl) (fun _ _ _ h => h) (Or.inl ⟨by rfl, fun wx hx => by simp [go_sem]⟩) hS ?_
  simp only [Act.put, List.getElem_toArray, List.getElem_cons_succ, List.getElem_cons_zero, List.setIfInBounds_toArray, List.set_cons_zero, List.set_cons_succ]
  refine wpAnyH_take (i := 4) (v := .agg csa.toArray) rfl (by kernel_rfl) (by kernel_rfl) (by kernel_rfl) (fun _ _ _ h => h) (Or.inl ⟨by rfl, fun wx hx => by exact load_run 30 _ rfl g1 1 rfl csa _ (HRG.out _ _ (HG1.out.below hx HGG.out)).1 Tryd.underlying30 rfl HIS.out.1⟩) hS ?_
  simp only [Act.put, List.getElem_toArray, List.getElem_cons_succ, List.getElem_cons_zero, List.setIfInBounds_toArray, List.set_cons_zero, List.set_cons_succ]
  refine wpAnyH_take (i := 5) (v := .pointer (some ⟨g1, 99, none⟩)) rfl (by kernel_rfl) (by kernel_rfl) (by kernel_rfl) (fun _ _ _ h => h) (Or.inl ⟨by rfl, fun wx hx => by simp [go_sem]⟩) hS ?_
  simp only [Act.put, List.getElem_toArray, List.getElem_cons_succ, List.getElem_cons_zero, List.setIfInBounds_toArray, List.set_cons_zero, List.set_cons_succ]
  refine wpAnyH_take (i := 6) (v := .agg csb.toArray) rfl (by kernel_rfl) (by kernel_rfl) (by kernel_rfl) (fun _ _ _ h => h) (Or.inl ⟨by rfl, fun wx hx => by exact load_run 30 _ rfl g1 99 rfl csb _ (HRG.out _ _ (HG1.out.below hx HGG.out)).2 Tryd.underlying30 rfl HIS.out.2⟩) hS ?_
  simp only [Act.put, List.getElem_toArray, List.getElem_cons_succ, List.getElem_cons_zero, List.setIfInBounds_toArray, List.set_cons_zero, List.set_cons_succ]
  have hb := below_alloc y0 (.cells (csa ++ csb).toArray 30)
  have hba : Blk (y0.alloc (.cells (csa ++ csb).toArray 30)) y0.heap.size (csa ++ csb) 30 := Blk.new _ _ _
  have hlt4 : g4 < y0.heap.size := HR.out.lt
  replace hS : Below g4 y0 (y0.alloc (.cells (csa ++ csb).toArray 30)) := Below.mono hb (Nat.le_of_lt hlt4)
  refine wpAnyH_step 7 (.slice (some ⟨y0.heap.size, 0, none⟩) 2 2) (y0.alloc (.cells (csa ++ csb).toArray 30)) (by kernel_rfl) rfl (by rfl) (build_sg2 _ _ _ _ rfl csa csb HLL.out.1 HLL.out.2 rfl rfl _) hS ?_
  simp only [Act.put, List.getElem_toArray, List.getElem_cons_succ, List.getElem_cons_zero, List.setIfInBounds_toArray, List.set_cons_zero, List.set_cons_succ]
  replace HR : Hid (RowS (y0.alloc (.cells (csa ++ csb).toArray 30)) g4 (T ++ zeroL 2)) := HR.out.below hb
  have HBZ : Hid (Below w.heap.size w (y0.alloc (.cells (csa ++ csb).toArray 30))) := HBW.out.trans (hb.mono HBW.out.size)
  clear hb
  generalize y0.alloc (.cells (csa ++ csb).toArray 30) = z1 at *
  obtain ⟨gb, HGB⟩ : ∃ z, Hid (z = y0.heap.size) := ⟨_, rfl⟩
  rw [← HGB.out] at hba ⊢
  clear HGB
  refine wpAnyH_copyK 8 (.tmp 16) (.tmp 21) g4 nt 2 2 ⟨gb, 0, none⟩ 2 2 (T ++ zeroL 2) [(e.2.1, .slice ada na ca), (e.2.2, .slice adb nb cc)] HR.out HOK2.out HON2.out (by rw [List.length_append, HTL.out, len_zeroL]) rfl (fun j v hj => by rw [Addr.add_mid, Nat.zero_add, hba.cell, ← HFL.out]; exact hj) (by kernel_rfl) rfl (by rfl) rfl rfl rfl ?_
  intro z2 hrow hon
  replace hS : Below g4 y0 z2 := Below.trans hS (hon.below (Nat.le_refl _) (Nat.le_trans (Nat.le_of_lt hlt4) (Below.size hS)))
  refine ⟨hS, ?_⟩
  simp only [Act.put]
  refine wpAnyH_done (by kernel_rfl) ?_ _
  have HRE : Hid (ReadsS z2 (.slice (some ⟨g4, 0, none⟩) (nt + 2) (nt + 2)) (allE e)) := by
    have hbw2 : Below w.heap.size w z2 := HBZ.out.trans (hon.below (by have h1 := HGW.out; have h2 := HGG.out; omega) HBZ.out.size)
    have el : (T ++ zeroL 2).take nt ++ [(e.2.1, Value.slice ada na ca), (e.2.2, .slice adb nb cc)] ++ (T ++ zeroL 2).drop (nt + [(e.2.1, Value.slice ada na ca), (e.2.2, Value.slice adb nb cc)].length) = T ++ [(e.2.1, Value.slice ada na ca), (e.2.2, .slice adb nb cc)] := by
      rw [← HTL.out, List.take_left, List.drop_eq_nil_of_le (by rw [List.length_append, len_zeroL]; exact Nat.le_refl _), List.append_nil]
    rw [el] at hrow
    have hl2 : (T ++ [(e.2.1, Value.slice ada na ca), (e.2.2, .slice adb nb cc)]).length = nt + 2 := by rw [List.length_append, HTL.out]; rfl
    have h := hrow.readsS (nt + 2) (by rw [hl2]; exact Nat.le_refl _) (nt + 2) (Nat.le_refl _) (fun p hp => by
      have hp := List.mem_of_mem_take hp
      rcases List.mem_append.1 hp with hp | hp
      · exact (HTR.out p hp).below hbw2
      · rcases List.mem_cons.1 hp with rfl | hp
        · exact HEV.out.a.below hbw2
        · rw [List.mem_singleton.1 hp]; exact HEV.out.b.below hbw2)
    rw [List.take_of_length_le (by rw [hl2]; exact Nat.le_refl _), List.map_append, HTM.out] at h
    exact h
  have HBF : Hid (Below w.heap.size w z2) := HBZ.out.trans (hon.below (by have h1 := HGW.out; have h2 := HGG.out; omega) HBZ.out.size)
  clear hrow hon hba
  go_wp2
  go_ret
  exact ⟨_, rfl, HRE.out, HBF.out⟩
/-- where the texts of the first k roots stand -/
structure BtI (w : World) (g n : Nat) (v : Value) (l : List SgT) (us : List Value) (k : Nat) (W : World) : Prop where
  tx : RowT W g n us ((l.take k).map encS)
  rd : ReadsS W v l
  bel : Below w.heap.size w W
set_option maxRecDepth 100000 in
set_option maxHeartbeats 8000000 in
theorem fkBytes_any (e : EvT) (cs : List Value) (w : World) (hE : EvB w e cs) (h64 : e.1.length ≤ 64) (hsz : ∀ s ∈ allE e, s.2.length ≤ 1048576) :
    Calls Tryd.prog 18 #[.agg cs.toArray] w fun r w' => ∃ v, r = .returned v ∧ Reads w' v (bytesF e) ∧ Below w.heap.size w w' := by
  have HOK : Hid (EvOk e cs) := hE.ok
  obtain ⟨l, HL⟩ : ∃ l, Hid (l = allE e) := ⟨_, rfl⟩
  obtain ⟨n, HN⟩ : ∃ n, Hid (n = l.length) := ⟨_, rfl⟩
  have HN64 : Hid (n ≤ 66) := by show _ ≤ _; rw [HN.out, HL.out, len_allE]; omega
  have HSZ : Hid (∀ s ∈ l, s.2.length ≤ 1048576) := by rw [HL.out]; exact hsz
  have HCJ : Hid (∀ W : World, Below w.heap.size w W → Calls Tryd.prog 38 #[.agg cs.toArray] W fun r w' => ∃ v, r = .returned v ∧ ReadsS w' v l ∧ Below W.heap.size W w') := fun W hh => by rw [HL.out]; exact fkJoined_any e cs W (hE.below hh) h64
  have HCS : Hid (∀ (W : World) (s : SgT) (vs : Value), okS s → s.2.length ≤ 1048576 → Reads W vs s.2 → Calls Tryd.prog 39 #[.agg (sgC s vs).toArray] W fun r w' => ∃ v', r = .returned v' ∧ OwnB w' W.heap.size v' (encS s) ∧ Below W.heap.size W w') := fun W s vs os hl hr => signed_own s vs W os hr hl
  have HBW : Hid (Below w.heap.size w w) := Below.refl _ _
  have HBB : Hid (bytesF e = encList encText (l.map encS)) := by show _ = _; rw [HL.out]; rfl
  rw [HBB.out]
  clear h64 hE hsz HBB HL
  go_enter Tryd.func18, Tryd.ntmps18
  have tk0 : Hid True := trivial
  have tk1 : Hid True := trivial
  have tk2 : Hid True := trivial
  have tk3 : Hid True := trivial
  go_wp2_with (first
    | (clear tk0; with_reducible refine wpSeq_boxW 32 (.tmp 0) cs ?_ ?_ ?_ ?_
       · rfl
       · rfl
       · rfl
       intro g1 y1 nn
       have HG1 : Hid (Blk y1 g1 cs 32) := nn.blk
       replace HBW : Hid (Below w.heap.size w y1) := nn.below
       clear nn)
    | (clear tk1; with_reducible refine wpSeq_loadW 32 (.tmp 1) g1 0 cs _ ?_ Tryd.underlying32 rfl ?_ ?_ ?_ ?_ ?_
       · exact HG1.out.range
       · exact HOK.out.info
       · rfl
       · rfl
       · rfl)
    | (clear tk2; go_at_call 38; refine (HCJ.out y1 HBW.out).mono ?_; rintro e0 y2 ⟨v, rfl, hrs, hbz⟩
       obtain ⟨ad, cp, hv⟩ := hrs.form
       rw [← HN.out] at hv
       subst hv
       have HRS : Hid (ReadsS y2 (.slice ad n cp) l) := hrs
       replace HBW : Hid (Below w.heap.size w y2) := HBW.out.trans (hbz.mono HBW.out.size)
       clear hrs hbz)
    | (clear tk3; with_reducible refine wpSeq_makeT (.tmp 10) (.tmp 10) n (Nat.le_trans HN64.out (by decide)) ?_ ?_ ?_ ?_ ?_
       · rfl
       · rfl
       · rfl
       · rfl
       intro g4 y3 hge hrow hbz
       have HI0 : Hid (BtI y2 g4 n (.slice ad n cp) l [] 0 y3) := ⟨hrow, HRS.out.below hbz, hbz⟩
       have HG4 : Hid (y2.heap.size ≤ g4) := hge
       clear hge hrow hbz))
  go_loopw [14] (fun i wr => ∃ (k : Nat) (us : List Value), k ≤ n ∧ i = .int .i64 (k : Int) ∧ Hid (BtI y2 g4 n (.slice ad n cp) l us k wr)) (fun i _ => n - (intOf i).toNat)
  case atStart => exact ⟨0, [], by omega, rfl, HI0⟩
  case round =>
    obtain ⟨k, us, hkn, rfl, HI⟩ := hrel
    clear HI0
    by_cases hlt : k < n
    · have hlk : (k : Int) < (n : Int) := by omega
      have k0 : (0 : Int) ≤ (k : Int) := by omega
      have f5 : IntKind.i64.wrap ((k : Int) + 1) = (k : Int) + 1 := by rw [IntKind.wrap_i64]; have := HN64.out; omega
      have HLT : Hid (k < l.length) := by show _ < _; rw [← HN.out]; exact hlt
      obtain ⟨b, off, cap', hv2, hat⟩ := HRS.out.at (Nat.lt_of_le_of_lt (Nat.zero_le _) HLT.out)
      simp only [Value.slice.injEq] at hv2
      obtain ⟨rfl, hnl, rfl⟩ := hv2
      clear hnl
      obtain ⟨vs, hsa, hrs⟩ := hat k HLT.out
      obtain ⟨s, HS⟩ : ∃ s, Hid (s = l.getD k zeroS) := ⟨_, rfl⟩
      rw [← HS.out] at hsa hrs
      obtain ⟨a3, n3, c3, hv3⟩ := hrs.form
      subst hv3
      obtain ⟨csk, HCK⟩ : ∃ c, Hid (c = sgC s (.slice a3 n3 c3)) := ⟨_, rfl⟩
      have HOS : Hid (okS s) := hsa.ok
      have HRK : Hid (wr.rangeAt b (off + k * 98) csk) := by rw [HCK.out]; exact (hsa.below HI.out.bel (Nat.le_refl _)).all
      have HIK : Hid ((Tryd.prog.info? 30).map (·.size) = some csk.length) := by show _ = _; rw [HCK.out]; exact info_sgC hsa.ok _
      have HLK : Hid (csk.length = (sgC zeroS (.slice none 0 0)).length) := by show _ = _; rw [HCK.out, len_sgC hsa.ok, len_sgC okS_zero]
      have HOC : Hid (∀ v ∈ csk, v.oneCell' = true) := by rw [HCK.out]; exact sgC_one _ _ _ _
      have HCC : Hid (∀ W : World, Below wr.heap.size wr W → Calls Tryd.prog 39 #[.agg csk.toArray] W fun r w' => ∃ v', r = .returned v' ∧ OwnB w' W.heap.size v' (encS s) ∧ Below W.heap.size W w') := fun W hh => by rw [HCK.out]; exact HCS.out W s _ HOS.out (HSZ.out s (by rw [HS.out, List.getD_eq_getElem?_getD, List.getElem?_eq_getElem HLT.out]; exact List.getElem_mem HLT.out)) ((hrs.below HI.out.bel).below hh)
      have HTK : Hid ((l.take (k + 1)).map encS = (l.take k).map encS ++ [encS s]) := by show _ = _; rw [take_more HLT.out, List.map_append, HS.out]; rfl
      have HUL : Hid (us.length = k) := by show _ = _; rw [HI.out.tx.len, List.length_map, List.length_take]; have := HLT.out; omega
      clear hat hsa hrs
      have tk1 : Hid True := trivial
      have tk2 : Hid True := trivial
      have tk3 : Hid True := trivial
      have tk4 : Hid True := trivial
      have tk5 : Hid True := trivial
      have tk6 : Hid True := trivial
      go_wp2_with (first
        | (clear tk1; with_reducible refine wpSeq_loadW 30 (.tmp 17) b (off + k * 98) csk _ ?_ Tryd.underlying30 rfl ?_ ?_ ?_ ?_ ?_
           · exact HRK.out
           · exact HIK.out
           · rfl
           · rfl
           · rfl)
        | (clear tk2; with_reducible refine wpSeq_allocS ?_ ?_ ?_
           · rfl
           · rfl
           intro g6 y4 nn)
        | (clear tk3; with_reducible refine wpSeq_storeRow 30 (.tmp 6) (.tmp 18) g6 (sgC zeroS (.slice none 0 0)) csk ?_ ?_ ?_ ?_ ?_ ?_ ?_ ?_ ?_
           · exact nn.blk
           · exact HLK.out
           · exact HIK.out
           · exact HOC.out
           · rfl
           · rfl
           · rfl
           · rfl
           intro y5 hs
           have hbz := nn.below.trans (hs.only.below nn.ge nn.below.size)
           have H6 : Hid (Blk y5 g6 csk 30) := hs.blk
           have HB5 : Hid (Below wr.heap.size wr y5) := hbz
           clear nn hs hbz)
        | (clear tk4; with_reducible refine wpSeq_loadW 30 (.tmp 6) g6 0 csk _ ?_ Tryd.underlying30 rfl ?_ ?_ ?_ ?_ ?_
           · exact H6.out.range
           · exact HIK.out
           · rfl
           · rfl
           · rfl)
        | (clear tk5; go_at_call 39; refine (HCC.out y5 HB5.out).mono ?_; rintro e0 y6 ⟨v0, rfl, hu0, hbz⟩
           obtain ⟨au, nu, cu, hv0⟩ := hu0.reads.form
           subst hv0
           have HB6 : Hid (Below wr.heap.size wr y6) := HB5.out.trans (hbz.mono HB5.out.size)
           have HU : Hid (OwnB y6 (g4 + 1) (.slice au nu cu) (encS s)) := hu0.mono (Nat.le_trans HI.out.tx.lt HB5.out.size)
           have HT6 : Hid (RowT y6 g4 n us ((l.take k).map encS)) := HI.out.tx.next HB6.out
           clear hu0 hbz)
        | (clear tk6; with_reducible refine wpSeq_storeT (.tmp 23) (.tmp 22) g4 k (us ++ nilL (n - us.length)) au nu cu ?_ HT6.out.blk ?_ ?_ ?_ ?_ ?_
           · rw [List.length_append, len_nilL, HUL.out]; omega
           · rfl
           · first | rfl | (simp [Act.eval]; done)
           · rfl
           · rfl
           intro y7 hy7
           have HI7 : Hid (BtI y2 g4 n (.slice (some ⟨b, off, none⟩) n cp) l (us ++ [.slice au nu cu]) (k + 1) y7) := by
             have ho : Only g4 y6 y7 := by rw [hy7]; exact Only.setCell (Only.refl _ _) _ _
             have hb7 : Below y2.heap.size y2 y7 := (HI.out.bel.trans (HB6.out.mono HI.out.bel.size)).trans (ho.below HG4.out (Nat.le_trans HI.out.bel.size HB6.out.size))
             refine ⟨?_, HRS.out.below hb7, hb7⟩
             rw [HTK.out, hy7]
             exact HT6.out.put HUL.out hlt HU.out
           clear hy7))
      go_roundw
      case rel => exact ⟨k + 1, _, by omega, by simp, HI7⟩
      case measure => simp [intOf]; omega
    · have hlk : ¬ ((k : Int) < (n : Int)) := by omega
      obtain rfl : k = n := by omega
      have HRL : Hid (ReadsL wr (.slice (some ⟨g4, 0, none⟩) k k) (l.map encS)) := by
        have h := HI.out.tx
        rw [List.take_of_length_le (by rw [← HN.out]; omega)] at h
        exact h.readsL (by rw [List.length_map, ← HN.out])
      have HFB : Hid ((l.map encS).flatten.length + 10 * (l.map encS).length + 40 ≤ 140737488355328) := by
        have h := flatE_le l (fun s hs => ⟨HRS.out.2 s hs, HSZ.out s hs⟩)
        have h1 := HN64.out
        rw [← HN.out] at h
        rw [List.length_map, ← HN.out]
        have h2 : k * 1048692 ≤ 66 * 1048692 := Nat.mul_le_mul_right _ h1
        show _ ≤ _
        omega
      have tk9 : Hid True := trivial
      go_wp2_with (first
        | (clear tk9; go_at_call 40; refine (ctexts_any _ (l.map encS) wr HRL.out HFB.out).mono ?_
           rintro e0 y6 ⟨v9, rfl, ho9, hb9⟩))
      go_ret
      exact ⟨v9, rfl, ho9.reads, (HBW.out.trans (HI.out.bel.mono HBW.out.size)).trans (hb9.mono (HBW.out.trans (HI.out.bel.mono HBW.out.size)).size)⟩
end Go.Proofs.YtableajopaappaaDoor
/- The walks of fork's parted, Read and Accept (layer 12). -/
namespace Go.Proofs.YtableajopaappaaDoor
open Go.RowKit Go.Shelf
set_option maxRecDepth 100000
set_option maxRecDepth 100000 in
set_option maxHeartbeats 8000000 in
theorem fkParted_any (g6 n kk : Nat) (L : List (SgT × Value)) (w : World) (hr : RowS w g6 L) (hn : L.length = n) (hk : n = kk + 2) (h65 : n ≤ 65) (hv : ∀ p ∈ L, ∃ a n c, p.2 = .slice a n c) :
    Calls Tryd.prog 34 #[.slice (some ⟨g6, 0, none⟩) n n] w fun r w' => ∃ g4, w.heap.size ≤ g4 ∧ r = .returned (.agg (evC (evL (L.map (·.1))) (.slice (some ⟨g4, 0, none⟩) kk kk) (L.getD kk zeroP).2 (L.getD (kk + 1) zeroP).2).toArray) ∧ RowS w' g4 (L.take kk) ∧ Below w.heap.size w w' := by
  have HKN : Hid (kk < n ∧ kk + 1 < n) := ⟨by omega, by omega⟩
  have HN65 : Hid (n ≤ 65) := h65
  have HKE : Hid (n = kk + 2) := hk
  obtain ⟨ma, qa⟩ := getP_mem (L := L) (k := kk) (by omega)
  obtain ⟨mb, qb⟩ := getP_mem (L := L) (k := kk + 1) (by omega)
  have hs1 := hr.at qa
  have hs2 := hr.at qb
  obtain ⟨e, HE⟩ : ∃ e, Hid (e = evL (L.map (·.1))) := ⟨_, rfl⟩
  have HEL : Hid (e = ((L.take kk).map (·.1), (L.getD kk zeroP).1, (L.getD (kk + 1) zeroP).1)) := by show _ = _; rw [HE.out, evL_map L n hn, show n - 2 = kk by omega, show n - 1 = kk + 1 by omega]
  rw [← HE.out]
  obtain ⟨a1, n1, d1, hw1⟩ := hv _ ma
  obtain ⟨a2, n2, d2, hw2⟩ := hv _ mb
  have HO1 : Hid (∀ p ∈ L, p.2.oneCell' = true) := fun p hp => by obtain ⟨_, _, _, h⟩ := hv p hp; rw [h]; rfl
  have HOA : Hid (okS e.2.1 ∧ okS e.2.2) := by rw [HEL.out]; exact ⟨hs1.ok, hs2.ok⟩
  rw [hw1] at hs1 ⊢
  rw [hw2] at hs2 ⊢
  obtain ⟨cka, HCA⟩ : ∃ c, Hid (c = sgC (L.getD kk zeroP).1 (.slice a1 n1 d1)) := ⟨_, rfl⟩
  obtain ⟨ckb, HCB⟩ : ∃ c, Hid (c = sgC (L.getD (kk + 1) zeroP).1 (.slice a2 n2 d2)) := ⟨_, rfl⟩
  obtain ⟨cz, HCZ⟩ : ∃ c, Hid (c = evC zeroE (.slice none 0 0) (.slice none 0 0) (.slice none 0 0)) := ⟨_, rfl⟩
  have HIS : Hid ((Tryd.prog.info? 30).map (·.size) = some cka.length ∧ (Tryd.prog.info? 30).map (·.size) = some ckb.length) := by rw [HCA.out, HCB.out]; exact ⟨info_sgC hs1.ok _, info_sgC hs2.ok _⟩
  have HRG : Hid (∀ W : World, Below w.heap.size w W → W.rangeAt g6 (0 + kk * 98) cka ∧ W.rangeAt g6 (0 + (kk + 1) * 98) ckb) := fun W hh => by rw [HCA.out, HCB.out, Nat.zero_add, Nat.zero_add]; exact ⟨(hs1.below hh (Nat.le_refl _)).all, (hs2.below hh (Nat.le_refl _)).all⟩
  have HBE : Hid (∀ (g : Nat) (ps : List (Nat × Value)), ps = [(0, .slice (some ⟨g, 0, none⟩) kk kk), (1, .agg cka.toArray), (2, .agg ckb.toArray)] → Tryd.prog.built 32 ps = some (evC e (.slice (some ⟨g, 0, none⟩) kk kk) (.slice a1 n1 d1) (.slice a2 n2 d2)).toArray) := fun g ps hps => by subst hps; rw [HEL.out, HCA.out, HCB.out]; exact (built_evid _).trans (fill_ev (e := ((L.take kk).map (·.1), (L.getD kk zeroP).1, (L.getD (kk + 1) zeroP).1)) hs1.ok hs2.ok)
  have HLE : Hid (∀ g : Nat, (evC e (.slice (some ⟨g, 0, none⟩) kk kk) (.slice a1 n1 d1) (.slice a2 n2 d2)).length = cz.length) := fun g => by rw [HCZ.out, len_evC HOA.out.1 HOA.out.2, len_zeroE]
  have HIE : Hid (∀ g : Nat, (Tryd.prog.info? 32).map (·.size) = some (evC e (.slice (some ⟨g, 0, none⟩) kk kk) (.slice a1 n1 d1) (.slice a2 n2 d2)).length) := fun g => info_evC HOA.out.1 HOA.out.2 _ _ _
  have HOE : Hid (∀ g : Nat, ∀ v ∈ evC e (.slice (some ⟨g, 0, none⟩) kk kk) (.slice a1 n1 d1) (.slice a2 n2 d2), v.oneCell' = true) := fun g => evC_one _ rfl rfl rfl
  have HRR : Hid (RowS w g6 L) := hr
  have HNL : Hid (n = L.length) := hn.symm
  have f2 : IntKind.i64.wrap ((n : Int) - 2) = (kk : Int) := by rw [IntKind.wrap_i64]; have h1 := HKE.out; have h2 := HN65.out; omega
  have f3 : IntKind.i64.wrap ((kk : Int) + 1) = (kk : Int) + 1 := by rw [IntKind.wrap_i64]; have h1 := HKE.out; have h2 := HN65.out; omega
  have HBW : Hid (Below w.heap.size w w) := Below.refl _ _
  clear hr hk hn h65 hv ma mb qa qb hs1 hs2 hw1 hw2 HCA HCB HEL HE
  go_enter Tryd.func34, Tryd.ntmps34
  have tk0 : Hid True := trivial
  have tk1 : Hid True := trivial
  have tk2 : Hid True := trivial
  go_upto_region 4 with (first
    | (clear tk0; with_reducible refine wpSeq_allocE ?_ ?_ ?_
       · rfl
       · rfl
       intro g2 y1 nn
       have HG2 : Hid (w.heap.size ≤ g2) := nn.ge
       have H2 : Hid (Blk y1 g2 cz 32) := by rw [HCZ.out]; exact nn.blk
       replace HBW : Hid (Below w.heap.size w y1) := nn.below
       clear nn)
    | (clear tk1; with_reducible refine wpSeq_makeS (.tmp 8) (.tmp 8) kk ?_ ?_ ?_ ?_ ?_ ?_
       · have h1 := HKE.out; have h2 := HN65.out; omega
       · rfl
       · rfl
       · rfl
       · rfl
       intro g4 y2 hge hrow hbz
       have HR : Hid (RowS y2 g4 (zeroL kk)) := hrow
       have HGG : Hid (g2 < g4 ∧ w.heap.size ≤ g4) := ⟨Nat.lt_of_lt_of_le H2.out.lt hge, Nat.le_trans HBW.out.size hge⟩
       replace H2 : Hid (Blk y2 g2 cz 32) := H2.out.below hbz H2.out.lt
       replace HBW : Hid (Below w.heap.size w y2) := HBW.out.trans (hbz.mono HBW.out.size)
       clear hge hrow hbz)
    | (clear tk2; with_reducible refine wpSeq_copyR (.tmp 10) (.tmp 11) g4 g6 kk n kk n kk (zeroL kk) L HR.out (HRR.out.below HBW.out) HO1.out (len_zeroL _).symm HNL.out (Nat.min_eq_right (Nat.le_of_lt HKN.out.1)) ?_ ?_ ?_ ?_ ?_
       · rfl
       · rfl
       · rfl
       · rfl
       intro y3 hrow hon
       replace HR : Hid (RowS y3 g4 (L.take kk)) := by rw [zeroL_drop, Nat.sub_self] at hrow; exact (List.append_nil (L.take kk)) ▸ hrow
       replace H2 : Hid (Blk y3 g2 cz 32) := H2.out.only hon (by have := HGG.out.1; omega)
       replace HBW : Hid (Below w.heap.size w y3) := HBW.out.trans (hon.below HGG.out.2 HBW.out.size)
       clear hrow hon))
  refine wp_region_held_drew (S := Below g2 (World.drew y3)) (by kernel_rfl) (Below.refl _ _) ?_
  intro hS
  replace H2 : Hid (Blk (World.drew y3) g2 cz 32) := H2.out.drew
  replace HR : Hid (RowS (World.drew y3) g4 (L.take kk)) := HR.out.drew
  replace HBW : Hid (Below w.heap.size w (World.drew y3)) := HBW.out.drew
  change wpAnyH _ _ _ _ _ _ _ _ (World.drew y3)
  generalize World.drew y3 = y0 at *
  try simp only [Act.put, List.setIfInBounds_toArray, List.set_cons_zero, List.set_cons_succ]
  refine wpAnyH_take (i := 0) (v := .slice (some ⟨g4, 0, none⟩) kk kk) rfl (by kernel_rfl) (by kernel_rfl) (by kernel_rfl) (fun _ _ _ h => h) (Or.inl ⟨by rfl, fun wx hx => by simp [go_sem]⟩) hS ?_
  simp only [Act.put, List.getElem_toArray, List.getElem_cons_zero, List.setIfInBounds_toArray, List.set_cons_zero, List.set_cons_succ]
  refine wpAnyH_take (i := 1) (v := .slice (some ⟨g6, 0, none⟩) n n) rfl (by kernel_rfl) (by kernel_rfl) (by kernel_rfl) (fun _ _ _ h => h) (Or.inl ⟨by rfl, fun wx hx => by simp [go_sem]⟩) hS ?_
  simp only [Act.put, List.getElem_toArray, List.getElem_cons_succ, List.getElem_cons_zero, List.setIfInBounds_toArray, List.set_cons_zero, List.set_cons_succ]
  refine wpAnyH_take (i := 2) (v := .int .i64 (kk : Int)) rfl (by kernel_rfl) (by kernel_rfl) (by kernel_rfl) (fun _ _ _ h => h) (Or.inl ⟨by rfl, fun wx hx => by simp [go_sem]⟩) hS ?_
  simp only [Act.put, List.getElem_toArray, List.getElem_cons_succ, List.getElem_cons_zero, List.setIfInBounds_toArray, List.set_cons_zero, List.set_cons_succ]
  refine wpAnyH_take (i := 3) (v := .pointer (some ⟨g6, 0 + kk * 98, none⟩)) rfl (by kernel_rfl) (by kernel_rfl) (by kernel_rfl) (fun _ _ _ h => h) (Or.inl ⟨by rfl, fun wx hx => by exact idx98 g6 0 n n kk HKN.out.1 _ _ _ _ rfl rfl rfl _⟩) hS ?_
  simp only [Act.put, List.getElem_toArray, List.getElem_cons_succ, List.getElem_cons_zero, List.setIfInBounds_toArray, List.set_cons_zero, List.set_cons_succ]
  refine wpAnyH_take (i := 4) (v := .agg cka.toArray) rfl (by kernel_rfl) (by kernel_rfl) (by kernel_rfl) (fun _ _ _ h => h) (Or.inl ⟨by rfl, fun wx hx => by exact load_run 30 _ rfl g6 (0 + kk * 98) rfl cka _ (HRG.out _ (HBW.out.trans (Below.mono hx HG2.out))).1 Tryd.underlying30 rfl HIS.out.1⟩) hS ?_
  simp only [Act.put, List.getElem_toArray, List.getElem_cons_succ, List.getElem_cons_zero, List.setIfInBounds_toArray, List.set_cons_zero, List.set_cons_succ]
  refine wpAnyH_take (i := 5) (v := .slice (some ⟨g6, 0, none⟩) n n) rfl (by kernel_rfl) (by kernel_rfl) (by kernel_rfl) (fun _ _ _ h => h) (Or.inl ⟨by rfl, fun wx hx => by simp [go_sem]⟩) hS ?_
  simp only [Act.put, List.getElem_toArray, List.getElem_cons_succ, List.getElem_cons_zero, List.setIfInBounds_toArray, List.set_cons_zero, List.set_cons_succ]
  refine wpAnyH_take (i := 6) (v := .int .i64 (kk : Int)) rfl (by kernel_rfl) (by kernel_rfl) (by kernel_rfl) (fun _ _ _ h => h) (Or.inl ⟨by rfl, fun wx hx => by simp [go_sem]⟩) hS ?_
  simp only [Act.put, List.getElem_toArray, List.getElem_cons_succ, List.getElem_cons_zero, List.setIfInBounds_toArray, List.set_cons_zero, List.set_cons_succ]
  refine wpAnyH_take (i := 7) (v := .int .i64 ((kk + 1 : Nat) : Int)) rfl (by kernel_rfl) (by kernel_rfl) (by kernel_rfl) (fun _ _ _ h => h) (Or.inl ⟨by rfl, fun wx hx => by simp [go_sem, f3]⟩) hS ?_
  simp only [Act.put, List.getElem_toArray, List.getElem_cons_succ, List.getElem_cons_zero, List.setIfInBounds_toArray, List.set_cons_zero, List.set_cons_succ]
  refine wpAnyH_take (i := 8) (v := .pointer (some ⟨g6, 0 + (kk + 1) * 98, none⟩)) rfl (by kernel_rfl) (by kernel_rfl) (by kernel_rfl) (fun _ _ _ h => h) (Or.inl ⟨by rfl, fun wx hx => by exact idx98 g6 0 n n (kk + 1) HKN.out.2 _ _ _ _ rfl rfl rfl _⟩) hS ?_
  simp only [Act.put, List.getElem_toArray, List.getElem_cons_succ, List.getElem_cons_zero, List.setIfInBounds_toArray, List.set_cons_zero, List.set_cons_succ]
  refine wpAnyH_take (i := 9) (v := .agg ckb.toArray) rfl (by kernel_rfl) (by kernel_rfl) (by kernel_rfl) (fun _ _ _ h => h) (Or.inl ⟨by rfl, fun wx hx => by exact load_run 30 _ rfl g6 (0 + (kk + 1) * 98) rfl ckb _ (HRG.out _ (HBW.out.trans (Below.mono hx HG2.out))).2 Tryd.underlying30 rfl HIS.out.2⟩) hS ?_
  simp only [Act.put, List.getElem_toArray, List.getElem_cons_succ, List.getElem_cons_zero, List.setIfInBounds_toArray, List.set_cons_zero, List.set_cons_succ]
  refine wpAnyH_take (i := 10) (v := .agg (evC e (.slice (some ⟨g4, 0, none⟩) kk kk) (.slice a1 n1 d1) (.slice a2 n2 d2)).toArray) rfl (by kernel_rfl) (by kernel_rfl) (by kernel_rfl) (fun _ _ _ h => h) (Or.inl ⟨by rfl, fun wx hx => by refine build_op _ _ 32 [(0, .tmp 13), (1, .tmp 17), (2, .tmp 22)] rfl _ ?_ _; exact HBE.out g4 _ rfl⟩) hS ?_
  simp only [Act.put, List.getElem_toArray, List.getElem_cons_succ, List.getElem_cons_zero, List.setIfInBounds_toArray, List.set_cons_zero, List.set_cons_succ]
  refine wpAnyH_storeRow 11 32 (.tmp 2) (.tmp 23) g2 cz (evC e (.slice (some ⟨g4, 0, none⟩) kk kk) (.slice a1 n1 d1) (.slice a2 n2 d2)) H2.out (HLE.out g4) (HIE.out g4) (HOE.out g4) (by kernel_rfl) rfl (by rfl) rfl rfl rfl ?_
  intro yE hs
  replace hS : Below g2 y0 yE := Below.trans hS (hs.only.below (Nat.le_refl _) (Nat.le_of_lt H2.out.lt))
  refine ⟨hS, ?_⟩
  simp only [Act.put, List.getElem_toArray, List.getElem_cons_succ, List.getElem_cons_zero]
  refine wpAnyH_done (by kernel_rfl) ?_ _
  have HBE2 : Hid (Below w.heap.size w yE) := HBW.out.trans (hs.only.below HG2.out HBW.out.size)
  have HRE : Hid (RowS yE g4 (L.take kk)) := HR.out.only hs.only (by have := HGG.out.1; omega)
  have HBK : Hid (Blk yE g2 (evC e (.slice (some ⟨g4, 0, none⟩) kk kk) (.slice a1 n1 d1) (.slice a2 n2 d2)) 32) := hs.blk
  clear hs
  go_wp2
  exact bodyPost_ret (v := .agg (evC e (.slice (some ⟨g4, 0, none⟩) kk kk) (.slice a1 n1 d1) (.slice a2 n2 d2)).toArray) (results_cell_row (by rfl) _ _ g2 32 _ (0, 0) _ rfl HBK.out Tryd.underlying32 rfl (by rw [List.size_toArray]; exact HIE.out g4)) rfl ⟨g4, HGG.out.2, rfl, HRE.out, HBE2.out⟩
set_option maxRecDepth 100000 in
set_option maxHeartbeats 8000000 in
theorem fkRead_own (v : Value) (b : Bs) (w : World) (hb : Reads w v b) :
    Calls Tryd.prog 13 #[v] w fun r w' => ∃ cs, r = .returned (.tuple #[.agg (cs : List Value).toArray, .int .i64 (readX b)]) ∧ EvF w w' (readE b) cs ∧ Below w.heap.size w w' := by
  obtain ⟨ts, HTS⟩ : ∃ t, Hid (t = (readList readText b).getD []) := ⟨_, rfl⟩
  obtain ⟨er, HER⟩ : ∃ t, Hid (t = errOf (readList readText b)) := ⟨_, rfl⟩
  obtain ⟨cz, HCZ⟩ : ∃ c, Hid (c = evC zeroE (.slice none 0 0) (.slice none 0 0) (.slice none 0 0)) := ⟨_, rfl⟩
  obtain ⟨n, HN⟩ : ∃ n, Hid (n = ts.length) := ⟨_, rfl⟩
  have HOZ : Hid (EvOk zeroE cz) := by rw [HCZ.out]; exact (EvB.zero w).ok
  have HC1 : Hid (∀ W : World, Below w.heap.size w W → Calls Tryd.prog 32 #[v] W fun r w' => ∃ u, r = .returned (.tuple #[u, .int .i64 er]) ∧ ReadsL w' u ts ∧ Below W.heap.size W w') := fun W hh => by rw [HTS.out, HER.out]; exact (creadT_any v b W (hb.below hh)).mono fun e w' h => h.t
  have HBAD : Hid ((er ≠ 0 ∨ n < 2 ∨ 65 < n ∨ readSs ts = none) → readF b = none) := by rw [HER.out, HN.out, HTS.out]; exact readF_bad
  have HGOOD : Hid (er = 0 → 2 ≤ n → n ≤ 65 → ∀ l, readSs ts = some l → readF b = some (evL l)) := by rw [HER.out, HN.out, HTS.out]; exact fun h0 h2 h65 l hl => readF_good h0 h2 h65 hl
  have HBW : Hid (Below w.heap.size w w) := Below.refl _ _
  clear hb HTS HER
  go_enter Tryd.func13, Tryd.ntmps13
  have tk0 : Hid True := trivial
  have tk1 : Hid True := trivial
  go_upto_region 2 with (first
    | (clear tk0; with_reducible refine wpSeq_allocE ?_ ?_ ?_
       · rfl
       · rfl
       intro g2 y1 nn
       have HG2 : Hid (w.heap.size ≤ g2) := nn.ge
       have H2 : Hid (Blk y1 g2 cz 32) := by rw [HCZ.out]; exact nn.blk
       replace HBW : Hid (Below w.heap.size w y1) := nn.below
       clear nn)
    | (clear tk1; go_at_call 32; refine (HC1.out y1 HBW.out).mono ?_; rintro e0 y2 ⟨u, rfl, hrl, hbz⟩
       replace H2 : Hid (Blk y2 g2 cz 32) := H2.out.below hbz H2.out.lt
       replace HBW : Hid (Below w.heap.size w y2) := HBW.out.trans (hbz.mono HBW.out.size)
       obtain ⟨ad, cp, hu, hq⟩ := id hrl
       clear hq
       rw [← HN.out] at hu
       subst hu
       have HRL : Hid (ReadsL y2 (.slice ad n cp) ts) := hrl
       clear hbz hrl))
  by_cases her : er = 0
  case neg =>
    have HF0 : Hid (readF b = none) := HBAD.out (Or.inl her)
    have HX3 : Hid (readX b = 3) := by show _ = _; rw [readX, HF0.out]; rfl
    have HE0 : Hid (readE b = zeroE) := by show _ = _; rw [readE, HF0.out]; rfl
    have qe : (er == 0) = false := by rw [beq_eq_false_iff_ne]; exact her
    have pe : (er != 0) = true := by rw [bne, qe]; rfl
    clear her
    have tk20 : Hid True := trivial
    have tk21 : Hid True := trivial
    go_wp2_with (first
      | (clear tk20; with_reducible refine wpSeq_build 32 [] cz ?_ ?_ ?_ ?_
         · exact (built_evid []).trans (by rw [HCZ.out]; rfl)
         · rfl
         · rfl)
      | (clear tk21; with_reducible refine wpSeq_storeRow 32 (.tmp 2) (.tmp 26) g2 cz cz ?_ ?_ ?_ ?_ ?_ ?_ ?_ ?_ ?_
         · exact H2.out
         · rfl
         · exact HOZ.out.info
         · exact HOZ.out.one
         · rfl
         · rfl
         · rfl
         · rfl
         intro y99 hs))
    exact bodyPost_ret (results_row_tmp (by rfl) _ _ g2 _ rfl (var_evB hs.blk HOZ.out)) rfl ⟨cz, by rw [HX3.out]; rfl, by rw [HE0.out, HCZ.out]; exact fun _ _ => EvB.zero _, HBW.out.trans (hs.only.below HG2.out HBW.out.size)⟩
  case pos =>
    have qe : (er == 0) = true := by rw [beq_iff_eq]; exact her
    have pe : (er != 0) = false := by rw [bne, qe]; rfl
    have HER0 : Hid (er = 0) := her
    clear her
    by_cases hn2 : n < 2
    · have hi2 : (n : Int) < 2 := by omega
      have HF0 : Hid (readF b = none) := HBAD.out (Or.inr (Or.inl hn2))
      have HX3 : Hid (readX b = 3) := by show _ = _; rw [readX, HF0.out]; rfl
      have HE0 : Hid (readE b = zeroE) := by show _ = _; rw [readE, HF0.out]; rfl
      have tk20 : Hid True := trivial
      have tk21 : Hid True := trivial
      go_wp2_with (first
        | (clear tk20; with_reducible refine wpSeq_build 32 [] cz ?_ ?_ ?_ ?_
           · exact (built_evid []).trans (by rw [HCZ.out]; rfl)
           · rfl
           · rfl)
        | (clear tk21; with_reducible refine wpSeq_storeRow 32 (.tmp 2) (.tmp 26) g2 cz cz ?_ ?_ ?_ ?_ ?_ ?_ ?_ ?_ ?_
           · exact H2.out
           · rfl
           · exact HOZ.out.info
           · exact HOZ.out.one
           · rfl
           · rfl
           · rfl
           · rfl
           intro y99 hs))
      exact bodyPost_ret (results_row_tmp (by rfl) _ _ g2 _ rfl (var_evB hs.blk HOZ.out)) rfl ⟨cz, by rw [HX3.out]; rfl, by rw [HE0.out, HCZ.out]; exact fun _ _ => EvB.zero _, HBW.out.trans (hs.only.below HG2.out HBW.out.size)⟩
    have hi2 : ¬ ((n : Int) < 2) := by omega
    by_cases hn65 : 65 < n
    · have hi65 : (65 : Int) < (n : Int) := by omega
      have HF0 : Hid (readF b = none) := HBAD.out (Or.inr (Or.inr (Or.inl hn65)))
      have HX3 : Hid (readX b = 3) := by show _ = _; rw [readX, HF0.out]; rfl
      have HE0 : Hid (readE b = zeroE) := by show _ = _; rw [readE, HF0.out]; rfl
      have tk20 : Hid True := trivial
      have tk21 : Hid True := trivial
      go_wp2_with (first
        | (clear tk20; with_reducible refine wpSeq_build 32 [] cz ?_ ?_ ?_ ?_
           · exact (built_evid []).trans (by rw [HCZ.out]; rfl)
           · rfl
           · rfl)
        | (clear tk21; with_reducible refine wpSeq_storeRow 32 (.tmp 2) (.tmp 26) g2 cz cz ?_ ?_ ?_ ?_ ?_ ?_ ?_ ?_ ?_
           · exact H2.out
           · rfl
           · exact HOZ.out.info
           · exact HOZ.out.one
           · rfl
           · rfl
           · rfl
           · rfl
           intro y99 hs))
      exact bodyPost_ret (results_row_tmp (by rfl) _ _ g2 _ rfl (var_evB hs.blk HOZ.out)) rfl ⟨cz, by rw [HX3.out]; rfl, by rw [HE0.out, HCZ.out]; exact fun _ _ => EvB.zero _, HBW.out.trans (hs.only.below HG2.out HBW.out.size)⟩
    have hi65 : ¬ ((65 : Int) < (n : Int)) := by omega
    have HN2 : Hid (2 ≤ n) := by show _ ≤ _; omega
    have HN65 : Hid (n ≤ 65) := by show _ ≤ _; omega
    clear hn2 hn65
    have tk30 : Hid True := trivial
    go_wp2_with (first
      | (clear tk30; with_reducible refine wpSeq_makeS (.tmp 28) (.tmp 28) n (Nat.le_trans HN65.out (by decide)) ?_ ?_ ?_ ?_ ?_
         · rfl
         · rfl
         · rfl
         · rfl
         intro g6 y3 hge hrow hbz
         have HI0 : Hid (RrI y2 g6 n [] [] y3) := ⟨hbz, by rw [List.nil_append]; exact hrow, (fun p hp => by cases hp), rfl, Nat.zero_le _, hge⟩
         clear hge hrow hbz))
    have HR20 : Hid (Blk y2 g2 cz 32) := H2.out
    have HBW2 : Hid (Below w.heap.size w y2) := HBW.out
    clear H2 HBW hi2 hi65 qe pe
    go_loopw [32, 5] (fun i ev wr => ∃ (k : Nat) (rs : List SgT) (L : List (SgT × Value)), k ≤ n ∧ i = .int .i64 (k : Int) ∧ ev = .int .i64 er ∧ Hid (readSs (ts.take k) = some rs) ∧ Hid (RrI y2 g6 n rs L wr)) (fun i _ _ => n - (intOf i).toNat)
    case atStart => exact ⟨0, [], [], by omega, rfl, rfl, rfl, HI0⟩
    case round =>
      obtain ⟨k, rs, L, hkn, rfl, rfl, HRS, HI⟩ := hrel
      clear HI0
      have HR2 : Hid (Blk wr g2 cz 32) := HR20.out.below HI.out.bel HR20.out.lt
      have HLR : Hid (rs.length = k) := by show _ = _; rw [readSs_len HRS.out, List.length_take, ← HN.out]; omega
      by_cases hlt : k < n
      case neg =>
        have hlk : ¬ ((k : Int) < (n : Int)) := by omega
        obtain rfl : k = n := by omega
        have HFS : Hid (readF b = some (evL rs)) := by
          have h := HRS.out
          rw [List.take_of_length_le (by rw [← HN.out]; omega)] at h
          exact HGOOD.out HER0.out HN2.out HN65.out rs h
        have HXE : Hid (readX b = 0) := by show _ = _; rw [readX, HFS.out]; rfl
        have HEE : Hid (readE b = evL rs) := by show _ = _; rw [readE, HFS.out]; rfl
        have HLN : Hid (L.length = k) := by show _ = _; rw [HI.out.len, HLR.out]
        obtain ⟨kk, HKK⟩ : ∃ j, Hid (j = k - 2) := ⟨_, rfl⟩
        have HKE : Hid (k = kk + 2) := by show _ = _; rw [HKK.out]; have := HN2.out; omega
        have HRW : Hid (RowS wr g6 L) := by
          have h := HI.out.row
          rw [HLN.out, Nat.sub_self] at h
          exact (List.append_nil L) ▸ h
        have HCP : Hid (Calls Tryd.prog 34 #[.slice (some ⟨g6, 0, none⟩) k k] wr fun r w' => ∃ g4 cs, cs = evC (evL rs) (.slice (some ⟨g4, 0, none⟩) kk kk) (L.getD kk zeroP).2 (L.getD (kk + 1) zeroP).2 ∧ wr.heap.size ≤ g4 ∧ r = .returned (.agg (cs : List Value).toArray) ∧ RowS w' g4 (L.take kk) ∧ Below wr.heap.size wr w') := (fkParted_any g6 k kk L wr HRW.out HLN.out HKE.out HN65.out (fun p hp => by obtain ⟨a, n, c, h⟩ := (HI.out.sg p hp).reads.form; exact ⟨a, n, c, h⟩)).mono fun e w' h => by
          obtain ⟨g4, h1, h2, h3, h4⟩ := h
          rw [HI.out.eq] at h2
          exact ⟨g4, _, rfl, h1, h2, h3, h4⟩
        have HB0 : Hid (Below w.heap.size w wr) := HBW2.out.trans (HI.out.bel.mono HBW2.out.size)
        have HEV : Hid (∀ (W : World) (g4 : Nat), (∀ {v : Value} {l : Bs}, OwnB wr (g6 + 1) v l → OwnB W (g6 + 1) v l) → RowS W g4 (L.take kk) → EvB W (evL rs) (evC (evL rs) (.slice (some ⟨g4, 0, none⟩) kk kk) (L.getD kk zeroP).2 (L.getD (kk + 1) zeroP).2)) := fun W g4 up hr => by
          have h := HI.out.ev HLR.out HN2.out (W' := W) (g4 := g4) up (by rw [show k - 2 = kk by rw [HKK.out]]; exact hr)
          rw [show k - 2 = kk by rw [HKK.out], show k - 1 = kk + 1 by have := HKE.out; omega] at h
          exact h
        have HG26 : Hid (g2 < y2.heap.size ∧ y2.heap.size ≤ g6 ∧ g6 < wr.heap.size) := ⟨HR20.out.lt, HI.out.ge, HI.out.row.lt⟩
        have tk60 : Hid True := trivial
        have tk61 : Hid True := trivial
        go_wp2_with (first
          | (clear tk60; go_at_call 34; refine (HCP.out).mono ?_; rintro e0 y8 ⟨g4, cs, hcs, hg4, rfl, hrow, hbz⟩
             have HE9 : Hid (∀ W : World, (∀ j, g6 < j → j < y8.heap.size → W.heap[j]? = y8.heap[j]?) → EvB W (evL rs) cs) := fun W hW => by
               rw [hcs]
               have hh := HG26.out
               refine HEV.out W g4 (fun {v l} hv => ?_) (hrow.same (hW g4 (by omega) hrow.lt))
               refine hv.same fun j hj => ?_
               have h1 := hv.own j hj
               have h2 := hv.lt j hj
               rw [hW j (by omega) (Nat.lt_of_lt_of_le h2 hbz.size), hbz.block j h2]
             have HEB : Hid (EvB y8 (evL rs) cs) := HE9.out y8 fun _ _ _ => rfl
             have HOE : Hid (EvOk (evL rs) cs) := HEB.out.ok
             replace HR2 : Hid (Blk y8 g2 cz 32) := HR2.out.below hbz HR2.out.lt
             have HB8 : Hid (Below wr.heap.size wr y8) := hbz
             clear hbz hrow hcs hg4)
          | (clear tk61; with_reducible refine wpSeq_storeRow 32 (.tmp 2) (.tmp 50) g2 cz cs ?_ ?_ ?_ ?_ ?_ ?_ ?_ ?_ ?_
             · exact HR2.out
             · rw [HCZ.out]; exact HOE.out.lz
             · exact HOE.out.info
             · exact HOE.out.one
             · rfl
             · rfl
             · rfl
             · rfl
             intro y99 hs))
        refine bodyPost_ret (results_row_tmp (by rfl) _ _ g2 _ rfl (var_evB hs.blk HOE.out)) rfl ⟨_, by rw [HXE.out]; rfl, ?_, ?_⟩
        · rw [HEE.out]
          intro W hW
          have hh := HG26.out
          have h0 := HB0.out.size
          have h8 : y8.heap.size ≤ y99.heap.size := hs.only.size
          have hw2 := HBW2.out.size
          exact HE9.out W fun j h1 h2 => by rw [hW j (by omega) (by omega), hs.only.block j (by omega) h2]
        · have hb8 := HB0.out.trans (HB8.out.mono HB0.out.size)
          exact hb8.trans (hs.only.below HG2.out hb8.size)
      case pos =>
        have hlk : (k : Int) < (n : Int) := by omega
        have k0 : (0 : Int) ≤ (k : Int) := by omega
        have f5 : IntKind.i64.wrap ((k : Int) + 1) = (k : Int) + 1 := by rw [IntKind.wrap_i64]; have := HN65.out; omega
        have HLT : Hid (k < ts.length) := by show _ < _; rw [← HN.out]; exact hlt
        obtain ⟨bb, off, rfl, hat⟩ := HRL.out.atL (Nat.lt_of_le_of_lt (Nat.zero_le _) HLT.out)
        obtain ⟨vj, hcj, hrj⟩ := hat k HLT.out
        obtain ⟨t, HT⟩ : ∃ t, Hid (t = ts.getD k []) := ⟨_, rfl⟩
        rw [← HT.out] at hrj
        obtain ⟨a3, n3, c3, hv3⟩ := hrj.form
        subst hv3
        have ckk : wr.cell? ⟨bb, off + k, none⟩ = some (.slice a3 n3 c3) := by rw [Below.cell HI.out.bel (block_lt_of_cell hcj)]; exact hcj
        have hres := crdSigned_any _ t wr (hrj.below HI.out.bel)
        clear hat hcj hrj
        cases hr : readS t with
        | none =>
          have HF0 : Hid (readF b = none) := HBAD.out (Or.inr (Or.inr (Or.inr (readSs_none (t := t) (by rw [HT.out]; exact mem_getD HLT.out) hr))))
          have HX3 : Hid (readX b = 3) := by show _ = _; rw [readX, HF0.out]; rfl
          have HE0 : Hid (readE b = zeroE) := by show _ = _; rw [readE, HF0.out]; rfl
          obtain ⟨s, HS⟩ : ∃ s, Hid (s = zeroS) := ⟨_, rfl⟩
          have HOS : Hid (okS s) := by rw [HS.out]; exact okS_zero
          have HCR : Hid (Calls Tryd.prog 33 #[.slice a3 n3 c3] wr fun e w' => ∃ aS nS cS, e = .returned (.tuple #[.agg (sgC s (.slice aS nS cS)).toArray, .int .i64 3]) ∧ OwnB w' wr.heap.size (.slice aS nS cS) s.2 ∧ Below wr.heap.size wr w') := hres.mono fun e w' h => by
            obtain ⟨aS, nS, cS, h1, h2, _, h4⟩ := h
            rw [rdX, rdS, hr] at h1
            rw [rdS, hr] at h2
            exact ⟨aS, nS, cS, by rw [HS.out]; exact h1, by rw [HS.out]; exact h2, h4⟩
          clear hres hr
          have tk40 : Hid True := trivial
          have tk41 : Hid True := trivial
          have tk43 : Hid True := trivial
          have tk44 : Hid True := trivial
          go_wp2_with (first
            | (clear tk40; go_at_call 33; refine (HCR.out).mono ?_; rintro e0 y71 ⟨aS, nS, cS, rfl, hov, hbz⟩
               clear ckk HCR
               replace HR2 : Hid (Blk y71 g2 cz 32) := HR2.out.below hbz HR2.out.lt
               have HOV : Hid (OwnB y71 (g6 + 1) (.slice aS nS cS) s.2) := hov.mono HI.out.row.lt
               replace HI : Hid (RrI y2 g6 n rs L y71) := HI.out.next hbz
               clear hbz hov)
            | (clear tk41; with_reducible refine wpSeq_storeRowS (.tmp 44) (.tmp 42) g6 k (L ++ zeroL (n - L.length)) s aS nS cS HI.out.row (by rw [HI.out.room]; exact hlt) HOS.out ?_ ?_ ?_ ?_ ?_
               · rfl
               · first | rfl | (simp [Act.eval]; done)
               · rfl
               · rfl
               intro y72 hrow hon
               have HI7 : Hid (RrI y2 g6 n (rs ++ [s]) (L ++ [(s, .slice aS nS cS)]) y72) := HI.out.put HLR.out hlt HOV.out hrow hon
               have HR7 : Hid (Blk y72 g2 cz 32) := HR2.out.only hon (by have h1 := HR20.out.lt; have h2 := HI.out.ge; omega)
               clear hrow hon HR2 HI HOV)
            | (clear tk43; with_reducible refine wpSeq_build 32 [] cz ?_ ?_ ?_ ?_
               · exact (built_evid []).trans (by rw [HCZ.out]; rfl)
               · rfl
               · rfl)
            | (clear tk44; with_reducible refine wpSeq_storeRow 32 (.tmp 2) (.tmp 47) g2 cz cz ?_ ?_ ?_ ?_ ?_ ?_ ?_ ?_ ?_
               · exact HR7.out
               · rfl
               · exact HOZ.out.info
               · exact HOZ.out.one
               · rfl
               · rfl
               · rfl
               · rfl
               intro y99 hs))
          have HBZ : Hid (Below w.heap.size w y72) := HBW2.out.trans (HI7.out.bel.mono HBW2.out.size)
          exact bodyPost_ret (results_row_tmp (by rfl) _ _ g2 _ rfl (var_evB hs.blk HOZ.out)) rfl ⟨cz, by rw [HX3.out]; rfl, by rw [HE0.out, HCZ.out]; exact fun _ _ => EvB.zero _, HBZ.out.trans (hs.only.below HG2.out HBZ.out.size)⟩
        | some s =>
          have hokt := ((readS_iff _ _).1 hr).1.1
          have HOS : Hid (okS s) := hokt
          have HCR : Hid (Calls Tryd.prog 33 #[.slice a3 n3 c3] wr fun e w' => ∃ aS nS cS, e = .returned (.tuple #[.agg (sgC s (.slice aS nS cS)).toArray, .int .i64 0]) ∧ OwnB w' wr.heap.size (.slice aS nS cS) s.2 ∧ Below wr.heap.size wr w') := hres.mono fun e w' h => by
            obtain ⟨aS, nS, cS, h1, h2, _, h4⟩ := h
            rw [rdX, rdS, hr] at h1
            rw [rdS, hr] at h2
            exact ⟨aS, nS, cS, h1, h2, h4⟩
          have HRS2 : Hid (readSs (ts.take (k + 1)) = some (rs ++ [s])) := by show _ = _; rw [takeB_more HLT.out, ← HT.out]; exact readSs_some HRS.out hr
          clear hres hr hokt
          have tk40 : Hid True := trivial
          have tk41 : Hid True := trivial
          go_wp2_with (first
            | (clear tk40; go_at_call 33; refine (HCR.out).mono ?_; rintro e0 y71 ⟨aS, nS, cS, rfl, hov, hbz⟩
               clear ckk HCR
               replace HR2 : Hid (Blk y71 g2 cz 32) := HR2.out.below hbz HR2.out.lt
               have HOV : Hid (OwnB y71 (g6 + 1) (.slice aS nS cS) s.2) := hov.mono HI.out.row.lt
               replace HI : Hid (RrI y2 g6 n rs L y71) := HI.out.next hbz
               clear hbz hov)
            | (clear tk41; with_reducible refine wpSeq_storeRowS (.tmp 44) (.tmp 42) g6 k (L ++ zeroL (n - L.length)) s aS nS cS HI.out.row (by rw [HI.out.room]; exact hlt) HOS.out ?_ ?_ ?_ ?_ ?_
               · rfl
               · first | rfl | (simp [Act.eval]; done)
               · rfl
               · rfl
               intro y72 hrow hon
               have HI7 : Hid (RrI y2 g6 n (rs ++ [s]) (L ++ [(s, .slice aS nS cS)]) y72) := HI.out.put HLR.out hlt HOV.out hrow hon
               have HR7 : Hid (Blk y72 g2 cz 32) := HR2.out.only hon (by have h1 := HR20.out.lt; have h2 := HI.out.ge; omega)
               clear hrow hon HR2 HI HOV))
          go_roundw
          case rel => exact ⟨k + 1, _, _, by omega, by simp, by rw [HER0.out], HRS2, HI7⟩
          case measure => simp [intOf]; omega
theorem fkRead_any (v : Value) (b : Bs) (w : World) (hb : Reads w v b) :
    Calls Tryd.prog 13 #[v] w fun r w' => ∃ cs, r = .returned (.tuple #[.agg (cs : List Value).toArray, .int .i64 (readX b)]) ∧ EvB w' (readE b) cs ∧ Below w.heap.size w w' :=
  (fkRead_own v b w hb).mono fun _ _ ⟨cs, h1, h2, h3⟩ => ⟨cs, h1, h2.evB, h3⟩
set_option maxRecDepth 100000 in
set_option maxHeartbeats 8000000 in
theorem fkAccept_any (pin : List (BitVec 8)) (v : Value) (b : Bs) (w : World) (hK : KOk w) (hp : pin.length = 32) (hb : Reads w v b) :
    Calls Tryd.prog 16 #[.agg (cb pin).toArray, v] w fun r w' => r = .returned (.int .i64 (acceptF pin b)) ∧ Below w.heap.size w w' := by
  obtain ⟨ad, n, cp, hv⟩ := hb.form
  subst hv
  have HIP : Hid ((Tryd.prog.info? 23).map (·.size) = some (cb pin).length) := by show _ = _; rw [cb_len, hp]; exact info_digest
  obtain ⟨er, HER⟩ : ∃ t, Hid (t = readX b) := ⟨_, rfl⟩
  obtain ⟨ck, HCK⟩ : ∃ t, Hid (t = checkF pin (readE b)) := ⟨_, rfl⟩
  have HC1 : Hid (∀ W : World, Below w.heap.size w W → Calls Tryd.prog 13 #[.slice ad n cp] W fun r w' => ∃ cs, r = .returned (.tuple #[.agg (cs : List Value).toArray, .int .i64 er]) ∧ EvB w' (readE b) cs ∧ Below W.heap.size W w') := fun W hh => by rw [HER.out]; exact fkRead_any _ b W (hb.below hh)
  have HCC : Hid (∀ (W : World) (cs : List Value), Below w.heap.size w W → EvB W (readE b) cs → Calls Tryd.prog 11 #[.agg (cb pin).toArray, .agg cs.toArray] W fun r w' => r = .returned (.int .i64 ck) ∧ Below W.heap.size W w') := fun W cs hh hE => by rw [HCK.out]; exact fkCheck_any pin (readE b) cs W (hK.below hh hK.lt) hp hE (readE_len b)
  have HBW : Hid (Below w.heap.size w w) := Below.refl _ _
  clear hb hK hp
  by_cases her : er = 0
  case pos =>
    have qe : (er == 0) = true := by rw [beq_iff_eq]; exact her
    have pe : (er != 0) = false := by rw [bne, qe]; rfl
    have HZ : Hid (acceptF pin b = ck) := by show _ = _; rw [HCK.out]; exact accept_read (by rw [← HER.out]; exact her)
    clear her HCK
    go_enter Tryd.func16, Tryd.ntmps16
    have tk0 : Hid True := trivial
    have tk1 : Hid True := trivial
    have tk2 : Hid True := trivial
    have tk3 : Hid True := trivial
    have tk4 : Hid True := trivial
    have tk5 : Hid True := trivial
    have tk6 : Hid True := trivial
    go_wp2_with (first
      | (clear tk0; with_reducible refine wpSeq_boxW 23 (.tmp 0) (cb pin) ?_ ?_ ?_ ?_
         · rfl
         · rfl
         · rfl
         intro g2 y1 nn
         replace HBW : Hid (Below w.heap.size w y1) := HBW.out.trans (nn.below.mono HBW.out.size)
         have HG2 : Hid (Blk y1 g2 (cb pin) 23) := nn.blk
         clear nn
         skip)
      | (clear tk1; go_at_call 13; refine (HC1.out y1 HBW.out).mono ?_; rintro e y2 ⟨cs, rfl, heb, hbz⟩
         replace HG2 : Hid (Blk y2 g2 (cb pin) 23) := HG2.out.below hbz HG2.out.lt
         replace HBW : Hid (Below w.heap.size w y2) := HBW.out.trans (hbz.mono HBW.out.size)
         have HOE : Hid (EvOk (readE b) cs) := heb.ok
         have HEB : Hid (EvB y2 (readE b) cs) := heb
         clear hbz heb)
      | (clear tk2; with_reducible refine wpSeq_allocE ?_ ?_ ?_
         · rfl
         · rfl
         intro g5 y3 nn)
      | (clear tk3; with_reducible refine wpSeq_storeRow 32 (.tmp 5) (.tmp 10) g5 (evC zeroE (.slice none 0 0) (.slice none 0 0) (.slice none 0 0)) cs ?_ ?_ ?_ ?_ ?_ ?_ ?_ ?_ ?_
         · exact nn.blk
         · exact HOE.out.lz
         · exact HOE.out.info
         · exact HOE.out.one
         · rfl
         · rfl
         · rfl
         · rfl
         intro y4 hs
         have hbz := nn.below.trans (hs.only.below nn.ge nn.below.size)
         replace HG2 : Hid (Blk y4 g2 (cb pin) 23) := HG2.out.below hbz HG2.out.lt
         replace HEB : Hid (EvB y4 (readE b) cs) := HEB.out.below hbz
         replace HBW : Hid (Below w.heap.size w y4) := HBW.out.trans (hbz.mono HBW.out.size)
         have H5 : Hid (Blk y4 g5 cs 32) := hs.blk
         clear nn hs hbz)
      | (clear tk4; with_reducible refine wpSeq_loadW 23 (.tmp 2) g2 0 (cb pin) _ ?_ Tryd.underlying23 rfl ?_ ?_ ?_ ?_ ?_
         · exact HG2.out.range
         · exact HIP.out
         · rfl
         · rfl
         · rfl)
      | (clear tk5; with_reducible refine wpSeq_loadW 32 (.tmp 5) g5 0 cs _ ?_ Tryd.underlying32 rfl ?_ ?_ ?_ ?_ ?_
         · exact H5.out.range
         · exact HOE.out.info
         · rfl
         · rfl
         · rfl)
      | (clear tk6; go_at_call 11; refine (HCC.out y4 cs HBW.out HEB.out).mono ?_; rintro e y5 ⟨rfl, hbz⟩
         replace HG2 : Hid (Blk y5 g2 (cb pin) 23) := HG2.out.below hbz HG2.out.lt
         replace H5 : Hid (Blk y5 g5 cs 32) := H5.out.below hbz H5.out.lt
         replace HEB : Hid (EvB y5 (readE b) cs) := HEB.out.below hbz
         replace HBW : Hid (Below w.heap.size w y5) := HBW.out.trans (hbz.mono HBW.out.size)
         clear hbz ))
    go_ret
    exact ⟨by rw [HZ.out]; rfl, HBW.out⟩
  case neg =>
    have qe : (er == 0) = false := by rw [beq_eq_false_iff_ne]; exact her
    have pe : (er != 0) = true := by rw [bne, qe]; rfl
    have HZ : Hid (acceptF pin b = er) := by show _ = _; rw [HER.out]; exact accept_none (by rw [← HER.out]; exact her)
    clear her HCK
    go_enter Tryd.func16, Tryd.ntmps16
    have tk0 : Hid True := trivial
    have tk1 : Hid True := trivial
    have tk2 : Hid True := trivial
    have tk3 : Hid True := trivial
    go_wp2_with (first
      | (clear tk0; with_reducible refine wpSeq_boxW 23 (.tmp 0) (cb pin) ?_ ?_ ?_ ?_
         · rfl
         · rfl
         · rfl
         intro g2 y1 nn
         replace HBW : Hid (Below w.heap.size w y1) := HBW.out.trans (nn.below.mono HBW.out.size)
         have HG2 : Hid (Blk y1 g2 (cb pin) 23) := nn.blk
         clear nn
         skip)
      | (clear tk1; go_at_call 13; refine (HC1.out y1 HBW.out).mono ?_; rintro e y2 ⟨cs, rfl, heb, hbz⟩
         replace HG2 : Hid (Blk y2 g2 (cb pin) 23) := HG2.out.below hbz HG2.out.lt
         replace HBW : Hid (Below w.heap.size w y2) := HBW.out.trans (hbz.mono HBW.out.size)
         have HOE : Hid (EvOk (readE b) cs) := heb.ok
         have HEB : Hid (EvB y2 (readE b) cs) := heb
         clear hbz heb)
      | (clear tk2; with_reducible refine wpSeq_allocE ?_ ?_ ?_
         · rfl
         · rfl
         intro g5 y3 nn)
      | (clear tk3; with_reducible refine wpSeq_storeRow 32 (.tmp 5) (.tmp 10) g5 (evC zeroE (.slice none 0 0) (.slice none 0 0) (.slice none 0 0)) cs ?_ ?_ ?_ ?_ ?_ ?_ ?_ ?_ ?_
         · exact nn.blk
         · exact HOE.out.lz
         · exact HOE.out.info
         · exact HOE.out.one
         · rfl
         · rfl
         · rfl
         · rfl
         intro y4 hs
         have hbz := nn.below.trans (hs.only.below nn.ge nn.below.size)
         replace HG2 : Hid (Blk y4 g2 (cb pin) 23) := HG2.out.below hbz HG2.out.lt
         replace HEB : Hid (EvB y4 (readE b) cs) := HEB.out.below hbz
         replace HBW : Hid (Below w.heap.size w y4) := HBW.out.trans (hbz.mono HBW.out.size)
         have H5 : Hid (Blk y4 g5 cs 32) := hs.blk
         clear nn hs hbz))
    go_ret
    exact ⟨by rw [HZ.out]; rfl, HBW.out⟩
end Go.Proofs.YtableajopaappaaDoor
/- The walk of the reference's Same (layer 12). -/
namespace Go.Proofs.YtableajopaappaaDoor
open Go.RowKit Go.Shelf
set_option maxRecDepth 100000
structure SmI (w : World) (g2 g3 : Nat) (c2 c3 : List Value) (W : World) : Prop where
  a : Blk W g2 c2 32
  b : Blk W g3 c3 32
  bel : Below w.heap.size w W
theorem SmI.next {w : World} {g2 g3 : Nat} {c2 c3 : List Value} {W W' : World} (h : SmI w g2 g3 c2 c3 W) (hb : Below W.heap.size W W') : SmI w g2 g3 c2 c3 W' := ⟨h.a.below hb h.a.lt, h.b.below hb h.b.lt, h.bel.trans (hb.mono h.bel.size)⟩
theorem SmI.drew {w : World} {g2 g3 : Nat} {c2 c3 : List Value} {W : World} (h : SmI w g2 g3 c2 c3 W) : SmI w g2 g3 c2 c3 W.drew := h.next (Below.refl _ _).drew
end Go.Proofs.YtableajopaappaaDoor
/- ForkBack, over what fork's functions do (layer 12). -/
namespace Go.Proofs.YtableajopaappaaDoor
open Go.RowKit Go.Shelf
set_option maxRecDepth 100000
end Go.Proofs.YtableajopaappaaDoor
/- ForkReads, over what fork's functions do (layer 12). -/
namespace Go.Proofs.YtableajopaappaaDoor
open Go.RowKit Go.Shelf
set_option maxRecDepth 100000
end Go.Proofs.YtableajopaappaaDoor
/- The walk of the reference's Find (layer 12). -/
namespace Go.Proofs.YtableajopaappaaDoor
open Go.RowKit Go.Shelf
set_option maxRecDepth 100000
structure FdI (w : World) (g : Nat) (pin : Bs) (W : World) : Prop where
  pn : Blk W g (cb pin) 23
  bel : Below w.heap.size w W
theorem FdI.next {w : World} {g : Nat} {pin : Bs} {W W' : World} (h : FdI w g pin W) (hb : Below W.heap.size W W') : FdI w g pin W' := ⟨h.pn.below hb h.pn.lt, h.bel.trans (hb.mono h.bel.size)⟩
theorem FdI.drew {w : World} {g : Nat} {pin : Bs} {W : World} (h : FdI w g pin W) : FdI w g pin W.drew := h.next (Below.refl _ _).drew
theorem drop_at {l : List SgT} {k : Nat} (hk : k < l.length) : l.drop k = l.getD k zeroS :: l.drop (k + 1) := by
  have hg : l.getD k zeroS = l[k]'hk := by rw [List.getD_eq_getElem?_getD, List.getElem?_eq_getElem hk]; rfl
  rw [hg, List.getElem_cons_drop]
theorem firstU_same {l m : List SgT} {k : Nat} (hl : k < l.length) (hm : k < m.length) (h : firstU l m = (firstU (l.drop k) (m.drop k)).map (· + k)) (hs : (l.getD k zeroS).1 = (m.getD k zeroS).1) : firstU l m = (firstU (l.drop (k + 1)) (m.drop (k + 1))).map (· + (k + 1)) := by
  rw [h, drop_at hl, drop_at hm, firstU, if_pos hs, Option.map_map]
  congr 1
  funext x
  show x + 1 + k = x + (k + 1)
  omega
theorem firstU_unlike {l m : List SgT} {k : Nat} (hl : k < l.length) (hm : k < m.length) (h : firstU l m = (firstU (l.drop k) (m.drop k)).map (· + k)) (hs : (l.getD k zeroS).1 ≠ (m.getD k zeroS).1) : firstU l m = some k := by
  rw [h, drop_at hl, drop_at hm, firstU, if_neg hs]
  simp
theorem firstU_end {l m : List SgT} {k : Nat} (hk : l.length ≤ k ∨ m.length ≤ k) (h : firstU l m = (firstU (l.drop k) (m.drop k)).map (· + k)) : firstU l m = none := by
  rw [h]
  rcases hk with hk | hk
  · rw [List.drop_eq_nil_of_le hk]; cases m.drop k <;> rfl
  · rw [List.drop_eq_nil_of_le hk]; cases l.drop k <;> rfl
end Go.Proofs.YtableajopaappaaDoor
/- The walks of fork's firstUnlike and Find; what fork's functions do (layer 12). -/
namespace Go.Proofs.YtableajopaappaaDoor
open Go.RowKit Go.Shelf
set_option maxRecDepth 100000
/-- the place that is told -/
def unlikeN (l m : List SgT) : Nat := (firstU l m).getD (min l.length m.length)
set_option maxRecDepth 100000 in
set_option maxHeartbeats 8000000 in
theorem fkUnlike_any (vl vm : Value) (l m : List SgT) (w : World) (hl : ReadsS w vl l) (hm : ReadsS w vm m) (hll : l.length < 1000000) :
    Calls Tryd.prog 43 #[vl, vm] w fun r w' => r = .returned (.int .i64 (unlikeN l m : Int)) ∧ Below w.heap.size w w' := by
  obtain ⟨adl, cl, hvl⟩ := hl.form
  obtain ⟨adm, cm, hvm⟩ := hm.form
  obtain ⟨nl, HNL⟩ : ∃ n, Hid (n = l.length) := ⟨_, rfl⟩
  obtain ⟨nm, HNM⟩ : ∃ n, Hid (n = m.length) := ⟨_, rfl⟩
  obtain ⟨n, HNN⟩ : ∃ n, Hid (n = min nl nm) := ⟨_, rfl⟩
  rw [← HNL.out] at hvl
  rw [← HNM.out] at hvm
  subst hvl hvm
  have HRL : Hid (ReadsS w (.slice adl nl cl) l) := hl
  have HRM : Hid (ReadsS w (.slice adm nm cm) m) := hm
  have HLL : Hid (nl < 1000000) := by show _ < _; rw [HNL.out]; exact hll
  obtain ⟨Z, HZZ⟩ : ∃ z, Hid (z = (unlikeN l m : Int)) := ⟨_, rfl⟩
  rw [← HZZ.out]
  have HBW : Hid (Below w.heap.size w w) := Below.refl _ _
  have HNB : Hid (n ≤ nl ∧ n ≤ nm) := by rw [HNN.out]; exact ⟨Nat.min_le_left _ _, Nat.min_le_right _ _⟩
  clear hl hm hll
  go_enter Tryd.func43, Tryd.ntmps43
  have tk0 : Hid True := trivial
  go_wp2_with (first
    | (clear tk0; with_reducible refine wpSeq_min12 (.tmp 8) (.tmp 10) nl nm n HNN.out ?_ ?_ ?_ ?_ ?_
       · rfl
       · rfl
       · rfl
       · rfl))
  have HI0 : Hid (Below w.heap.size w w) := HBW.out
  clear HBW
  go_loopw [13] (fun i wr => ∃ (k : Nat), k ≤ n ∧ i = .int .i64 (k : Int) ∧ Hid (firstU l m = (firstU (l.drop k) (m.drop k)).map (· + k)) ∧ Hid (Below w.heap.size w wr)) (fun i _ => n - (intOf i).toNat)
  case atStart => exact ⟨0, by omega, rfl, (by show _ = _; simp), HI0⟩
  case round =>
    obtain ⟨k, hkn, rfl, HFU, HBW⟩ := hrel
    clear HI0
    by_cases hlt : k < n
    case neg =>
      have hlk : ¬ ((k : Int) < (n : Int)) := by omega
      have HZ : Hid (Z = (n : Int)) := by
        show _ = _
        have h0 : firstU l m = none := firstU_end (k := k) (by
          rw [← HNL.out, ← HNM.out]
          have h := HNN.out
          omega) HFU.out
        rw [HZZ.out, unlikeN, h0, HNN.out, HNL.out, HNM.out]
        rfl
      go_wp2
      go_ret
      exact ⟨by rw [HZ.out]; rfl, HBW.out⟩
    have hlk : (k : Int) < (n : Int) := by omega
    have f5 : IntKind.i64.wrap ((k : Int) + 1) = (k : Int) + 1 := by rw [IntKind.wrap_i64]; have h1 := HLL.out; have h2 := HNB.out.1; omega
    have HKL : Hid (k < nl ∧ k < nm) := by have h1 := HNB.out; exact ⟨by omega, by omega⟩
    have HL1 : Hid (k < l.length) := by show _ < _; rw [← HNL.out]; exact HKL.out.1
    have HL2 : Hid (k < m.length) := by show _ < _; rw [← HNM.out]; exact HKL.out.2
    obtain ⟨b1, o1, c1, hv1, hat1⟩ := HRL.out.at (Nat.lt_of_le_of_lt (Nat.zero_le _) HL1.out)
    obtain ⟨b2, o2, c2, hv2, hat2⟩ := HRM.out.at (Nat.lt_of_le_of_lt (Nat.zero_le _) HL2.out)
    simp only [Value.slice.injEq] at hv1 hv2
    obtain ⟨rfl, hn1, rfl⟩ := hv1
    obtain ⟨rfl, hn2, rfl⟩ := hv2
    clear hn1 hn2
    obtain ⟨v1, hs1, hr1⟩ := hat1 k HL1.out
    obtain ⟨v2, hs2, hr2⟩ := hat2 k HL2.out
    obtain ⟨s, HS⟩ : ∃ s, Hid (s = l.getD k zeroS) := ⟨_, rfl⟩
    obtain ⟨t, HT⟩ : ∃ t, Hid (t = m.getD k zeroS) := ⟨_, rfl⟩
    rw [← HS.out] at hs1 hr1
    rw [← HT.out] at hs2 hr2
    obtain ⟨rt1, HRT1⟩ : ∃ c, Hid (c = rtC s) := ⟨_, rfl⟩
    obtain ⟨rt2, HRT2⟩ : ∃ c, Hid (c = rtC t) := ⟨_, rfl⟩
    have HT1 : Hid (∀ W : World, Below w.heap.size w W → W.rangeAt b1 (o1 + k * 98) rt1) := fun W hh => by rw [HRT1.out]; exact (hs1.below hh (Nat.le_refl _)).root
    have HT2 : Hid (∀ W : World, Below w.heap.size w W → W.rangeAt b2 (o2 + k * 98) rt2) := fun W hh => by rw [HRT2.out]; exact (hs2.below hh (Nat.le_refl _)).root
    have HJ1 : Hid ((Tryd.prog.info? 27).map (·.size) = some rt1.length) := by show _ = _; rw [HRT1.out]; exact info_rtC hs1.ok
    have HJ2 : Hid ((Tryd.prog.info? 27).map (·.size) = some rt2.length) := by show _ = _; rw [HRT2.out]; exact info_rtC hs2.ok
    obtain ⟨r, HRK⟩ : ∃ r, Hid (r = decide (s.1 = t.1)) := ⟨_, rfl⟩
    have heq : ∀ wx : World, (Op.equalIn 10000 27 (.agg rt1.toArray) (.agg rt2.toArray)).run Tryd.prog wx = .ok r wx := fun wx => by rw [HRT1.out, HRT2.out, HRK.out]; exact eq_rt _ _ hs1.ok hs2.ok wx
    cases r with
    | true =>
      have HF2 : Hid (firstU l m = (firstU (l.drop (k + 1)) (m.drop (k + 1))).map (· + (k + 1))) := firstU_same HL1.out HL2.out HFU.out (by rw [← HS.out, ← HT.out]; exact of_decide_eq_true HRK.out.symm)
      clear hat1 hat2 hs1 hs2 hr1 hr2 HRT1 HRT2
      go_wp2
      refine wp_region_held_drew (S := Over (World.drew wr)) (by kernel_rfl) (Over.refl _) ?_
      intro hS
      replace HBW : Hid (Below w.heap.size w (World.drew wr)) := HBW.out.drew
      change wpAnyH _ _ _ _ _ _ _ _ (World.drew wr)
      generalize World.drew wr = y0 at *
      try simp only [Act.put, List.setIfInBounds_toArray, List.set_cons_zero, List.set_cons_succ]
      refine wpAnyH_take (i := 0) (v := .slice (some ⟨b1, o1, none⟩) nl cl) rfl (by kernel_rfl) (by kernel_rfl) (by kernel_rfl) (fun _ _ _ h => h) (Or.inl ⟨by rfl, fun wx hx => by simp [go_sem]⟩) hS ?_
      simp only [Act.put, List.getElem_toArray, List.getElem_cons_zero, List.setIfInBounds_toArray, List.set_cons_zero, List.set_cons_succ]
      refine wpAnyH_take (i := 1) (v := .int .i64 (k : Int)) rfl (by kernel_rfl) (by kernel_rfl) (by kernel_rfl) (fun _ _ _ h => h) (Or.inl ⟨by rfl, fun wx hx => by simp [go_sem]⟩) hS ?_
      simp only [Act.put, List.getElem_toArray, List.getElem_cons_succ, List.getElem_cons_zero, List.setIfInBounds_toArray, List.set_cons_zero, List.set_cons_succ]
      refine wpAnyH_take (i := 2) (v := .pointer (some ⟨b1, o1 + k * 98, none⟩)) rfl (by kernel_rfl) (by kernel_rfl) (by kernel_rfl) (fun _ _ _ h => h) (Or.inl ⟨by rfl, fun wx hx => by exact idx98 b1 o1 cl nl k HKL.out.1 _ _ _ _ rfl rfl rfl _⟩) hS ?_
      simp only [Act.put, List.getElem_toArray, List.getElem_cons_succ, List.getElem_cons_zero, List.setIfInBounds_toArray, List.set_cons_zero, List.set_cons_succ]
      refine wpAnyH_take (i := 3) (v := .pointer (some ⟨b1, o1 + k * 98, none⟩)) rfl (by kernel_rfl) (by kernel_rfl) (by kernel_rfl) (fun _ _ _ h => h) (Or.inl ⟨by rfl, fun wx hx => by simp [go_sem]⟩) hS ?_
      simp only [Act.put, List.getElem_toArray, List.getElem_cons_succ, List.getElem_cons_zero, List.setIfInBounds_toArray, List.set_cons_zero, List.set_cons_succ]
      refine wpAnyH_take (i := 4) (v := .agg rt1.toArray) rfl (by kernel_rfl) (by kernel_rfl) (by kernel_rfl) (fun _ _ _ h => h) (Or.inl ⟨by rfl, fun wx hx => by exact load_run 27 _ rfl b1 (o1 + k * 98) rfl rt1 _ (HT1.out _ (HBW.out.trans (Below.mono hx HBW.out.size))) Tryd.underlying27 rfl HJ1.out⟩) hS ?_
      simp only [Act.put, List.getElem_toArray, List.getElem_cons_succ, List.getElem_cons_zero, List.setIfInBounds_toArray, List.set_cons_zero, List.set_cons_succ]
      refine wpAnyH_take (i := 5) (v := .slice (some ⟨b2, o2, none⟩) nm cm) rfl (by kernel_rfl) (by kernel_rfl) (by kernel_rfl) (fun _ _ _ h => h) (Or.inl ⟨by rfl, fun wx hx => by simp [go_sem]⟩) hS ?_
      simp only [Act.put, List.getElem_toArray, List.getElem_cons_succ, List.getElem_cons_zero, List.setIfInBounds_toArray, List.set_cons_zero, List.set_cons_succ]
      refine wpAnyH_take (i := 6) (v := .int .i64 (k : Int)) rfl (by kernel_rfl) (by kernel_rfl) (by kernel_rfl) (fun _ _ _ h => h) (Or.inl ⟨by rfl, fun wx hx => by simp [go_sem]⟩) hS ?_
      simp only [Act.put, List.getElem_toArray, List.getElem_cons_succ, List.getElem_cons_zero, List.setIfInBounds_toArray, List.set_cons_zero, List.set_cons_succ]
      refine wpAnyH_take (i := 7) (v := .pointer (some ⟨b2, o2 + k * 98, none⟩)) rfl (by kernel_rfl) (by kernel_rfl) (by kernel_rfl) (fun _ _ _ h => h) (Or.inl ⟨by rfl, fun wx hx => by exact idx98 b2 o2 cm nm k HKL.out.2 _ _ _ _ rfl rfl rfl _⟩) hS ?_
      simp only [Act.put, List.getElem_toArray, List.getElem_cons_succ, List.getElem_cons_zero, List.setIfInBounds_toArray, List.set_cons_zero, List.set_cons_succ]
      refine wpAnyH_take (i := 8) (v := .pointer (some ⟨b2, o2 + k * 98, none⟩)) rfl (by kernel_rfl) (by kernel_rfl) (by kernel_rfl) (fun _ _ _ h => h) (Or.inl ⟨by rfl, fun wx hx => by simp [go_sem]⟩) hS ?_
      simp only [Act.put, List.getElem_toArray, List.getElem_cons_succ, List.getElem_cons_zero, List.setIfInBounds_toArray, List.set_cons_zero, List.set_cons_succ]
      refine wpAnyH_take (i := 9) (v := .agg rt2.toArray) rfl (by kernel_rfl) (by kernel_rfl) (by kernel_rfl) (fun _ _ _ h => h) (Or.inl ⟨by rfl, fun wx hx => by exact load_run 27 _ rfl b2 (o2 + k * 98) rfl rt2 _ (HT2.out _ (HBW.out.trans (Below.mono hx HBW.out.size))) Tryd.underlying27 rfl HJ2.out⟩) hS ?_
      simp only [Act.put, List.getElem_toArray, List.getElem_cons_succ, List.getElem_cons_zero, List.setIfInBounds_toArray, List.set_cons_zero, List.set_cons_succ]
      refine wpAnyH_take (i := 10) (v := .bool false) rfl (by kernel_rfl) (by kernel_rfl) (by kernel_rfl) (fun _ _ _ h => h) (Or.inl ⟨by rfl, fun wx hx => by simp [go_sem, heq]⟩) hS ?_
      simp only [Act.put, List.getElem_toArray, List.getElem_cons_succ, List.getElem_cons_zero, List.setIfInBounds_toArray, List.set_cons_zero, List.set_cons_succ]
      refine wpAnyH_done (by kernel_rfl) ?_ _
      go_wp2
      go_roundw
      case rel => exact ⟨k + 1, by omega, by simp, HF2, HBW.out.trans (Below.mono hS HBW.out.size)⟩
      case measure => simp [intOf]; omega
    | false =>
      have HZ : Hid (Z = (k : Int)) := by
        show _ = _
        rw [HZZ.out, unlikeN, firstU_unlike HL1.out HL2.out HFU.out (by rw [← HS.out, ← HT.out]; exact of_decide_eq_false HRK.out.symm)]
        rfl
      clear hat1 hat2 hs1 hs2 hr1 hr2 HRT1 HRT2
      go_wp2
      refine wp_region_held_drew (S := Over (World.drew wr)) (by kernel_rfl) (Over.refl _) ?_
      intro hS
      replace HBW : Hid (Below w.heap.size w (World.drew wr)) := HBW.out.drew
      change wpAnyH _ _ _ _ _ _ _ _ (World.drew wr)
      generalize World.drew wr = y0 at *
      try simp only [Act.put, List.setIfInBounds_toArray, List.set_cons_zero, List.set_cons_succ]
      refine wpAnyH_take (i := 0) (v := .slice (some ⟨b1, o1, none⟩) nl cl) rfl (by kernel_rfl) (by kernel_rfl) (by kernel_rfl) (fun _ _ _ h => h) (Or.inl ⟨by rfl, fun wx hx => by simp [go_sem]⟩) hS ?_
      simp only [Act.put, List.getElem_toArray, List.getElem_cons_zero, List.setIfInBounds_toArray, List.set_cons_zero, List.set_cons_succ]
      refine wpAnyH_take (i := 1) (v := .int .i64 (k : Int)) rfl (by kernel_rfl) (by kernel_rfl) (by kernel_rfl) (fun _ _ _ h => h) (Or.inl ⟨by rfl, fun wx hx => by simp [go_sem]⟩) hS ?_
      simp only [Act.put, List.getElem_toArray, List.getElem_cons_succ, List.getElem_cons_zero, List.setIfInBounds_toArray, List.set_cons_zero, List.set_cons_succ]
      refine wpAnyH_take (i := 2) (v := .pointer (some ⟨b1, o1 + k * 98, none⟩)) rfl (by kernel_rfl) (by kernel_rfl) (by kernel_rfl) (fun _ _ _ h => h) (Or.inl ⟨by rfl, fun wx hx => by exact idx98 b1 o1 cl nl k HKL.out.1 _ _ _ _ rfl rfl rfl _⟩) hS ?_
      simp only [Act.put, List.getElem_toArray, List.getElem_cons_succ, List.getElem_cons_zero, List.setIfInBounds_toArray, List.set_cons_zero, List.set_cons_succ]
      refine wpAnyH_take (i := 3) (v := .pointer (some ⟨b1, o1 + k * 98, none⟩)) rfl (by kernel_rfl) (by kernel_rfl) (by kernel_rfl) (fun _ _ _ h => h) (Or.inl ⟨by rfl, fun wx hx => by simp [go_sem]⟩) hS ?_
      simp only [Act.put, List.getElem_toArray, List.getElem_cons_succ, List.getElem_cons_zero, List.setIfInBounds_toArray, List.set_cons_zero, List.set_cons_succ]
      refine wpAnyH_take (i := 4) (v := .agg rt1.toArray) rfl (by kernel_rfl) (by kernel_rfl) (by kernel_rfl) (fun _ _ _ h => h) (Or.inl ⟨by rfl, fun wx hx => by exact load_run 27 _ rfl b1 (o1 + k * 98) rfl rt1 _ (HT1.out _ (HBW.out.trans (Below.mono hx HBW.out.size))) Tryd.underlying27 rfl HJ1.out⟩) hS ?_
      simp only [Act.put, List.getElem_toArray, List.getElem_cons_succ, List.getElem_cons_zero, List.setIfInBounds_toArray, List.set_cons_zero, List.set_cons_succ]
      refine wpAnyH_take (i := 5) (v := .slice (some ⟨b2, o2, none⟩) nm cm) rfl (by kernel_rfl) (by kernel_rfl) (by kernel_rfl) (fun _ _ _ h => h) (Or.inl ⟨by rfl, fun wx hx => by simp [go_sem]⟩) hS ?_
      simp only [Act.put, List.getElem_toArray, List.getElem_cons_succ, List.getElem_cons_zero, List.setIfInBounds_toArray, List.set_cons_zero, List.set_cons_succ]
      refine wpAnyH_take (i := 6) (v := .int .i64 (k : Int)) rfl (by kernel_rfl) (by kernel_rfl) (by kernel_rfl) (fun _ _ _ h => h) (Or.inl ⟨by rfl, fun wx hx => by simp [go_sem]⟩) hS ?_
      simp only [Act.put, List.getElem_toArray, List.getElem_cons_succ, List.getElem_cons_zero, List.setIfInBounds_toArray, List.set_cons_zero, List.set_cons_succ]
      refine wpAnyH_take (i := 7) (v := .pointer (some ⟨b2, o2 + k * 98, none⟩)) rfl (by kernel_rfl) (by kernel_rfl) (by kernel_rfl) (fun _ _ _ h => h) (Or.inl ⟨by rfl, fun wx hx => by exact idx98 b2 o2 cm nm k HKL.out.2 _ _ _ _ rfl rfl rfl _⟩) hS ?_
      simp only [Act.put, List.getElem_toArray, List.getElem_cons_succ, List.getElem_cons_zero, List.setIfInBounds_toArray, List.set_cons_zero, List.set_cons_succ]
      refine wpAnyH_take (i := 8) (v := .pointer (some ⟨b2, o2 + k * 98, none⟩)) rfl (by kernel_rfl) (by kernel_rfl) (by kernel_rfl) (fun _ _ _ h => h) (Or.inl ⟨by rfl, fun wx hx => by simp [go_sem]⟩) hS ?_
      simp only [Act.put, List.getElem_toArray, List.getElem_cons_succ, List.getElem_cons_zero, List.setIfInBounds_toArray, List.set_cons_zero, List.set_cons_succ]
      refine wpAnyH_take (i := 9) (v := .agg rt2.toArray) rfl (by kernel_rfl) (by kernel_rfl) (by kernel_rfl) (fun _ _ _ h => h) (Or.inl ⟨by rfl, fun wx hx => by exact load_run 27 _ rfl b2 (o2 + k * 98) rfl rt2 _ (HT2.out _ (HBW.out.trans (Below.mono hx HBW.out.size))) Tryd.underlying27 rfl HJ2.out⟩) hS ?_
      simp only [Act.put, List.getElem_toArray, List.getElem_cons_succ, List.getElem_cons_zero, List.setIfInBounds_toArray, List.set_cons_zero, List.set_cons_succ]
      refine wpAnyH_take (i := 10) (v := .bool true) rfl (by kernel_rfl) (by kernel_rfl) (by kernel_rfl) (fun _ _ _ h => h) (Or.inl ⟨by rfl, fun wx hx => by simp [go_sem, heq]⟩) hS ?_
      simp only [Act.put, List.getElem_toArray, List.getElem_cons_succ, List.getElem_cons_zero, List.setIfInBounds_toArray, List.set_cons_zero, List.set_cons_succ]
      refine wpAnyH_done (by kernel_rfl) ?_ _
      go_wp2
      go_ret
      exact ⟨by rw [HZ.out]; rfl, HBW.out.trans (Below.mono hS HBW.out.size)⟩
set_option maxRecDepth 100000 in
set_option maxHeartbeats 8000000 in
theorem fkFind_any (pin : Bs) (vl vm : Value) (l m : List SgT) (w : World) (hK : KOk w) (hp : pin.length = 32) (hl : ReadsS w vl l) (hm : ReadsS w vm m) (hl40 : l.length ≤ 40) (_ : m.length ≤ 40) (hzl : ∀ s ∈ l, s.2.length ≤ 524288) (hzm : ∀ s ∈ m, s.2.length ≤ 524288) :
    Calls Tryd.prog 21 #[.agg (cb pin).toArray, vl, vm] w fun r w' => ∃ cs, r = .returned (.tuple #[.agg (cs : List Value).toArray, .bool (findF pin l m).isSome]) ∧ EvB w' (findE pin l m) cs ∧ Below w.heap.size w w' := by
  obtain ⟨adl, cl, hvl⟩ := hl.form
  obtain ⟨adm, cm, hvm⟩ := hm.form
  obtain ⟨nl, HNL⟩ : ∃ n, Hid (n = l.length) := ⟨_, rfl⟩
  obtain ⟨nm, HNM⟩ : ∃ n, Hid (n = m.length) := ⟨_, rfl⟩
  obtain ⟨n, HNN⟩ : ∃ n, Hid (n = min nl nm) := ⟨_, rfl⟩
  have hcl0 : ∀ k, k ≤ l.length → k ≤ cl := fun k hk => by
    obtain ⟨⟨ad', cap, hv, hc, _⟩, _⟩ := id hl
    rw [hvl] at hv
    simp only [Value.slice.injEq] at hv
    obtain ⟨_, _, rfl⟩ := hv
    omega
  rw [← HNL.out] at hvl
  rw [← HNM.out] at hvm
  subst hvl hvm
  have HRL : Hid (ReadsS w (.slice adl nl cl) l) := hl
  have HRM : Hid (ReadsS w (.slice adm nm cm) m) := hm
  have HCL : Hid (∀ k, k ≤ l.length → k ≤ cl) := hcl0
  have HPL : Hid (pin.length = 32) := hp
  have HIP : Hid ((Tryd.prog.info? 23).map (·.size) = some (cb pin).length) := by show _ = _; rw [cb_len, hp]; exact info_digest
  have HL40 : Hid (l.length ≤ 40) := hl40
  have HZL : Hid ((∀ s ∈ l, s.2.length ≤ 524288) ∧ ∀ s ∈ m, s.2.length ≤ 524288) := ⟨hzl, hzm⟩
  have HKW : Hid (∀ W : World, Below w.heap.size w W → KOk W) := fun W hh => hK.below hh hK.lt
  have HBW : Hid (Below w.heap.size w w) := Below.refl _ _
  obtain ⟨cz, HCZ⟩ : ∃ c, Hid (c = evC zeroE (.slice none 0 0) (.slice none 0 0) (.slice none 0 0)) := ⟨_, rfl⟩
  have HOZ : Hid (EvOk zeroE cz) := by rw [HCZ.out]; exact (EvB.zero w).ok
  have hcu : ∀ W : World, Below w.heap.size w W → Calls Tryd.prog 43 #[.slice adl nl cl, .slice adm nm cm] W fun r w' => r = .returned (.int .i64 (unlikeN l m : Int)) ∧ Below W.heap.size W w' := fun W hh => fkUnlike_any _ _ l m W (HRL.out.below hh) (HRM.out.below hh) (by omega)
  clear hl hm hp hK hl40 hzl hzm hcl0
  cases hfu : firstU l m with
  | none =>
    have HF0 : Hid (findF pin l m = none) := by show _ = _; rw [findF, hfu]
    have HFI : Hid ((findF pin l m).isSome = false) := by show _ = _; rw [HF0.out]; rfl
    have HFE : Hid (findE pin l m = zeroE) := by show _ = _; rw [findE, HF0.out]; rfl
    have HCU : Hid (∀ W : World, Below w.heap.size w W → Calls Tryd.prog 43 #[.slice adl nl cl, .slice adm nm cm] W fun r w' => r = .returned (.int .i64 (n : Int)) ∧ Below W.heap.size W w') := fun W hh => by
      have h := hcu W hh
      rw [unlikeN, hfu, ← HNL.out, ← HNM.out] at h
      rw [HNN.out]
      exact h
    clear hcu hfu
    go_enter Tryd.func21, Tryd.ntmps21
    have tk0 : Hid True := trivial
    have tk1 : Hid True := trivial
    have tk2 : Hid True := trivial
    have tk3 : Hid True := trivial
    have tk20 : Hid True := trivial
    have tk21 : Hid True := trivial
    go_wp2_with (first
      | (clear tk0; with_reducible refine wpSeq_boxW 23 (.tmp 0) (cb pin) ?_ ?_ ?_ ?_
         · rfl
         · rfl
         · rfl
         intro g3 y1 nn
         have HG3 : Hid (Blk y1 g3 (cb pin) 23) := nn.blk
         replace HBW : Hid (Below w.heap.size w y1) := nn.below
         clear nn)
      | (clear tk1; with_reducible refine wpSeq_allocE ?_ ?_ ?_
         · rfl
         · rfl
         intro g6 y2 nn
         have HG6 : Hid (w.heap.size ≤ g6) := Nat.le_trans HBW.out.size nn.ge
         have H6 : Hid (Blk y2 g6 cz 32) := by rw [HCZ.out]; exact nn.blk
         replace HG3 : Hid (Blk y2 g3 (cb pin) 23) := HG3.out.below nn.below HG3.out.lt
         replace HBW : Hid (Below w.heap.size w y2) := HBW.out.trans (nn.below.mono HBW.out.size)
         clear nn)
      | (clear tk2; go_at_call 43; refine (HCU.out y2 HBW.out).mono ?_; rintro e0 y3 ⟨rfl, hbz⟩
         replace HG3 : Hid (Blk y3 g3 (cb pin) 23) := HG3.out.below hbz HG3.out.lt
         replace H6 : Hid (Blk y3 g6 cz 32) := H6.out.below hbz H6.out.lt
         replace HBW : Hid (Below w.heap.size w y3) := HBW.out.trans (hbz.mono HBW.out.size)
         clear hbz)
      | (clear tk3; with_reducible refine wpSeq_min12 (.tmp 17) (.tmp 19) nl nm n HNN.out ?_ ?_ ?_ ?_ ?_
         · rfl
         · rfl
         · rfl
         · rfl)
      | (clear tk20; with_reducible refine wpSeq_build 32 [] cz ?_ ?_ ?_ ?_
         · exact (built_evid []).trans (by rw [HCZ.out]; rfl)
         · rfl
         · rfl)
      | (clear tk21; with_reducible refine wpSeq_storeRow 32 (.tmp 6) (.tmp 22) g6 cz cz ?_ ?_ ?_ ?_ ?_ ?_ ?_ ?_ ?_
         · exact H6.out
         · rfl
         · exact HOZ.out.info
         · exact HOZ.out.one
         · rfl
         · rfl
         · rfl
         · rfl
         intro y99 hs9))
    exact bodyPost_ret (results_row_tmp (by rfl) _ _ g6 _ rfl (var_evB hs9.blk HOZ.out)) rfl ⟨cz, by rw [HFI.out]; rfl, by rw [HFE.out, HCZ.out]; exact EvB.zero _, HBW.out.trans (hs9.only.below HG6.out HBW.out.size)⟩
  | some k =>
    obtain ⟨hk1, hk2, hne, hlike⟩ := firstU_some l m k hfu
    have HKL : Hid (k < nl ∧ k < nm) := by rw [HNL.out, HNM.out]; exact ⟨hk1, hk2⟩
    have HCU : Hid (∀ W : World, Below w.heap.size w W → Calls Tryd.prog 43 #[.slice adl nl cl, .slice adm nm cm] W fun r w' => r = .returned (.int .i64 (k : Int)) ∧ Below W.heap.size W w') := fun W hh => by
      have h := hcu W hh
      rw [unlikeN, hfu] at h
      exact h
    have qn : ((k : Int) == (n : Int)) = false := by
      rw [beq_eq_false_iff_ne]
      have h1 := HKL.out
      have h2 := HNN.out
      omega
    have HFU : Hid (firstU l m = some k) := hfu
    clear hcu hfu hk1 hk2 hne hlike
    have HL1 : Hid (k < l.length) := by show _ < _; rw [← HNL.out]; exact HKL.out.1
    have HL2 : Hid (k < m.length) := by show _ < _; rw [← HNM.out]; exact HKL.out.2
    obtain ⟨b1, o1, c1, hv1, hat1⟩ := HRL.out.at (Nat.lt_of_le_of_lt (Nat.zero_le _) HL1.out)
    obtain ⟨b2, o2, c2, hv2, hat2⟩ := HRM.out.at (Nat.lt_of_le_of_lt (Nat.zero_le _) HL2.out)
    simp only [Value.slice.injEq] at hv1 hv2
    obtain ⟨rfl, hn1, rfl⟩ := hv1
    obtain ⟨rfl, hn2, rfl⟩ := hv2
    clear hn1 hn2
    obtain ⟨v1, hs1, hr1⟩ := hat1 k HL1.out
    obtain ⟨v2, hs2, hr2⟩ := hat2 k HL2.out
    obtain ⟨s, HS⟩ : ∃ s, Hid (s = l.getD k zeroS) := ⟨_, rfl⟩
    obtain ⟨t, HT⟩ : ∃ t, Hid (t = m.getD k zeroS) := ⟨_, rfl⟩
    rw [← HS.out] at hs1 hr1
    rw [← HT.out] at hs2 hr2
    have HKC : Hid (k ≤ cl) := HCL.out k (Nat.le_of_lt HL1.out)
    obtain ⟨a1, n1, d1, hw1⟩ := hr1.form
    obtain ⟨a2, n2, d2, hw2⟩ := hr2.form
    subst hw1 hw2
    obtain ⟨ck1, HK1⟩ : ∃ c, Hid (c = sgC s (.slice a1 n1 d1)) := ⟨_, rfl⟩
    obtain ⟨ck2, HK2⟩ : ∃ c, Hid (c = sgC t (.slice a2 n2 d2)) := ⟨_, rfl⟩
    have HR1 : Hid (∀ W : World, Below w.heap.size w W → W.rangeAt b1 (o1 + k * 98) ck1) := fun W hh => by rw [HK1.out]; exact (hs1.below hh (Nat.le_refl _)).all
    have HR2 : Hid (∀ W : World, Below w.heap.size w W → W.rangeAt b2 (o2 + k * 98) ck2) := fun W hh => by rw [HK2.out]; exact (hs2.below hh (Nat.le_refl _)).all
    have HI1 : Hid ((Tryd.prog.info? 30).map (·.size) = some ck1.length) := by show _ = _; rw [HK1.out]; exact info_sgC hs1.ok _
    have HI2 : Hid ((Tryd.prog.info? 30).map (·.size) = some ck2.length) := by show _ = _; rw [HK2.out]; exact info_sgC hs2.ok _
    obtain ⟨e, HE⟩ : ∃ e, Hid (e = (l.take k, s, t)) := ⟨_, rfl⟩
    obtain ⟨ce, HCE⟩ : ∃ c, Hid (c = evC e (.slice (some ⟨b1, o1, none⟩) k cl) (.slice a1 n1 d1) (.slice a2 n2 d2)) := ⟨_, rfl⟩
    have HBE : Hid (∀ ps : List (Nat × Value), ps = [(0, .slice (some ⟨b1, o1, none⟩) k cl), (1, .agg ck1.toArray), (2, .agg ck2.toArray)] → Tryd.prog.built 32 ps = some ce.toArray) := fun ps hps => by subst hps; rw [HCE.out, HK1.out, HK2.out, HE.out]; exact (built_evid _).trans (fill_ev (e := (l.take k, s, t)) hs1.ok hs2.ok)
    have HEB : Hid (∀ W : World, Below w.heap.size w W → EvB W e ce) := fun W hh => by rw [HCE.out, HE.out]; exact EvIs.evB (e := (l.take k, s, t)) ⟨(HRL.out.below hh).take (Nat.le_of_lt HL1.out), hr1.below hh, hr2.below hh, hs1.ok, hs2.ok⟩
    have HOK : Hid (EvOk e ce) := (HEB.out w HBW.out).ok
    have HLE : Hid (e.1.length ≤ 40) := by rw [HE.out]; show (l.take k).length ≤ _; rw [List.length_take]; have := HL40.out; omega
    have HSA : Hid (∀ s ∈ allE e, okS s ∧ s.2.length ≤ 524288) := by
      rw [HE.out]
      intro x hx
      have ms : s ∈ l := by rw [HS.out, List.getD_eq_getElem?_getD, List.getElem?_eq_getElem HL1.out]; exact List.getElem_mem HL1.out
      have mt : t ∈ m := by rw [HT.out, List.getD_eq_getElem?_getD, List.getElem?_eq_getElem HL2.out]; exact List.getElem_mem HL2.out
      rcases List.mem_append.1 hx with hx | hx
      · exact ⟨HRL.out.2 x (List.mem_of_mem_take hx), HZL.out.1 x (List.mem_of_mem_take hx)⟩
      · rcases List.mem_cons.1 hx with rfl | hx
        · exact ⟨hs1.ok, HZL.out.1 _ ms⟩
        · rw [List.mem_singleton.1 hx]; exact ⟨hs2.ok, HZL.out.2 _ mt⟩
    have HFD : Hid (readF (bytesF e) = some e) := read_back (okB_light (by have := HLE.out; omega) HSA.out)
    obtain ⟨ck, HCK0⟩ : ∃ c, Hid (c = checkF pin e) := ⟨_, rfl⟩
    have HFF : Hid (findF pin l m = if ck = 0 then some e else none) := by show _ = _; rw [findF, HFU.out, HCK0.out, HE.out, HS.out, HT.out]
    have HCK : Hid (∀ W : World, Below w.heap.size w W → Calls Tryd.prog 11 #[.agg (cb pin).toArray, .agg ce.toArray] W fun r' w' => r' = .returned (.int .i64 ck) ∧ Below W.heap.size W w') := fun W hh => by rw [HCK0.out]; exact fkCheck_any pin e ce W (HKW.out W hh) HPL.out (HEB.out W hh) (by have := HLE.out; omega)
    have HCB : Hid (∀ W : World, Below w.heap.size w W → Calls Tryd.prog 18 #[.agg ce.toArray] W fun r' w' => ∃ v, r' = .returned v ∧ Reads w' v (bytesF e) ∧ Below W.heap.size W w') := fun W hh => fkBytes_any e ce W (HEB.out W hh) (by have := HLE.out; omega) (fun s hs => by have := (HSA.out s hs).2; omega)
    have HCR : Hid (∀ (W : World) (v : Value), Reads W v (bytesF e) → Calls Tryd.prog 13 #[v] W fun r w' => ∃ cs, r = .returned (.tuple #[.agg (cs : List Value).toArray, .int .i64 0]) ∧ EvF W w' e cs ∧ Below W.heap.size W w') := fun W v hr => by
      have h := fkRead_own v (bytesF e) W hr
      rw [readX, readE, HFD.out] at h
      exact h
    clear hat1 hat2 hs1 hs2 hr1 hr2 HCE HK1 HK2
    by_cases hck : ck = 0
    case pos =>
      have qc : (ck == 0) = true := by rw [beq_iff_eq]; exact hck
      have pc : (ck != 0) = false := by rw [bne, qc]; rfl
      have HFI : Hid ((findF pin l m).isSome = true) := by show _ = _; rw [HFF.out, if_pos hck]; rfl
      have HFE : Hid (findE pin l m = e) := by show _ = _; rw [findE, HFF.out, if_pos hck]; rfl
      clear hck
      go_enter Tryd.func21, Tryd.ntmps21
      have tk0 : Hid True := trivial
      have tk1 : Hid True := trivial
      have tk2 : Hid True := trivial
      have tk3 : Hid True := trivial
      go_upto_region 4 with (first
        | (clear tk0; with_reducible refine wpSeq_boxW 23 (.tmp 0) (cb pin) ?_ ?_ ?_ ?_
           · rfl
           · rfl
           · rfl
           intro g3 y1 nn
           have HG3 : Hid (Blk y1 g3 (cb pin) 23) := nn.blk
           replace HBW : Hid (Below w.heap.size w y1) := nn.below
           clear nn)
        | (clear tk1; with_reducible refine wpSeq_allocE ?_ ?_ ?_
           · rfl
           · rfl
           intro g6 y2 nn
           have HG6 : Hid (w.heap.size ≤ g6) := Nat.le_trans HBW.out.size nn.ge
           have H6 : Hid (Blk y2 g6 cz 32) := by rw [HCZ.out]; exact nn.blk
           replace HG3 : Hid (Blk y2 g3 (cb pin) 23) := HG3.out.below nn.below HG3.out.lt
           replace HBW : Hid (Below w.heap.size w y2) := HBW.out.trans (nn.below.mono HBW.out.size)
           clear nn)
        | (clear tk2; go_at_call 43; refine (HCU.out y2 HBW.out).mono ?_; rintro e0 y3 ⟨rfl, hbz⟩
           replace HG3 : Hid (Blk y3 g3 (cb pin) 23) := HG3.out.below hbz HG3.out.lt
           replace H6 : Hid (Blk y3 g6 cz 32) := H6.out.below hbz H6.out.lt
           replace HBW : Hid (Below w.heap.size w y3) := HBW.out.trans (hbz.mono HBW.out.size)
           clear hbz)
        | (clear tk3; with_reducible refine wpSeq_min12 (.tmp 17) (.tmp 19) nl nm n HNN.out ?_ ?_ ?_ ?_ ?_
           · rfl
           · rfl
           · rfl
           · rfl))
      refine wp_region_held_drew (S := Over (World.drew y3)) (by kernel_rfl) (Over.refl _) ?_
      intro hS
      replace HBW : Hid (Below w.heap.size w (World.drew y3)) := HBW.out.drew
      replace HG3 : Hid (Blk (World.drew y3) g3 (cb pin) 23) := HG3.out.drew
      replace H6 : Hid (Blk (World.drew y3) g6 cz 32) := H6.out.drew
      change wpAnyH _ _ _ _ _ _ _ _ (World.drew y3)
      generalize World.drew y3 = y0 at *
      try simp only [Act.put, List.setIfInBounds_toArray, List.set_cons_zero, List.set_cons_succ]
      refine wpAnyH_take (i := 0) (v := .slice (some ⟨b1, o1, none⟩) nl cl) rfl (by kernel_rfl) (by kernel_rfl) (by kernel_rfl) (fun _ _ _ h => h) (Or.inl ⟨by rfl, fun wx hx => by simp [go_sem]⟩) hS ?_
      simp only [Act.put, List.getElem_toArray, List.getElem_cons_zero, List.setIfInBounds_toArray, List.set_cons_zero, List.set_cons_succ]
      refine wpAnyH_take (i := 1) (v := .int .i64 (k : Int)) rfl (by kernel_rfl) (by kernel_rfl) (by kernel_rfl) (fun _ _ _ h => h) (Or.inl ⟨by rfl, fun wx hx => by simp [go_sem]⟩) hS ?_
      simp only [Act.put, List.getElem_toArray, List.getElem_cons_succ, List.getElem_cons_zero, List.setIfInBounds_toArray, List.set_cons_zero, List.set_cons_succ]
      refine wpAnyH_take (i := 2) (v := .slice (some ⟨b1, o1, none⟩) k cl) rfl (by kernel_rfl) (by kernel_rfl) (by kernel_rfl) (fun _ _ _ h => h) (Or.inl ⟨by rfl, fun wx hx => by exact takeS_op _ _ _ _ rfl (some ⟨b1, o1, none⟩) nl cl k rfl rfl HKC.out wx⟩) hS ?_
      simp only [Act.put, List.getElem_toArray, List.getElem_cons_succ, List.getElem_cons_zero, List.setIfInBounds_toArray, List.set_cons_zero, List.set_cons_succ]
      refine wpAnyH_take (i := 3) (v := .slice (some ⟨b1, o1, none⟩) nl cl) rfl (by kernel_rfl) (by kernel_rfl) (by kernel_rfl) (fun _ _ _ h => h) (Or.inl ⟨by rfl, fun wx hx => by simp [go_sem]⟩) hS ?_
      simp only [Act.put, List.getElem_toArray, List.getElem_cons_succ, List.getElem_cons_zero, List.setIfInBounds_toArray, List.set_cons_zero, List.set_cons_succ]
      refine wpAnyH_take (i := 4) (v := .int .i64 (k : Int)) rfl (by kernel_rfl) (by kernel_rfl) (by kernel_rfl) (fun _ _ _ h => h) (Or.inl ⟨by rfl, fun wx hx => by simp [go_sem]⟩) hS ?_
      simp only [Act.put, List.getElem_toArray, List.getElem_cons_succ, List.getElem_cons_zero, List.setIfInBounds_toArray, List.set_cons_zero, List.set_cons_succ]
      refine wpAnyH_take (i := 5) (v := .pointer (some ⟨b1, o1 + k * 98, none⟩)) rfl (by kernel_rfl) (by kernel_rfl) (by kernel_rfl) (fun _ _ _ h => h) (Or.inl ⟨by rfl, fun wx hx => by exact idx98 b1 o1 cl nl k HKL.out.1 _ _ _ _ rfl rfl rfl _⟩) hS ?_
      simp only [Act.put, List.getElem_toArray, List.getElem_cons_succ, List.getElem_cons_zero, List.setIfInBounds_toArray, List.set_cons_zero, List.set_cons_succ]
      refine wpAnyH_take (i := 6) (v := .agg ck1.toArray) rfl (by kernel_rfl) (by kernel_rfl) (by kernel_rfl) (fun _ _ _ h => h) (Or.inl ⟨by rfl, fun wx hx => by exact load_run 30 _ rfl b1 (o1 + k * 98) rfl ck1 _ (HR1.out _ (HBW.out.trans (Below.mono hx HBW.out.size))) Tryd.underlying30 rfl HI1.out⟩) hS ?_
      simp only [Act.put, List.getElem_toArray, List.getElem_cons_succ, List.getElem_cons_zero, List.setIfInBounds_toArray, List.set_cons_zero, List.set_cons_succ]
      refine wpAnyH_take (i := 7) (v := .slice (some ⟨b2, o2, none⟩) nm cm) rfl (by kernel_rfl) (by kernel_rfl) (by kernel_rfl) (fun _ _ _ h => h) (Or.inl ⟨by rfl, fun wx hx => by simp [go_sem]⟩) hS ?_
      simp only [Act.put, List.getElem_toArray, List.getElem_cons_succ, List.getElem_cons_zero, List.setIfInBounds_toArray, List.set_cons_zero, List.set_cons_succ]
      refine wpAnyH_take (i := 8) (v := .int .i64 (k : Int)) rfl (by kernel_rfl) (by kernel_rfl) (by kernel_rfl) (fun _ _ _ h => h) (Or.inl ⟨by rfl, fun wx hx => by simp [go_sem]⟩) hS ?_
      simp only [Act.put, List.getElem_toArray, List.getElem_cons_succ, List.getElem_cons_zero, List.setIfInBounds_toArray, List.set_cons_zero, List.set_cons_succ]
      refine wpAnyH_take (i := 9) (v := .pointer (some ⟨b2, o2 + k * 98, none⟩)) rfl (by kernel_rfl) (by kernel_rfl) (by kernel_rfl) (fun _ _ _ h => h) (Or.inl ⟨by rfl, fun wx hx => by exact idx98 b2 o2 cm nm k HKL.out.2 _ _ _ _ rfl rfl rfl _⟩) hS ?_
      simp only [Act.put, List.getElem_toArray, List.getElem_cons_succ, List.getElem_cons_zero, List.setIfInBounds_toArray, List.set_cons_zero, List.set_cons_succ]
      refine wpAnyH_take (i := 10) (v := .agg ck2.toArray) rfl (by kernel_rfl) (by kernel_rfl) (by kernel_rfl) (fun _ _ _ h => h) (Or.inl ⟨by rfl, fun wx hx => by exact load_run 30 _ rfl b2 (o2 + k * 98) rfl ck2 _ (HR2.out _ (HBW.out.trans (Below.mono hx HBW.out.size))) Tryd.underlying30 rfl HI2.out⟩) hS ?_
      simp only [Act.put, List.getElem_toArray, List.getElem_cons_succ, List.getElem_cons_zero, List.setIfInBounds_toArray, List.set_cons_zero, List.set_cons_succ]
      refine wpAnyH_take (i := 11) (v := .agg ce.toArray) rfl (by kernel_rfl) (by kernel_rfl) (by kernel_rfl) (fun _ _ _ h => h) (Or.inl ⟨by rfl, fun wx hx => by refine build_op _ _ 32 [(0, .tmp 25), (1, .tmp 29), (2, .tmp 33)] rfl _ ?_ _; exact HBE.out _ rfl⟩) hS ?_
      simp only [Act.put, List.getElem_toArray, List.getElem_cons_succ, List.getElem_cons_zero, List.setIfInBounds_toArray, List.set_cons_zero, List.set_cons_succ]
      have hb := below_alloc y0 (.cells (evC zeroE (.slice none 0 0) (.slice none 0 0) (.slice none 0 0)).toArray 32)
      have hba : Blk (y0.alloc (.cells (evC zeroE (.slice none 0 0) (.slice none 0 0) (.slice none 0 0)).toArray 32)) y0.heap.size (evC zeroE (.slice none 0 0) (.slice none 0 0) (.slice none 0 0)) 32 := Blk.new _ _ _
      have hsz : y0.heap.size ≤ y0.heap.size := Below.size hS
      replace hS := Over.more hS hb
      refine wpAnyH_step 12 (.pointer (some ⟨y0.heap.size, 0, none⟩)) (y0.alloc (.cells (evC zeroE (.slice none 0 0) (.slice none 0 0) (.slice none 0 0)).toArray 32)) (by kernel_rfl) rfl (by rfl) (alloc_ev _ _ rfl _) hS ?_
      simp only [Act.put, List.getElem_toArray, List.getElem_cons_succ, List.getElem_cons_zero, List.setIfInBounds_toArray, List.set_cons_zero, List.set_cons_succ]
      clear hb
      generalize y0.alloc (.cells (evC zeroE (.slice none 0 0) (.slice none 0 0) (.slice none 0 0)).toArray 32) = z1 at *
      obtain ⟨ga, HGA⟩ : ∃ z, Hid (z = y0.heap.size) := ⟨_, rfl⟩
      have hgw : y0.heap.size ≤ ga := by rw [HGA.out]; exact hsz
      rw [← HGA.out] at hba ⊢
      clear HGA hsz
      refine wpAnyH_storeRow 13 32 (.tmp 9) (.tmp 34) ga (evC zeroE (.slice none 0 0) (.slice none 0 0) (.slice none 0 0)) (ce) hba HOK.out.lz HOK.out.info HOK.out.one (by kernel_rfl) rfl (by rfl) rfl rfl rfl ?_
      intro yE hs
      replace hS : Over y0 yE := Below.trans hS (hs.only.below hgw (Below.size hS))
      refine ⟨hS, ?_⟩
      simp only [Act.put, List.getElem_toArray, List.getElem_cons_succ, List.getElem_cons_zero]
      refine wpAnyH_done (by kernel_rfl) ?_ _
      replace HG3 : Hid (Blk yE g3 (cb pin) 23) := HG3.out.below hS HG3.out.lt
      replace H6 : Hid (Blk yE g6 cz 32) := H6.out.below hS H6.out.lt
      replace HBW : Hid (Below w.heap.size w yE) := HBW.out.trans (Below.mono hS HBW.out.size)
      have H9 : Hid (Blk yE ga ce 32) := hs.blk
      clear hs hS hgw
      have tk30 : Hid True := trivial
      have tk40 : Hid True := trivial
      have tk41 : Hid True := trivial
      have tk42 : Hid True := trivial
      have tk43 : Hid True := trivial
      have tk44 : Hid True := trivial
      have tk45 : Hid True := trivial
      have tk46 : Hid True := trivial
      have tk47 : Hid True := trivial
      have tk48 : Hid True := trivial
      go_wp2_with (first
        | (clear tk40; with_reducible refine wpSeq_loadW 23 (.tmp 3) g3 0 (cb pin) _ ?_ Tryd.underlying23 rfl ?_ ?_ ?_ ?_ ?_
           · exact HG3.out.range
           · exact HIP.out
           · rfl
           · rfl
           · rfl)
        | (clear tk41; with_reducible refine wpSeq_loadW 32 (.tmp 9) ga 0 ce _ ?_ Tryd.underlying32 rfl ?_ ?_ ?_ ?_ ?_
           · exact H9.out.range
           · exact HOK.out.info
           · rfl
           · rfl
           · rfl)
        | (clear tk42; go_at_call 11; refine (HCK.out yE HBW.out).mono ?_; rintro e y41 ⟨rfl, hbz⟩
           replace HG3 : Hid (Blk y41 g3 (cb pin) 23) := HG3.out.below hbz HG3.out.lt
           replace H6 : Hid (Blk y41 g6 cz 32) := H6.out.below hbz H6.out.lt
           replace H9 : Hid (Blk y41 ga ce 32) := H9.out.below hbz H9.out.lt
           replace HBW : Hid (Below w.heap.size w y41) := HBW.out.trans (hbz.mono HBW.out.size)
           clear hbz )
        | (clear tk43; with_reducible refine wpSeq_loadW 32 (.tmp 9) ga 0 ce _ ?_ Tryd.underlying32 rfl ?_ ?_ ?_ ?_ ?_
           · exact H9.out.range
           · exact HOK.out.info
           · rfl
           · rfl
           · rfl)
        | (clear tk44; go_at_call 18; refine (HCB.out y41 HBW.out).mono ?_; rintro e y42 ⟨vb, rfl, hrb, hbz⟩
           replace HG3 : Hid (Blk y42 g3 (cb pin) 23) := HG3.out.below hbz HG3.out.lt
           replace H6 : Hid (Blk y42 g6 cz 32) := H6.out.below hbz H6.out.lt
           replace H9 : Hid (Blk y42 ga ce 32) := H9.out.below hbz H9.out.lt
           replace HBW : Hid (Below w.heap.size w y42) := HBW.out.trans (hbz.mono HBW.out.size)
           obtain ⟨ab, nb, db, hvb⟩ := hrb.form
           subst hvb
           have HRB : Hid (Reads y42 (.slice ab nb db) (bytesF e)) := hrb
           clear hbz hrb)
        | (clear tk45; go_at_call 13; refine (HCR.out y42 _ HRB.out).mono ?_; rintro e y43 ⟨cs2, rfl, hef, hbz⟩
           have HLT6 : Hid (g6 < y42.heap.size) := H6.out.lt
           replace HG3 : Hid (Blk y43 g3 (cb pin) 23) := HG3.out.below hbz HG3.out.lt
           replace H6 : Hid (Blk y43 g6 cz 32) := H6.out.below hbz H6.out.lt
           replace H9 : Hid (Blk y43 ga ce 32) := H9.out.below hbz H9.out.lt
           replace HBW : Hid (Below w.heap.size w y43) := HBW.out.trans (hbz.mono HBW.out.size)
           have HB8 : Hid (Below y42.heap.size y42 y43) := hbz
           have HEF : Hid (EvF y42 y43 e cs2) := hef
           have HOE2 : Hid (EvOk e cs2) := hef.evB.ok
           have HG68 : Hid (g6 < y42.heap.size) := HLT6.out
           clear hbz hef HLT6)
        | (clear tk46; with_reducible refine wpSeq_allocE ?_ ?_ ?_
           · rfl
           · rfl
           intro g10 y44 nn)
        | (clear tk47; with_reducible refine wpSeq_storeRow 32 (.tmp 10) (.tmp 44) g10 (evC zeroE (.slice none 0 0) (.slice none 0 0) (.slice none 0 0)) cs2 ?_ ?_ ?_ ?_ ?_ ?_ ?_ ?_ ?_
           · exact nn.blk
           · exact HOE2.out.lz
           · exact HOE2.out.info
           · exact HOE2.out.one
           · rfl
           · rfl
           · rfl
           · rfl
           intro y45 hs
           have hbz := nn.below.trans (hs.only.below nn.ge nn.below.size)
           have HBK : Hid (Below y43.heap.size y43 y45) := hbz
           replace HG3 : Hid (Blk y45 g3 (cb pin) 23) := HG3.out.below hbz HG3.out.lt
           replace H6 : Hid (Blk y45 g6 cz 32) := H6.out.below hbz H6.out.lt
           replace H9 : Hid (Blk y45 ga ce 32) := H9.out.below hbz H9.out.lt
           replace HBW : Hid (Below w.heap.size w y45) := HBW.out.trans (hbz.mono HBW.out.size)
           have H10 : Hid (Blk y45 g10 cs2 32) := hs.blk
           clear nn hs hbz)
        | (clear tk48; with_reducible refine wpSeq_loadW 32 (.tmp 10) g10 0 cs2 _ ?_ Tryd.underlying32 rfl ?_ ?_ ?_ ?_ ?_
           · exact H10.out.range
           · exact HOE2.out.info
           · rfl
           · rfl
           · rfl)
        | (clear tk30; with_reducible refine wpSeq_storeRow 32 (.tmp 6) (.tmp 46) g6 cz cs2 ?_ ?_ ?_ ?_ ?_ ?_ ?_ ?_ ?_
           · exact H6.out
           · rw [HCZ.out]; exact HOE2.out.lz
           · exact HOE2.out.info
           · exact HOE2.out.one
           · rfl
           · rfl
           · rfl
           · rfl
           intro y99 hs9))
      exact bodyPost_ret (results_row_tmp (by rfl) _ _ g6 _ rfl (var_evB hs9.blk HOE2.out)) rfl ⟨cs2, by rw [HFI.out]; rfl, by
        rw [HFE.out]
        refine HEF.out y99 fun j h1 h2 => ?_
        have h3 := HG68.out
        rw [hs9.only.block j (by omega) (Nat.lt_of_lt_of_le h2 HBK.out.size), HBK.out.block j h2], HBW.out.trans (hs9.only.below HG6.out HBW.out.size)⟩
    case neg =>
      have qc : (ck == 0) = false := by rw [beq_eq_false_iff_ne]; exact hck
      have pc : (ck != 0) = true := by rw [bne, qc]; rfl
      have HF0 : Hid (findF pin l m = none) := by show _ = _; rw [HFF.out, if_neg hck]
      have HFI : Hid ((findF pin l m).isSome = false) := by show _ = _; rw [HF0.out]; rfl
      have HFE : Hid (findE pin l m = zeroE) := by show _ = _; rw [findE, HF0.out]; rfl
      clear hck
      go_enter Tryd.func21, Tryd.ntmps21
      have tk0 : Hid True := trivial
      have tk1 : Hid True := trivial
      have tk2 : Hid True := trivial
      have tk3 : Hid True := trivial
      go_upto_region 4 with (first
        | (clear tk0; with_reducible refine wpSeq_boxW 23 (.tmp 0) (cb pin) ?_ ?_ ?_ ?_
           · rfl
           · rfl
           · rfl
           intro g3 y1 nn
           have HG3 : Hid (Blk y1 g3 (cb pin) 23) := nn.blk
           replace HBW : Hid (Below w.heap.size w y1) := nn.below
           clear nn)
        | (clear tk1; with_reducible refine wpSeq_allocE ?_ ?_ ?_
           · rfl
           · rfl
           intro g6 y2 nn
           have HG6 : Hid (w.heap.size ≤ g6) := Nat.le_trans HBW.out.size nn.ge
           have H6 : Hid (Blk y2 g6 cz 32) := by rw [HCZ.out]; exact nn.blk
           replace HG3 : Hid (Blk y2 g3 (cb pin) 23) := HG3.out.below nn.below HG3.out.lt
           replace HBW : Hid (Below w.heap.size w y2) := HBW.out.trans (nn.below.mono HBW.out.size)
           clear nn)
        | (clear tk2; go_at_call 43; refine (HCU.out y2 HBW.out).mono ?_; rintro e0 y3 ⟨rfl, hbz⟩
           replace HG3 : Hid (Blk y3 g3 (cb pin) 23) := HG3.out.below hbz HG3.out.lt
           replace H6 : Hid (Blk y3 g6 cz 32) := H6.out.below hbz H6.out.lt
           replace HBW : Hid (Below w.heap.size w y3) := HBW.out.trans (hbz.mono HBW.out.size)
           clear hbz)
        | (clear tk3; with_reducible refine wpSeq_min12 (.tmp 17) (.tmp 19) nl nm n HNN.out ?_ ?_ ?_ ?_ ?_
           · rfl
           · rfl
           · rfl
           · rfl))
      refine wp_region_held_drew (S := Over (World.drew y3)) (by kernel_rfl) (Over.refl _) ?_
      intro hS
      replace HBW : Hid (Below w.heap.size w (World.drew y3)) := HBW.out.drew
      replace HG3 : Hid (Blk (World.drew y3) g3 (cb pin) 23) := HG3.out.drew
      replace H6 : Hid (Blk (World.drew y3) g6 cz 32) := H6.out.drew
      change wpAnyH _ _ _ _ _ _ _ _ (World.drew y3)
      generalize World.drew y3 = y0 at *
      try simp only [Act.put, List.setIfInBounds_toArray, List.set_cons_zero, List.set_cons_succ]
      refine wpAnyH_take (i := 0) (v := .slice (some ⟨b1, o1, none⟩) nl cl) rfl (by kernel_rfl) (by kernel_rfl) (by kernel_rfl) (fun _ _ _ h => h) (Or.inl ⟨by rfl, fun wx hx => by simp [go_sem]⟩) hS ?_
      simp only [Act.put, List.getElem_toArray, List.getElem_cons_zero, List.setIfInBounds_toArray, List.set_cons_zero, List.set_cons_succ]
      refine wpAnyH_take (i := 1) (v := .int .i64 (k : Int)) rfl (by kernel_rfl) (by kernel_rfl) (by kernel_rfl) (fun _ _ _ h => h) (Or.inl ⟨by rfl, fun wx hx => by simp [go_sem]⟩) hS ?_
      simp only [Act.put, List.getElem_toArray, List.getElem_cons_succ, List.getElem_cons_zero, List.setIfInBounds_toArray, List.set_cons_zero, List.set_cons_succ]
      refine wpAnyH_take (i := 2) (v := .slice (some ⟨b1, o1, none⟩) k cl) rfl (by kernel_rfl) (by kernel_rfl) (by kernel_rfl) (fun _ _ _ h => h) (Or.inl ⟨by rfl, fun wx hx => by exact takeS_op _ _ _ _ rfl (some ⟨b1, o1, none⟩) nl cl k rfl rfl HKC.out wx⟩) hS ?_
      simp only [Act.put, List.getElem_toArray, List.getElem_cons_succ, List.getElem_cons_zero, List.setIfInBounds_toArray, List.set_cons_zero, List.set_cons_succ]
      refine wpAnyH_take (i := 3) (v := .slice (some ⟨b1, o1, none⟩) nl cl) rfl (by kernel_rfl) (by kernel_rfl) (by kernel_rfl) (fun _ _ _ h => h) (Or.inl ⟨by rfl, fun wx hx => by simp [go_sem]⟩) hS ?_
      simp only [Act.put, List.getElem_toArray, List.getElem_cons_succ, List.getElem_cons_zero, List.setIfInBounds_toArray, List.set_cons_zero, List.set_cons_succ]
      refine wpAnyH_take (i := 4) (v := .int .i64 (k : Int)) rfl (by kernel_rfl) (by kernel_rfl) (by kernel_rfl) (fun _ _ _ h => h) (Or.inl ⟨by rfl, fun wx hx => by simp [go_sem]⟩) hS ?_
      simp only [Act.put, List.getElem_toArray, List.getElem_cons_succ, List.getElem_cons_zero, List.setIfInBounds_toArray, List.set_cons_zero, List.set_cons_succ]
      refine wpAnyH_take (i := 5) (v := .pointer (some ⟨b1, o1 + k * 98, none⟩)) rfl (by kernel_rfl) (by kernel_rfl) (by kernel_rfl) (fun _ _ _ h => h) (Or.inl ⟨by rfl, fun wx hx => by exact idx98 b1 o1 cl nl k HKL.out.1 _ _ _ _ rfl rfl rfl _⟩) hS ?_
      simp only [Act.put, List.getElem_toArray, List.getElem_cons_succ, List.getElem_cons_zero, List.setIfInBounds_toArray, List.set_cons_zero, List.set_cons_succ]
      refine wpAnyH_take (i := 6) (v := .agg ck1.toArray) rfl (by kernel_rfl) (by kernel_rfl) (by kernel_rfl) (fun _ _ _ h => h) (Or.inl ⟨by rfl, fun wx hx => by exact load_run 30 _ rfl b1 (o1 + k * 98) rfl ck1 _ (HR1.out _ (HBW.out.trans (Below.mono hx HBW.out.size))) Tryd.underlying30 rfl HI1.out⟩) hS ?_
      simp only [Act.put, List.getElem_toArray, List.getElem_cons_succ, List.getElem_cons_zero, List.setIfInBounds_toArray, List.set_cons_zero, List.set_cons_succ]
      refine wpAnyH_take (i := 7) (v := .slice (some ⟨b2, o2, none⟩) nm cm) rfl (by kernel_rfl) (by kernel_rfl) (by kernel_rfl) (fun _ _ _ h => h) (Or.inl ⟨by rfl, fun wx hx => by simp [go_sem]⟩) hS ?_
      simp only [Act.put, List.getElem_toArray, List.getElem_cons_succ, List.getElem_cons_zero, List.setIfInBounds_toArray, List.set_cons_zero, List.set_cons_succ]
      refine wpAnyH_take (i := 8) (v := .int .i64 (k : Int)) rfl (by kernel_rfl) (by kernel_rfl) (by kernel_rfl) (fun _ _ _ h => h) (Or.inl ⟨by rfl, fun wx hx => by simp [go_sem]⟩) hS ?_
      simp only [Act.put, List.getElem_toArray, List.getElem_cons_succ, List.getElem_cons_zero, List.setIfInBounds_toArray, List.set_cons_zero, List.set_cons_succ]
      refine wpAnyH_take (i := 9) (v := .pointer (some ⟨b2, o2 + k * 98, none⟩)) rfl (by kernel_rfl) (by kernel_rfl) (by kernel_rfl) (fun _ _ _ h => h) (Or.inl ⟨by rfl, fun wx hx => by exact idx98 b2 o2 cm nm k HKL.out.2 _ _ _ _ rfl rfl rfl _⟩) hS ?_
      simp only [Act.put, List.getElem_toArray, List.getElem_cons_succ, List.getElem_cons_zero, List.setIfInBounds_toArray, List.set_cons_zero, List.set_cons_succ]
      refine wpAnyH_take (i := 10) (v := .agg ck2.toArray) rfl (by kernel_rfl) (by kernel_rfl) (by kernel_rfl) (fun _ _ _ h => h) (Or.inl ⟨by rfl, fun wx hx => by exact load_run 30 _ rfl b2 (o2 + k * 98) rfl ck2 _ (HR2.out _ (HBW.out.trans (Below.mono hx HBW.out.size))) Tryd.underlying30 rfl HI2.out⟩) hS ?_
      simp only [Act.put, List.getElem_toArray, List.getElem_cons_succ, List.getElem_cons_zero, List.setIfInBounds_toArray, List.set_cons_zero, List.set_cons_succ]
      refine wpAnyH_take (i := 11) (v := .agg ce.toArray) rfl (by kernel_rfl) (by kernel_rfl) (by kernel_rfl) (fun _ _ _ h => h) (Or.inl ⟨by rfl, fun wx hx => by refine build_op _ _ 32 [(0, .tmp 25), (1, .tmp 29), (2, .tmp 33)] rfl _ ?_ _; exact HBE.out _ rfl⟩) hS ?_
      simp only [Act.put, List.getElem_toArray, List.getElem_cons_succ, List.getElem_cons_zero, List.setIfInBounds_toArray, List.set_cons_zero, List.set_cons_succ]
      have hb := below_alloc y0 (.cells (evC zeroE (.slice none 0 0) (.slice none 0 0) (.slice none 0 0)).toArray 32)
      have hba : Blk (y0.alloc (.cells (evC zeroE (.slice none 0 0) (.slice none 0 0) (.slice none 0 0)).toArray 32)) y0.heap.size (evC zeroE (.slice none 0 0) (.slice none 0 0) (.slice none 0 0)) 32 := Blk.new _ _ _
      have hsz : y0.heap.size ≤ y0.heap.size := Below.size hS
      replace hS := Over.more hS hb
      refine wpAnyH_step 12 (.pointer (some ⟨y0.heap.size, 0, none⟩)) (y0.alloc (.cells (evC zeroE (.slice none 0 0) (.slice none 0 0) (.slice none 0 0)).toArray 32)) (by kernel_rfl) rfl (by rfl) (alloc_ev _ _ rfl _) hS ?_
      simp only [Act.put, List.getElem_toArray, List.getElem_cons_succ, List.getElem_cons_zero, List.setIfInBounds_toArray, List.set_cons_zero, List.set_cons_succ]
      clear hb
      generalize y0.alloc (.cells (evC zeroE (.slice none 0 0) (.slice none 0 0) (.slice none 0 0)).toArray 32) = z1 at *
      obtain ⟨ga, HGA⟩ : ∃ z, Hid (z = y0.heap.size) := ⟨_, rfl⟩
      have hgw : y0.heap.size ≤ ga := by rw [HGA.out]; exact hsz
      rw [← HGA.out] at hba ⊢
      clear HGA hsz
      refine wpAnyH_storeRow 13 32 (.tmp 9) (.tmp 34) ga (evC zeroE (.slice none 0 0) (.slice none 0 0) (.slice none 0 0)) (ce) hba HOK.out.lz HOK.out.info HOK.out.one (by kernel_rfl) rfl (by rfl) rfl rfl rfl ?_
      intro yE hs
      replace hS : Over y0 yE := Below.trans hS (hs.only.below hgw (Below.size hS))
      refine ⟨hS, ?_⟩
      simp only [Act.put, List.getElem_toArray, List.getElem_cons_succ, List.getElem_cons_zero]
      refine wpAnyH_done (by kernel_rfl) ?_ _
      replace HG3 : Hid (Blk yE g3 (cb pin) 23) := HG3.out.below hS HG3.out.lt
      replace H6 : Hid (Blk yE g6 cz 32) := H6.out.below hS H6.out.lt
      replace HBW : Hid (Below w.heap.size w yE) := HBW.out.trans (Below.mono hS HBW.out.size)
      have H9 : Hid (Blk yE ga ce 32) := hs.blk
      clear hs hS hgw
      have tk20 : Hid True := trivial
      have tk21 : Hid True := trivial
      have tk40 : Hid True := trivial
      have tk41 : Hid True := trivial
      have tk42 : Hid True := trivial
      go_wp2_with (first
        | (clear tk40; with_reducible refine wpSeq_loadW 23 (.tmp 3) g3 0 (cb pin) _ ?_ Tryd.underlying23 rfl ?_ ?_ ?_ ?_ ?_
           · exact HG3.out.range
           · exact HIP.out
           · rfl
           · rfl
           · rfl)
        | (clear tk41; with_reducible refine wpSeq_loadW 32 (.tmp 9) ga 0 ce _ ?_ Tryd.underlying32 rfl ?_ ?_ ?_ ?_ ?_
           · exact H9.out.range
           · exact HOK.out.info
           · rfl
           · rfl
           · rfl)
        | (clear tk42; go_at_call 11; refine (HCK.out yE HBW.out).mono ?_; rintro e y41 ⟨rfl, hbz⟩
           replace HG3 : Hid (Blk y41 g3 (cb pin) 23) := HG3.out.below hbz HG3.out.lt
           replace H6 : Hid (Blk y41 g6 cz 32) := H6.out.below hbz H6.out.lt
           replace H9 : Hid (Blk y41 ga ce 32) := H9.out.below hbz H9.out.lt
           replace HBW : Hid (Below w.heap.size w y41) := HBW.out.trans (hbz.mono HBW.out.size)
           clear hbz )
        | (clear tk20; with_reducible refine wpSeq_build 32 [] cz ?_ ?_ ?_ ?_
           · exact (built_evid []).trans (by rw [HCZ.out]; rfl)
           · rfl
           · rfl)
        | (clear tk21; with_reducible refine wpSeq_storeRow 32 (.tmp 6) (.tmp 39) g6 cz cz ?_ ?_ ?_ ?_ ?_ ?_ ?_ ?_ ?_
           · exact H6.out
           · rfl
           · exact HOZ.out.info
           · exact HOZ.out.one
           · rfl
           · rfl
           · rfl
           · rfl
           intro y99 hs9))
      exact bodyPost_ret (results_row_tmp (by rfl) _ _ g6 _ rfl (var_evB hs9.blk HOZ.out)) rfl ⟨cz, by rw [HFI.out]; rfl, by rw [HFE.out, HCZ.out]; exact EvB.zero _, HBW.out.trans (hs9.only.below HG6.out HBW.out.size)⟩
/-- what fork's functions do -/
theorem fkOps : FkOps where
  check := fun W pin e cs hK hp hE hn => fkCheck_any pin e cs W hK hp hE hn
  bytes := fun W e cs _ hE h64 hsz => fkBytes_any e cs W hE h64 hsz
  read := fun W v b _ hb _ => fkRead_any v b W hb
  accept := fun W pin v b hK hp hb _ => fkAccept_any pin v b W hK hp hb
  find := fun W pin v u l m hK hp hl hm h1 h2 h3 h4 => fkFind_any pin v u l m W hK hp hl hm h1 h2 h3 h4
end Go.Proofs.YtableajopaappaaDoor
/- ForkFinds, over what fork\'s functions do (layer 12). -/
namespace Go.Proofs.YtableajopaappaaDoor
open Go.RowKit Go.Shelf
set_option maxRecDepth 100000
end Go.Proofs.YtableajopaappaaDoor
/- ForkSound, over what fork's functions do (layer 12). -/
namespace Go.Proofs.YtableajopaappaaDoor
open Go.RowKit Go.Shelf
set_option maxRecDepth 100000
structure SoI (w : World) (g3 g5 : Nat) (seed : Bs) (cev : List Value) (v7 v8 : Value) (own la : List SgT) (W : World) : Prop where
  a : Blk W g3 (cb seed) 23
  b : Blk W g5 cev 32
  o : ReadsS W v7 own
  l : ReadsS W v8 la
  bel : Below w.heap.size w W
theorem SoI.next {w : World} {g3 g5 : Nat} {seed : Bs} {cev : List Value} {v7 v8 : Value} {own la : List SgT} {W W' : World} (h : SoI w g3 g5 seed cev v7 v8 own la W) (hb : Below W.heap.size W W') : SoI w g3 g5 seed cev v7 v8 own la W' := ⟨h.a.below hb h.a.lt, h.b.below hb h.b.lt, h.o.below hb, h.l.below hb, h.bel.trans (hb.mono h.bel.size)⟩
theorem SoI.drew {w : World} {g3 g5 : Nat} {seed : Bs} {cev : List Value} {v7 v8 : Value} {own la : List SgT} {W : World} (h : SoI w g3 g5 seed cev v7 v8 own la W) : SoI w g3 g5 seed cev v7 v8 own la W.drew := h.next (Below.refl _ _).drew
theorem nil_rbS {s : SgT} (os : okS s) : ([] : Bs) ≠ rbS s := fun h => by
  have := len_rbS os
  rw [← h] at this
  cases this
set_option maxRecDepth 100000 in
set_option maxHeartbeats 8000000 in
theorem forkSound_law (hO : FkOps) (seed : Bs) (vt0 : Value) (ts : List Bs) (e : EvT) (cs : List Value) (w : World) (hK : KOk w) (hs : seed.length = 32) (ht : ReadsD w vt0 ts) (hE : EvB w e cs) :
    Calls Tryd.prog 7 #[.agg (cb seed).toArray, vt0, .agg cs.toArray] w fun r w' => r = .returned (.bool true) ∧ Below w.heap.size w w' := by
  obtain ⟨vt, va, vb, hcs, he⟩ := hE.open
  subst hcs
  obtain ⟨adt, ct, hvt⟩ := he.tr.form
  obtain ⟨ada, na, ca, hva⟩ := he.a.form
  obtain ⟨adb, nb, cc, hvb⟩ := he.b.form
  obtain ⟨nt, HNT⟩ : ∃ n, Hid (n = e.1.length) := ⟨_, rfl⟩
  rw [← HNT.out] at hvt
  subst hvt hva hvb
  obtain ⟨cev, HCE⟩ : ∃ c, Hid (c = evC e (.slice adt nt ct) (.slice ada na ca) (.slice adb nb cc)) := ⟨_, rfl⟩
  rw [← HCE.out]
  have HEV : Hid (EvIs w e (.slice adt nt ct) (.slice ada na ca) (.slice adb nb cc)) := he
  have HIE : Hid ((Tryd.prog.info? 32).map (·.size) = some cev.length) := by show _ = _; rw [HCE.out]; exact info_evC he.oa he.ob _ _ _
  have HAT : Hid (∀ (W : World) (g : Nat), Blk W g cev 32 → EvAt W g 0 e (.slice adt nt ct) (.slice ada na ca) (.slice adb nb cc)) := fun W g hg => by rw [HCE.out] at hg; exact hg.evAt HEV.out.oa HEV.out.ob
  obtain ⟨csa, HSA⟩ : ∃ c, Hid (c = sgC e.2.1 (.slice ada na ca)) := ⟨_, rfl⟩
  obtain ⟨csb, HSB⟩ : ∃ c, Hid (c = sgC e.2.2 (.slice adb nb cc)) := ⟨_, rfl⟩
  have HIS : Hid ((Tryd.prog.info? 30).map (·.size) = some csa.length ∧ (Tryd.prog.info? 30).map (·.size) = some csb.length) := by rw [HSA.out, HSB.out]; exact ⟨info_sgC HEV.out.oa _, info_sgC HEV.out.ob _⟩
  have HRG : Hid (∀ (W : World) (g : Nat), Blk W g cev 32 → W.rangeAt g 1 csa ∧ W.rangeAt g 99 csb) := fun W g hg => by rw [HSA.out, HSB.out]; have h := HAT.out W g hg; refine ⟨?_, ?_⟩; have := h.a.all; rwa [Nat.zero_add] at this; have := h.b.all; rwa [Nat.zero_add] at this
  clear he
  obtain ⟨⟨aT, cT, hvt, hq⟩, hq2⟩ := id ht
  clear hq hq2
  obtain ⟨nT, HNTT⟩ : ∃ n, Hid (n = ts.length) := ⟨_, rfl⟩
  rw [← HNTT.out] at hvt
  subst hvt
  have HRD : Hid (ReadsD w (.slice aT nT cT) ts) := ht
  have HRD0 : Hid (ReadsD w (.slice aT nT cT) ts) := ht
  have HSL : Hid (seed.length = 32) := hs
  have HIS0 : Hid ((Tryd.prog.info? 23).map (·.size) = some (cb seed).length) := by show _ = _; rw [cb_len, hs]; exact info_digest
  have HBW : Hid (Below w.heap.size w w) := Below.refl _ _
  have HEB : Hid (EvB w e cev) := by rw [HCE.out]; exact HEV.out.evB
  obtain ⟨bl, HBL⟩ : ∃ b, Hid (b = lightR e) := ⟨_, rfl⟩
  have HL : Hid (∀ W : World, Below w.heap.size w W → Calls Tryd.prog 9 #[.agg cev.toArray] W fun r w' => r = .returned (.bool bl) ∧ Below W.heap.size W w') := fun W hh => by rw [HBL.out]; exact light12_any e cev W (HEB.out.below hh)
  have HW : Hid (∀ W : World, Below w.heap.size w W → Calls Tryd.prog 10 #[] W fun r w' => r = .returned (.bool true) ∧ Below W.heap.size W w') := fun W hh => works12_any hO W (hK.below hh hK.lt)
  cases bl with
  | false =>
    clear hO hK hs ht hE HBL
    go_enter Tryd.func7, Tryd.ntmps7
    have tk0 : Hid True := trivial
    have tk1 : Hid True := trivial
    have tk2 : Hid True := trivial
    have tk3 : Hid True := trivial
    have tk4 : Hid True := trivial
    go_wp2_with (first
      | (clear tk0; with_reducible refine wpSeq_boxW 23 (.tmp 0) (cb seed) ?_ ?_ ?_ ?_
         · rfl
         · rfl
         · rfl
         intro g3 y1 nn
         replace HRD : Hid (ReadsD y1 (.slice aT nT cT) ts) := HRD.out.below nn.below
         replace HBW : Hid (Below w.heap.size w y1) := HBW.out.trans (nn.below.mono HBW.out.size)
         have H3 : Hid (Blk y1 g3 (cb seed) 23) := nn.blk
         clear nn
         skip)
      | (clear tk1; with_reducible refine wpSeq_boxW 32 (.tmp 2) cev ?_ ?_ ?_ ?_
         · rfl
         · rfl
         · rfl
         intro g5 y2 nn
         replace H3 : Hid (Blk y2 g3 (cb seed) 23) := H3.out.below nn.below H3.out.lt
         replace HRD : Hid (ReadsD y2 (.slice aT nT cT) ts) := HRD.out.below nn.below
         replace HBW : Hid (Below w.heap.size w y2) := HBW.out.trans (nn.below.mono HBW.out.size)
         have H5 : Hid (Blk y2 g5 cev 32) := nn.blk
         clear nn
         have cet : (y2).cell? ⟨g5, 0, none⟩ = some (.slice adt nt ct) := (HAT.out _ _ H5.out).tr
         skip)
      | (clear tk2; with_reducible refine wpSeq_loadW 32 (.tmp 5) g5 0 cev _ ?_ Tryd.underlying32 rfl ?_ ?_ ?_ ?_ ?_
         · exact H5.out.range
         · exact HIE.out
         · rfl
         · rfl
         · rfl)
      | (clear tk3; go_at_call 9; refine (HL.out y2 HBW.out).mono ?_; rintro e y3 ⟨rfl, hbz⟩
         clear cet
         replace H3 : Hid (Blk y3 g3 (cb seed) 23) := H3.out.below hbz H3.out.lt
         replace H5 : Hid (Blk y3 g5 cev 32) := H5.out.below hbz H5.out.lt
         replace HRD : Hid (ReadsD y3 (.slice aT nT cT) ts) := HRD.out.below hbz
         replace HBW : Hid (Below w.heap.size w y3) := HBW.out.trans (hbz.mono HBW.out.size)
         have cet : (y3).cell? ⟨g5, 0, none⟩ = some (.slice adt nt ct) := (HAT.out _ _ H5.out).tr
         clear hbz )
      | (clear tk4; go_at_call 10; refine (HW.out y3 HBW.out).mono ?_; rintro e y4 ⟨rfl, hbz⟩
         clear cet
         replace H3 : Hid (Blk y4 g3 (cb seed) 23) := H3.out.below hbz H3.out.lt
         replace H5 : Hid (Blk y4 g5 cev 32) := H5.out.below hbz H5.out.lt
         replace HRD : Hid (ReadsD y4 (.slice aT nT cT) ts) := HRD.out.below hbz
         replace HBW : Hid (Below w.heap.size w y4) := HBW.out.trans (hbz.mono HBW.out.size)
         have cet : (y4).cell? ⟨g5, 0, none⟩ = some (.slice adt nt ct) := (HAT.out _ _ H5.out).tr
         clear hbz ))
    go_ret
    exact ⟨rfl, HBW.out⟩
  | true =>
    have hlen := lightR_len HBL.out.symm
    by_cases hn5 : 5 < nT
    · have hi5 : (5 : Int) < (nT : Int) := by omega
      clear hO hK hs ht hE HBL hlen
      go_enter Tryd.func7, Tryd.ntmps7
      have tk0 : Hid True := trivial
      have tk1 : Hid True := trivial
      have tk2 : Hid True := trivial
      have tk3 : Hid True := trivial
      have tk4 : Hid True := trivial
      go_wp2_with (first
        | (clear tk0; with_reducible refine wpSeq_boxW 23 (.tmp 0) (cb seed) ?_ ?_ ?_ ?_
           · rfl
           · rfl
           · rfl
           intro g3 y1 nn
           replace HRD : Hid (ReadsD y1 (.slice aT nT cT) ts) := HRD.out.below nn.below
           replace HBW : Hid (Below w.heap.size w y1) := HBW.out.trans (nn.below.mono HBW.out.size)
           have H3 : Hid (Blk y1 g3 (cb seed) 23) := nn.blk
           clear nn
           skip)
        | (clear tk1; with_reducible refine wpSeq_boxW 32 (.tmp 2) cev ?_ ?_ ?_ ?_
           · rfl
           · rfl
           · rfl
           intro g5 y2 nn
           replace H3 : Hid (Blk y2 g3 (cb seed) 23) := H3.out.below nn.below H3.out.lt
           replace HRD : Hid (ReadsD y2 (.slice aT nT cT) ts) := HRD.out.below nn.below
           replace HBW : Hid (Below w.heap.size w y2) := HBW.out.trans (nn.below.mono HBW.out.size)
           have H5 : Hid (Blk y2 g5 cev 32) := nn.blk
           clear nn
           have cet : (y2).cell? ⟨g5, 0, none⟩ = some (.slice adt nt ct) := (HAT.out _ _ H5.out).tr
           skip)
        | (clear tk2; with_reducible refine wpSeq_loadW 32 (.tmp 5) g5 0 cev _ ?_ Tryd.underlying32 rfl ?_ ?_ ?_ ?_ ?_
           · exact H5.out.range
           · exact HIE.out
           · rfl
           · rfl
           · rfl)
        | (clear tk3; go_at_call 9; refine (HL.out y2 HBW.out).mono ?_; rintro e y3 ⟨rfl, hbz⟩
           clear cet
           replace H3 : Hid (Blk y3 g3 (cb seed) 23) := H3.out.below hbz H3.out.lt
           replace H5 : Hid (Blk y3 g5 cev 32) := H5.out.below hbz H5.out.lt
           replace HRD : Hid (ReadsD y3 (.slice aT nT cT) ts) := HRD.out.below hbz
           replace HBW : Hid (Below w.heap.size w y3) := HBW.out.trans (hbz.mono HBW.out.size)
           have cet : (y3).cell? ⟨g5, 0, none⟩ = some (.slice adt nt ct) := (HAT.out _ _ H5.out).tr
           clear hbz )
        | (clear tk4; go_at_call 10; refine (HW.out y3 HBW.out).mono ?_; rintro e y4 ⟨rfl, hbz⟩
           clear cet
           replace H3 : Hid (Blk y4 g3 (cb seed) 23) := H3.out.below hbz H3.out.lt
           replace H5 : Hid (Blk y4 g5 cev 32) := H5.out.below hbz H5.out.lt
           replace HRD : Hid (ReadsD y4 (.slice aT nT cT) ts) := HRD.out.below hbz
           replace HBW : Hid (Below w.heap.size w y4) := HBW.out.trans (hbz.mono HBW.out.size)
           have cet : (y4).cell? ⟨g5, 0, none⟩ = some (.slice adt nt ct) := (HAT.out _ _ H5.out).tr
           clear hbz ))
      go_ret
      exact ⟨rfl, HBW.out⟩
    have hi5 : ¬ ((5 : Int) < (nT : Int)) := by omega
    obtain ⟨pin, HPI⟩ : ∃ p, Hid (p = pubR seed 1) := ⟨_, rfl⟩
    have HPL : Hid (pin.length = 32) := by show _ = _; rw [HPI.out]; exact len_pubR _ _
    have HPN : Hid (∀ W : World, Calls Tryd.prog 25 #[.agg (cb seed).toArray] W fun r w' => r = .returned (.agg (cb pin).toArray) ∧ Below W.heap.size W w') := fun W => by rw [HPI.out]; exact qcPin_any seed W HSL.out
    obtain ⟨ck, HCK0⟩ : ∃ c, Hid (c = checkF pin e) := ⟨_, rfl⟩
    have HCK : Hid (∀ W : World, Below w.heap.size w W → Calls Tryd.prog 11 #[.agg (cb pin).toArray, .agg cev.toArray] W fun r w' => r = .returned (.int .i64 ck) ∧ Below W.heap.size W w') := fun W hh => by rw [HCK0.out]; exact hO.check W pin e cev (hK.below hh hK.lt) HPL.out (HEB.out.below hh) (by omega)
    by_cases hck : ck = 0
    case neg =>
      have qc : (ck == 0) = false := by rw [beq_eq_false_iff_ne]; exact hck
      have pc : (ck != 0) = true := by rw [bne, qc]; rfl
      clear hO hK hs ht hE HBL hlen hn5 hck HCK0 HPI
      go_enter Tryd.func7, Tryd.ntmps7
      have tk0 : Hid True := trivial
      have tk1 : Hid True := trivial
      have tk2 : Hid True := trivial
      have tk3 : Hid True := trivial
      go_upto_region 3 with (first
        | (clear tk0; with_reducible refine wpSeq_boxW 23 (.tmp 0) (cb seed) ?_ ?_ ?_ ?_
           · rfl
           · rfl
           · rfl
           intro g3 y1 nn
           replace HRD : Hid (ReadsD y1 (.slice aT nT cT) ts) := HRD.out.below nn.below
           replace HBW : Hid (Below w.heap.size w y1) := HBW.out.trans (nn.below.mono HBW.out.size)
           have H3 : Hid (Blk y1 g3 (cb seed) 23) := nn.blk
           clear nn
           skip)
        | (clear tk1; with_reducible refine wpSeq_boxW 32 (.tmp 2) cev ?_ ?_ ?_ ?_
           · rfl
           · rfl
           · rfl
           intro g5 y2 nn
           replace H3 : Hid (Blk y2 g3 (cb seed) 23) := H3.out.below nn.below H3.out.lt
           replace HRD : Hid (ReadsD y2 (.slice aT nT cT) ts) := HRD.out.below nn.below
           replace HBW : Hid (Below w.heap.size w y2) := HBW.out.trans (nn.below.mono HBW.out.size)
           have H5 : Hid (Blk y2 g5 cev 32) := nn.blk
           clear nn
           have cet : (y2).cell? ⟨g5, 0, none⟩ = some (.slice adt nt ct) := (HAT.out _ _ H5.out).tr
           skip)
        | (clear tk2; with_reducible refine wpSeq_loadW 32 (.tmp 5) g5 0 cev _ ?_ Tryd.underlying32 rfl ?_ ?_ ?_ ?_ ?_
           · exact H5.out.range
           · exact HIE.out
           · rfl
           · rfl
           · rfl)
        | (clear tk3; go_at_call 9; refine (HL.out y2 HBW.out).mono ?_; rintro e y3 ⟨rfl, hbz⟩
           clear cet
           replace H3 : Hid (Blk y3 g3 (cb seed) 23) := H3.out.below hbz H3.out.lt
           replace H5 : Hid (Blk y3 g5 cev 32) := H5.out.below hbz H5.out.lt
           replace HRD : Hid (ReadsD y3 (.slice aT nT cT) ts) := HRD.out.below hbz
           replace HBW : Hid (Below w.heap.size w y3) := HBW.out.trans (hbz.mono HBW.out.size)
           have cet : (y3).cell? ⟨g5, 0, none⟩ = some (.slice adt nt ct) := (HAT.out _ _ H5.out).tr
           clear hbz ))
      refine wp_region_held_drew (S := Over (World.drew y3)) (by kernel_rfl) (Over.refl _) ?_
      intro hS
      replace H3 : Hid (Blk (World.drew y3) g3 (cb seed) 23) := H3.out.drew
      replace H5 : Hid (Blk (World.drew y3) g5 cev 32) := H5.out.drew
      replace HBW : Hid (Below w.heap.size w (World.drew y3)) := HBW.out.drew
      change wpAnyH _ _ _ _ _ _ _ _ (World.drew y3)
      generalize World.drew y3 = y0 at *
      try simp only [Act.put, List.setIfInBounds_toArray, List.set_cons_zero, List.set_cons_succ]
      refine wpAnyH_take (i := 0) (v := .agg (cb seed).toArray) rfl (by kernel_rfl) (by kernel_rfl) (by kernel_rfl) (fun _ _ _ h => h) (Or.inl ⟨by rfl, fun wx hx => by exact loadDigest _ g3 seed HSL.out (H3.out.below hx H3.out.lt) rfl rfl⟩) hS ?_
      simp only [Act.put, List.getElem_toArray, List.getElem_cons_zero, List.setIfInBounds_toArray, List.set_cons_zero, List.set_cons_succ]
      refine wpAnyH_take (i := 2) (v := .agg cev.toArray) rfl (by kernel_rfl) (by kernel_rfl) (by kernel_rfl) (fun _ _ _ h => h) (Or.inl ⟨by rfl, fun wx hx => by exact load_run 32 _ rfl g5 0 rfl cev _ (H5.out.below hx H5.out.lt).range Tryd.underlying32 rfl HIE.out⟩) hS ?_
      simp only [Act.put, List.getElem_toArray, List.getElem_cons_succ, List.getElem_cons_zero, List.setIfInBounds_toArray, List.set_cons_zero, List.set_cons_succ]
      refine wpAnyH_enter 1 (by kernel_rfl) rfl (by rfl) (f := 25) (args := #[.agg (cb seed).toArray]) (by simp [go_sem]) (HPN.out _) ?_
      rintro e z1 ⟨rfl, hb⟩
      replace hS := Over.more hS hb
      refine ⟨_, rfl, hS, ?_⟩
      clear hb 
      simp only [Act.put, List.getElem_toArray, List.getElem_cons_succ, List.getElem_cons_zero, List.setIfInBounds_toArray, List.set_cons_zero, List.set_cons_succ]
      refine wpAnyH_enter 3 (by kernel_rfl) rfl (by rfl) (f := 11) (args := #[.agg (cb pin).toArray, .agg cev.toArray]) (by simp [go_sem]) (HCK.out _ (HBW.out.trans (Below.mono hS HBW.out.size))) ?_
      rintro e z2 ⟨rfl, hb⟩
      replace hS := Over.more hS hb
      refine ⟨_, rfl, hS, ?_⟩
      clear hb 
      simp only [Act.put, List.getElem_toArray, List.getElem_cons_succ, List.getElem_cons_zero, List.setIfInBounds_toArray, List.set_cons_zero, List.set_cons_succ]
      refine wpAnyH_take (i := 4) (v := .bool true) rfl (by kernel_rfl) (by kernel_rfl) (by kernel_rfl) (fun _ _ _ h => h) (Or.inl ⟨by rfl, fun wx hx => by simp [go_sem, pc]⟩) hS ?_
      simp only [Act.put, List.getElem_toArray, List.getElem_cons_succ, List.getElem_cons_zero, List.setIfInBounds_toArray, List.set_cons_zero, List.set_cons_succ]
      refine wpAnyH_done (by kernel_rfl) ?_ _
      replace H3 : Hid (Blk z2 g3 (cb seed) 23) := H3.out.below hS H3.out.lt
      replace H5 : Hid (Blk z2 g5 cev 32) := H5.out.below hS H5.out.lt
      replace HBW : Hid (Below w.heap.size w z2) := HBW.out.trans (Below.mono hS HBW.out.size)
      have HRD2 : Hid (ReadsD z2 (.slice aT nT cT) ts) := HRD0.out.below HBW.out
      clear hS HRD cet
      generalize z2 = zz at *
      have tk30 : Hid True := trivial
      go_wp2_with (first
        | (clear tk30; go_at_call 10; refine (HW.out zz HBW.out).mono ?_; rintro e y31 ⟨rfl, hbz⟩
           replace H3 : Hid (Blk y31 g3 (cb seed) 23) := H3.out.below hbz H3.out.lt
           replace H5 : Hid (Blk y31 g5 cev 32) := H5.out.below hbz H5.out.lt
           replace HBW : Hid (Below w.heap.size w y31) := HBW.out.trans (hbz.mono HBW.out.size)
           clear hbz ))
      go_ret
      exact ⟨rfl, HBW.out⟩
    case pos =>
      have qc : (ck == 0) = true := by rw [beq_iff_eq]; exact hck
      have pc : (ck != 0) = false := by rw [bne, qc]; rfl
      have hholds : holdsF (pubR seed 1) e := by rw [← HPI.out]; exact (checkF_ok _ _).1 (by rw [← HCK0.out]; exact hck)
      have HAB : Hid (e.2.1.1 ≠ e.2.2.1) := hholds.2.2.2
      obtain ⟨own, HOWN⟩ : ∃ o, Hid (o = honestR seed (stR (pubR seed 1)) ts) := ⟨_, rfl⟩
      obtain ⟨no, HNO⟩ : ∃ n, Hid (n = own.length) := ⟨_, rfl⟩
      obtain ⟨la, HLA⟩ : ∃ o, Hid (o = e.1 ++ [e.2.1]) := ⟨_, rfl⟩
      obtain ⟨N, HNA⟩ : ∃ n, Hid (n = la.length) := ⟨_, rfl⟩
      have HNL : Hid (N = e.1.length + 1) := by show _ = _; rw [HNA.out, HLA.out]; simp
      have HN41 : Hid (N ≤ 41) := by show _ ≤ _; rw [HNL.out]; omega
      have HTL : Hid (e.1.length < 1000000) := by show _ < _; omega
      have HHO : Hid (∀ W : World, ReadsD W (.slice aT nT cT) ts → Calls Tryd.prog 26 #[.agg (cb seed).toArray, .slice aT nT cT] W fun r w' => ∃ v, r = .returned v ∧ ReadsS w' v own ∧ Below W.heap.size W w') := fun W hh => by rw [HOWN.out]; exact qcHonest_any seed _ ts W HSL.out hh (by rw [← HNTT.out]; omega)
      have HSN : Hid (∀ i, i < N → (∀ j, j < i → j < no ∧ (la.getD j zeroS).1 = (own.getD j zeroS).1) → checkE (pubR seed (i + 1)) (rbS (la.getD i zeroS)) (la.getD i zeroS).2 = 0 ∧ (i + 1 = N → checkE (pubR seed (i + 1)) (rbS e.2.2) e.2.2.2 = 0)) := fun i hi hj => by
        rw [HNA.out, HLA.out] at hi ⊢
        rw [HNO.out, HOWN.out, HLA.out] at hj
        exact sound_at (tr := e.1) (A := e.2.1) (B := e.2.2) hholds ts hi hj
      have HLAST : Hid (la.getD (N - 1) zeroS = e.2.1) := by
        show _ = _
        rw [HNL.out, HLA.out, Nat.add_sub_cancel, List.getD_eq_getElem?_getD, List.getElem?_append_right (Nat.le_refl _), Nat.sub_self]
        rfl
      clear hO hK hs ht hE HBL hlen hn5 hck HCK0 HPI hholds HOWN
      go_enter Tryd.func7, Tryd.ntmps7
      have tk0 : Hid True := trivial
      have tk1 : Hid True := trivial
      have tk2 : Hid True := trivial
      have tk3 : Hid True := trivial
      go_upto_region 3 with (first
        | (clear tk0; with_reducible refine wpSeq_boxW 23 (.tmp 0) (cb seed) ?_ ?_ ?_ ?_
           · rfl
           · rfl
           · rfl
           intro g3 y1 nn
           replace HRD : Hid (ReadsD y1 (.slice aT nT cT) ts) := HRD.out.below nn.below
           replace HBW : Hid (Below w.heap.size w y1) := HBW.out.trans (nn.below.mono HBW.out.size)
           have H3 : Hid (Blk y1 g3 (cb seed) 23) := nn.blk
           clear nn
           skip)
        | (clear tk1; with_reducible refine wpSeq_boxW 32 (.tmp 2) cev ?_ ?_ ?_ ?_
           · rfl
           · rfl
           · rfl
           intro g5 y2 nn
           replace H3 : Hid (Blk y2 g3 (cb seed) 23) := H3.out.below nn.below H3.out.lt
           replace HRD : Hid (ReadsD y2 (.slice aT nT cT) ts) := HRD.out.below nn.below
           replace HBW : Hid (Below w.heap.size w y2) := HBW.out.trans (nn.below.mono HBW.out.size)
           have H5 : Hid (Blk y2 g5 cev 32) := nn.blk
           clear nn
           have cet : (y2).cell? ⟨g5, 0, none⟩ = some (.slice adt nt ct) := (HAT.out _ _ H5.out).tr
           skip)
        | (clear tk2; with_reducible refine wpSeq_loadW 32 (.tmp 5) g5 0 cev _ ?_ Tryd.underlying32 rfl ?_ ?_ ?_ ?_ ?_
           · exact H5.out.range
           · exact HIE.out
           · rfl
           · rfl
           · rfl)
        | (clear tk3; go_at_call 9; refine (HL.out y2 HBW.out).mono ?_; rintro e y3 ⟨rfl, hbz⟩
           clear cet
           replace H3 : Hid (Blk y3 g3 (cb seed) 23) := H3.out.below hbz H3.out.lt
           replace H5 : Hid (Blk y3 g5 cev 32) := H5.out.below hbz H5.out.lt
           replace HRD : Hid (ReadsD y3 (.slice aT nT cT) ts) := HRD.out.below hbz
           replace HBW : Hid (Below w.heap.size w y3) := HBW.out.trans (hbz.mono HBW.out.size)
           have cet : (y3).cell? ⟨g5, 0, none⟩ = some (.slice adt nt ct) := (HAT.out _ _ H5.out).tr
           clear hbz ))
      refine wp_region_held_drew (S := Over (World.drew y3)) (by kernel_rfl) (Over.refl _) ?_
      intro hS
      replace H3 : Hid (Blk (World.drew y3) g3 (cb seed) 23) := H3.out.drew
      replace H5 : Hid (Blk (World.drew y3) g5 cev 32) := H5.out.drew
      replace HBW : Hid (Below w.heap.size w (World.drew y3)) := HBW.out.drew
      change wpAnyH _ _ _ _ _ _ _ _ (World.drew y3)
      generalize World.drew y3 = y0 at *
      try simp only [Act.put, List.setIfInBounds_toArray, List.set_cons_zero, List.set_cons_succ]
      refine wpAnyH_take (i := 0) (v := .agg (cb seed).toArray) rfl (by kernel_rfl) (by kernel_rfl) (by kernel_rfl) (fun _ _ _ h => h) (Or.inl ⟨by rfl, fun wx hx => by exact loadDigest _ g3 seed HSL.out (H3.out.below hx H3.out.lt) rfl rfl⟩) hS ?_
      simp only [Act.put, List.getElem_toArray, List.getElem_cons_zero, List.setIfInBounds_toArray, List.set_cons_zero, List.set_cons_succ]
      refine wpAnyH_take (i := 2) (v := .agg cev.toArray) rfl (by kernel_rfl) (by kernel_rfl) (by kernel_rfl) (fun _ _ _ h => h) (Or.inl ⟨by rfl, fun wx hx => by exact load_run 32 _ rfl g5 0 rfl cev _ (H5.out.below hx H5.out.lt).range Tryd.underlying32 rfl HIE.out⟩) hS ?_
      simp only [Act.put, List.getElem_toArray, List.getElem_cons_succ, List.getElem_cons_zero, List.setIfInBounds_toArray, List.set_cons_zero, List.set_cons_succ]
      refine wpAnyH_enter 1 (by kernel_rfl) rfl (by rfl) (f := 25) (args := #[.agg (cb seed).toArray]) (by simp [go_sem]) (HPN.out _) ?_
      rintro e z1 ⟨rfl, hb⟩
      replace hS := Over.more hS hb
      refine ⟨_, rfl, hS, ?_⟩
      clear hb 
      simp only [Act.put, List.getElem_toArray, List.getElem_cons_succ, List.getElem_cons_zero, List.setIfInBounds_toArray, List.set_cons_zero, List.set_cons_succ]
      refine wpAnyH_enter 3 (by kernel_rfl) rfl (by rfl) (f := 11) (args := #[.agg (cb pin).toArray, .agg cev.toArray]) (by simp [go_sem]) (HCK.out _ (HBW.out.trans (Below.mono hS HBW.out.size))) ?_
      rintro e z2 ⟨rfl, hb⟩
      replace hS := Over.more hS hb
      refine ⟨_, rfl, hS, ?_⟩
      clear hb 
      simp only [Act.put, List.getElem_toArray, List.getElem_cons_succ, List.getElem_cons_zero, List.setIfInBounds_toArray, List.set_cons_zero, List.set_cons_succ]
      refine wpAnyH_take (i := 4) (v := .bool false) rfl (by kernel_rfl) (by kernel_rfl) (by kernel_rfl) (fun _ _ _ h => h) (Or.inl ⟨by rfl, fun wx hx => by simp [go_sem, pc]⟩) hS ?_
      simp only [Act.put, List.getElem_toArray, List.getElem_cons_succ, List.getElem_cons_zero, List.setIfInBounds_toArray, List.set_cons_zero, List.set_cons_succ]
      refine wpAnyH_done (by kernel_rfl) ?_ _
      replace H3 : Hid (Blk z2 g3 (cb seed) 23) := H3.out.below hS H3.out.lt
      replace H5 : Hid (Blk z2 g5 cev 32) := H5.out.below hS H5.out.lt
      replace HBW : Hid (Below w.heap.size w z2) := HBW.out.trans (Below.mono hS HBW.out.size)
      have HRD2 : Hid (ReadsD z2 (.slice aT nT cT) ts) := HRD0.out.below HBW.out
      clear hS HRD cet
      generalize z2 = zz at *
      have tk30 : Hid True := trivial
      have tk31 : Hid True := trivial
      go_upto_region 7 with (first
        | (clear tk30; with_reducible refine wpSeq_loadW 23 (.tmp 3) g3 0 (cb seed) _ ?_ Tryd.underlying23 rfl ?_ ?_ ?_ ?_ ?_
           · exact H3.out.range
           · exact HIS0.out
           · rfl
           · rfl
           · rfl)
        | (clear tk31; go_at_call 26; refine (HHO.out zz HRD2.out).mono ?_; rintro e y31 ⟨v70, rfl, ho7, hbz⟩
           clear HRD2
           replace H3 : Hid (Blk y31 g3 (cb seed) 23) := H3.out.below hbz H3.out.lt
           replace H5 : Hid (Blk y31 g5 cev 32) := H5.out.below hbz H5.out.lt
           replace HBW : Hid (Below w.heap.size w y31) := HBW.out.trans (hbz.mono HBW.out.size)
           obtain ⟨a7, c7, hv7⟩ := ho7.form
           rw [← HNO.out] at hv7
           subst hv7
           have HOW : Hid (ReadsS y31 (.slice a7 no c7) own) := ho7
           have cet : y31.cell? ⟨g5, 0, none⟩ = some (.slice adt nt ct) := (HAT.out _ _ H5.out).tr
           clear hbz ho7))
      have HBH : Hid (Below w.heap.size w y31) := HBW.out
      have HLT3 : Hid (g3 < y31.heap.size ∧ g5 < y31.heap.size) := ⟨H3.out.lt, H5.out.lt⟩
      have HTRW : Hid (ReadsS y31 (.slice adt nt ct) e.1) := HEV.out.tr.below HBW.out
      have tk50 : Hid True := trivial
      have tk51 : Hid True := trivial
      have tk52 : Hid True := trivial
      have tk53 : Hid True := trivial
      go_wp2_with (first
        | (clear tk50; with_reducible refine wpSeq_appendTr (.tmp 30) (.tmp 32) y31.heap.size e.1 adt nt ct HTRW.out HTL.out (Nat.le_refl _) ?_ ?_ ?_ ?_ ?_
           · rfl
           · rfl
           · rfl
           · rfl
           intro v80 y50 T0 hTe hTr hTo hTb
           clear cet
           replace H3 : Hid (Blk y50 g3 (cb seed) 23) := H3.out.below hTb H3.out.lt
           replace H5 : Hid (Blk y50 g5 cev 32) := H5.out.below hTb H5.out.lt
           replace HBW : Hid (Below w.heap.size w y50) := HBW.out.trans (hTb.mono HBW.out.size)
           have HYB : Hid (Below y31.heap.size y31 y50) := hTb
           obtain ⟨a80, c80, hv80⟩ := hTo.slice
           obtain ⟨n80, HN80⟩ : ∃ m, Hid (m = T0.length) := ⟨_, rfl⟩
           rw [← HN80.out] at hv80
           subst hv80
           have HTO : Hid (OwnS y50 y31.heap.size (.slice a80 n80 c80) T0) := hTo
           have HTE : Hid (T0.map (·.1) = e.1) := hTe
           have HTR : Hid (∀ p ∈ T0, Reads y31 p.2 p.1.2) := hTr
           have HTN : Hid (T0.length < 1000000) := by show _ < _; rw [← List.length_map (f := (·.1)), hTe]; exact HTL.out
           clear hTe hTr hTo hTb HTRW)
        | (clear tk51; with_reducible refine wpSeq_loadW 30 (.tmp 35) g5 1 csa _ ?_ Tryd.underlying30 rfl ?_ ?_ ?_ ?_ ?_
           · exact (HRG.out _ _ H5.out).1
           · exact HIS.out.1
           · rfl
           · rfl
           · rfl)
        | (clear tk52; with_reducible refine wpSeq_buildS (.tmp 36) e.2.1 (.slice ada na ca) HEV.out.oa ?_ ?_ ?_ ?_
           · rfl
           · show _ = Value.agg _; rw [← HSA.out]; rfl
           · rfl
           intro gB y51 nn
           replace H3 : Hid (Blk y51 g3 (cb seed) 23) := H3.out.below nn.below H3.out.lt
           replace H5 : Hid (Blk y51 g5 cev 32) := H5.out.below nn.below H5.out.lt
           replace HBW : Hid (Below w.heap.size w y51) := HBW.out.trans (nn.below.mono HBW.out.size)
           replace HTO : Hid (OwnS y51 y31.heap.size (.slice a80 n80 c80) T0) := HTO.out.keep fun k _ hk => nn.below.block k hk
           have HBB : Hid (Blk y51 gB (sgC e.2.1 (.slice ada na ca)) 30) := nn.blk
           replace HYB : Hid (Below y31.heap.size y31 y51) := HYB.out.trans (nn.below.mono HYB.out.size)
           clear nn)
        | (clear tk53; with_reducible refine wpSeq_appendSg (.tmp 34) (.tmp 37) y31.heap.size (.slice a80 n80 c80) T0 e.2.1 ada na ca gB HTO.out HBB.out HEV.out.oa HTN.out HYB.out.size ?_ ?_ ?_ ?_ ?_
           · rfl
           · rfl
           · rfl
           · rfl
           intro v81 y52 hLo hLg
           replace H3 : Hid (Blk y52 g3 (cb seed) 23) := H3.out.below hLg.below (Nat.lt_of_lt_of_le HLT3.out.1 (Nat.le_refl _))
           replace H5 : Hid (Blk y52 g5 cev 32) := H5.out.below hLg.below (Nat.lt_of_lt_of_le HLT3.out.2 (Nat.le_refl _))
           replace HYB : Hid (Below y31.heap.size y31 y52) := HYB.out.trans hLg.below
           replace HBW : Hid (Below w.heap.size w y52) := HBH.out.trans (HYB.out.mono HBH.out.size)
           have hl8 : ReadsS y52 v81 (e.1 ++ [e.2.1]) := by
             have h := hLo.readsS (fun p hp => by
               rcases List.mem_append.1 hp with hp | hp
               · exact (HTR.out p hp).below HYB.out
               · rw [List.mem_singleton.1 hp]; exact HEV.out.a.below HBW.out)
             rw [List.map_append, HTE.out] at h
             exact h
           obtain ⟨a8, c8, hv8⟩ := hl8.form
           rw [← HLA.out, ← HNA.out] at hv8
           subst hv8
           have HLL8 : Hid (ReadsS y52 (.slice a8 N c8) la) := by rw [HLA.out]; exact hl8
           clear hLo hLg hl8 HTO HBB HTR HTE HTN HN80))
      have HI0 : Hid (SoI w g3 g5 seed cev (.slice a7 no c7) (.slice a8 N c8) own la y52) := ⟨H3.out, H5.out, HOW.out.below HYB.out, HLL8.out, HBW.out⟩
      clear H3 H5 HYB HBW HLL8 HOW HLT3 HBH
      go_loopw [9] (fun i wr => ∃ k : Nat, k < N ∧ i = .int .i64 (k : Int) ∧ Hid (∀ j, j < k → j < no ∧ (la.getD j zeroS).1 = (own.getD j zeroS).1) ∧ Hid (SoI w g3 g5 seed cev (.slice a7 no c7) (.slice a8 N c8) own la wr)) (fun i _ => N - (intOf i).toNat)
      case atStart => exact ⟨0, by have := HNL.out; omega, rfl, (fun j hj => absurd hj (Nat.not_lt_zero j)), HI0⟩
      case round =>
        obtain ⟨k, hkN, rfl, HPK, HI⟩ := hrel
        clear HI0
        have hlk : (k : Int) < (N : Int) := by omega
        have k0 : (0 : Int) ≤ (k : Int) := by omega
        have f5 : IntKind.i64.wrap ((k : Int) + 1) = (k : Int) + 1 := by rw [IntKind.wrap_i64]; have := HN41.out; omega
        have f8 : IntKind.u64.wrap ((k : Int) + 1) = (k : Int) + 1 := by rw [IntKind.wrap_u64]; have := HN41.out; omega
        have fN : IntKind.i64.wrap ((N : Int) - 1) = (N : Int) - 1 := by rw [IntKind.wrap_i64]; have := HN41.out; omega
        have HLT : Hid (k < la.length) := by show _ < _; rw [← HNA.out]; exact hkN
        obtain ⟨b8, o8, c8', hv8, hat8⟩ := HI.out.l.at (Nat.lt_of_le_of_lt (Nat.zero_le _) HLT.out)
        simp only [Value.slice.injEq] at hv8
        obtain ⟨rfl, hn8, rfl⟩ := hv8
        clear hn8
        obtain ⟨v0, hs0, hr0⟩ := hat8 k HLT.out
        obtain ⟨s0, HS0⟩ : ∃ s, Hid (s = la.getD k zeroS) := ⟨_, rfl⟩
        rw [← HS0.out] at hs0 hr0
        obtain ⟨a0, n0, d0, hw0⟩ := hr0.form
        subst hw0
        obtain ⟨cs0, HC0⟩ : ∃ c, Hid (c = sgC s0 (.slice a0 n0 d0)) := ⟨_, rfl⟩
        have HOS : Hid (okS s0) := hs0.ok
        have HR8 : Hid (wr.rangeAt b8 (o8 + k * 98) cs0) := by rw [HC0.out]; exact hs0.all
        have HI0S : Hid ((Tryd.prog.info? 30).map (·.size) = some cs0.length) := by show _ = _; rw [HC0.out]; exact info_sgC HOS.out _
        have HL0 : Hid (cs0.length = (sgC zeroS (.slice none 0 0)).length ∧ ∀ v ∈ cs0, v.oneCell' = true) := by rw [HC0.out, len_sgC HOS.out, len_sgC okS_zero]; exact ⟨rfl, sgC_one _ _ _ _⟩
        have HRD8 : Hid (Reads wr (.slice a0 n0 d0) s0.2) := hr0
        have HWR : Hid (Below w.heap.size w wr) := HI.out.bel
        have hsn := HSN.out k hkN HPK.out
        rw [← HS0.out] at hsn
        have HCK1 : Hid (checkE (pubR seed (k + 1)) (rbS s0) s0.2 = 0) := hsn.1
        have HCK2 : Hid (k + 1 = N → checkE (pubR seed (k + 1)) (rbS e.2.2) e.2.2.2 = 0) := hsn.2
        clear hat8 hs0 hr0 hsn
        by_cases hko : k < no
        case neg =>
          have hkn7 : ¬ ((k : Int) < (no : Int)) := by omega
          have HBR : Hid (∀ (W : World) , Reads W (.slice a0 n0 d0) s0.2 → Calls Tryd.prog 28 #[.agg (cb seed).toArray, .int .u64 ((k : Int) + 1), .slice none 0 0, .agg cs0.toArray] W fun r w' => r = .returned (.bool true) ∧ Below W.heap.size W w') := fun W hr => by
            rw [show (k : Int) + 1 = ((k + 1 : Nat) : Int) by omega, HC0.out]
            exact breaks12_any seed (k + 1) _ _ s0 (.slice a0 n0 d0) W HSL.out (by have := HN41.out; omega) (reads_nil10 W) (by decide) HOS.out hr (nil_rbS HOS.out) HCK1.out
          have HI10 : Hid ((Tryd.prog.info? 30).map (·.size) = some cs0.length) := HI0S.out
          clear HPK HCK2
          have HB0 : Hid (Below wr.heap.size wr wr) := Below.refl _ _
          have HIW := HI
          have HRDW := HRD8
          have tk20 : Hid True := trivial
          have tk21 : Hid True := trivial
          have tk22 : Hid True := trivial
          go_upto_region 13 with (first
            | (clear tk20; with_reducible refine wpSeq_loadW 30 (.tmp 47) b8 (o8 + k * 98) cs0 _ ?_ Tryd.underlying30 rfl ?_ ?_ ?_ ?_ ?_
               · exact HR8.out
               · exact HI0S.out
               · rfl
               · rfl
               · rfl)
            | (clear tk21; with_reducible refine wpSeq_allocS ?_ ?_ ?_
               · rfl
               · rfl
               intro g10 y21 nn)
            | (clear tk22; with_reducible refine wpSeq_storeRow 30 (.tmp 10) (.tmp 48) g10 (sgC zeroS (.slice none 0 0)) cs0 ?_ ?_ ?_ ?_ ?_ ?_ ?_ ?_ ?_
               · exact nn.blk
               · exact HL0.out.1
               · exact HI0S.out
               · exact HL0.out.2
               · rfl
               · rfl
               · rfl
               · rfl
               intro y22 hs
               have hbz := nn.below.trans (hs.only.below nn.ge nn.below.size)
               replace HI : Hid (SoI w g3 g5 seed cev (.slice a7 no c7) (.slice (some ⟨b8, o8, none⟩) N c8) own la y22) := HI.out.next hbz
               replace HRD8 : Hid (Reads y22 (.slice a0 n0 d0) s0.2) := HRD8.out.below hbz
               replace HB0 : Hid (Below wr.heap.size wr y22) := HB0.out.trans (hbz.mono HB0.out.size)
               have H10 : Hid (Blk y22 g10 cs0 30) := hs.blk
               have HG10 : Hid (wr.heap.size ≤ g10) := nn.ge
               clear nn hs hbz))
          refine wp_region_held_drew (S := Over (World.drew y22)) (by kernel_rfl) (Over.refl _) ?_
          intro hS
          replace HI : Hid (SoI w g3 g5 seed cev (.slice a7 no c7) (.slice (some ⟨b8, o8, none⟩) N c8) own la (World.drew y22)) := HI.out.drew
          replace HRD8 : Hid (Reads (World.drew y22) (.slice a0 n0 d0) s0.2) := reads_drew HRD8.out
          replace HB0 : Hid (Below wr.heap.size wr (World.drew y22)) := HB0.out.drew
          replace H10 : Hid (Blk (World.drew y22) g10 cs0 30) := H10.out.drew
          change wpAnyH _ _ _ _ _ _ _ _ (World.drew y22)
          generalize World.drew y22 = y0 at *
          try simp only [Act.put, List.setIfInBounds_toArray, List.set_cons_zero, List.set_cons_succ]
          refine wpAnyH_take (i := 0) (v := .int .i64 (k : Int)) rfl (by kernel_rfl) (by kernel_rfl) (by kernel_rfl) (fun _ _ _ h => h) (Or.inl ⟨by rfl, fun wx hx => by simp [go_sem]⟩) hS ?_
          simp only [Act.put, List.getElem_toArray, List.getElem_cons_zero, List.setIfInBounds_toArray, List.set_cons_zero, List.set_cons_succ]
          refine wpAnyH_take (i := 1) (v := .slice a7 no c7) rfl (by kernel_rfl) (by kernel_rfl) (by kernel_rfl) (fun _ _ _ h => h) (Or.inl ⟨by rfl, fun wx hx => by simp [go_sem]⟩) hS ?_
          simp only [Act.put, List.getElem_toArray, List.getElem_cons_succ, List.getElem_cons_zero, List.setIfInBounds_toArray, List.set_cons_zero, List.set_cons_succ]
          refine wpAnyH_take (i := 2) (v := .int .i64 (no : Int)) rfl (by kernel_rfl) (by kernel_rfl) (by kernel_rfl) (fun _ _ _ h => h) (Or.inl ⟨by rfl, fun wx hx => by simp [go_sem]⟩) hS ?_
          simp only [Act.put, List.getElem_toArray, List.getElem_cons_succ, List.getElem_cons_zero, List.setIfInBounds_toArray, List.set_cons_zero, List.set_cons_succ]
          refine wpAnyH_take (i := 3) (v := .bool false) rfl (by kernel_rfl) (by kernel_rfl) (by kernel_rfl) (fun _ _ _ h => h) (Or.inl ⟨by rfl, fun wx hx => by simp [go_sem]; omega⟩) hS ?_
          simp only [Act.put, List.getElem_toArray, List.getElem_cons_succ, List.getElem_cons_zero, List.setIfInBounds_toArray, List.set_cons_zero, List.set_cons_succ]
          refine wpAnyH_take (i := 4) (v := .bool false) rfl (by kernel_rfl) (by kernel_rfl) (by kernel_rfl) (fun _ _ _ h => h) (Or.inl ⟨by rfl, fun wx hx => by simp [go_sem]⟩) hS ?_
          simp only [Act.put, List.getElem_toArray, List.getElem_cons_succ, List.getElem_cons_zero, List.setIfInBounds_toArray, List.set_cons_zero, List.set_cons_succ]
          refine wpAnyH_take (i := 5) (v := undef) rfl (by kernel_rfl) (by kernel_rfl) (by kernel_rfl) (fun _ _ _ h => h) (Or.inr ⟨by rfl, rfl⟩) hS ?_
          simp only [Act.put, List.getElem_toArray, List.getElem_cons_succ, List.getElem_cons_zero, List.setIfInBounds_toArray, List.set_cons_zero, List.set_cons_succ]
          refine wpAnyH_take (i := 6) (v := undef) rfl (by kernel_rfl) (by kernel_rfl) (by kernel_rfl) (fun _ _ _ h => h) (Or.inr ⟨by rfl, rfl⟩) hS ?_
          simp only [Act.put, List.getElem_toArray, List.getElem_cons_succ, List.getElem_cons_zero, List.setIfInBounds_toArray, List.set_cons_zero, List.set_cons_succ]
          refine wpAnyH_take (i := 7) (v := undef) rfl (by kernel_rfl) (by kernel_rfl) (by kernel_rfl) (fun _ _ _ h => h) (Or.inr ⟨by rfl, rfl⟩) hS ?_
          simp only [Act.put, List.getElem_toArray, List.getElem_cons_succ, List.getElem_cons_zero, List.setIfInBounds_toArray, List.set_cons_zero, List.set_cons_succ]
          refine wpAnyH_take (i := 8) (v := undef) rfl (by kernel_rfl) (by kernel_rfl) (by kernel_rfl) (fun _ _ _ h => h) (Or.inr ⟨by rfl, rfl⟩) hS ?_
          simp only [Act.put, List.getElem_toArray, List.getElem_cons_succ, List.getElem_cons_zero, List.setIfInBounds_toArray, List.set_cons_zero, List.set_cons_succ]
          refine wpAnyH_take (i := 9) (v := undef) rfl (by kernel_rfl) (by kernel_rfl) (by kernel_rfl) (fun _ _ _ h => h) (Or.inr ⟨by rfl, rfl⟩) hS ?_
          simp only [Act.put, List.getElem_toArray, List.getElem_cons_succ, List.getElem_cons_zero, List.setIfInBounds_toArray, List.set_cons_zero, List.set_cons_succ]
          refine wpAnyH_take (i := 10) (v := undef) rfl (by kernel_rfl) (by kernel_rfl) (by kernel_rfl) (fun _ _ _ h => h) (Or.inr ⟨by rfl, rfl⟩) hS ?_
          simp only [Act.put, List.getElem_toArray, List.getElem_cons_succ, List.getElem_cons_zero, List.setIfInBounds_toArray, List.set_cons_zero, List.set_cons_succ]
          refine wpAnyH_take (i := 11) (v := undef) rfl (by kernel_rfl) (by kernel_rfl) (by kernel_rfl) (fun _ _ _ h => h) (Or.inr ⟨by rfl, rfl⟩) hS ?_
          simp only [Act.put, List.getElem_toArray, List.getElem_cons_succ, List.getElem_cons_zero, List.setIfInBounds_toArray, List.set_cons_zero, List.set_cons_succ]
          refine wpAnyH_take (i := 12) (v := undef) rfl (by kernel_rfl) (by kernel_rfl) (by kernel_rfl) (fun _ _ _ h => h) (Or.inr ⟨by rfl, rfl⟩) hS ?_
          simp only [Act.put, List.getElem_toArray, List.getElem_cons_succ, List.getElem_cons_zero, List.setIfInBounds_toArray, List.set_cons_zero, List.set_cons_succ]
          refine wpAnyH_take (i := 13) (v := .bool false) rfl (by kernel_rfl) (by kernel_rfl) (by kernel_rfl) (fun _ _ _ h => h) (Or.inl ⟨by rfl, fun wx hx => by simp [go_sem]⟩) hS ?_
          simp only [Act.put, List.getElem_toArray, List.getElem_cons_succ, List.getElem_cons_zero, List.setIfInBounds_toArray, List.set_cons_zero, List.set_cons_succ]
          refine wpAnyH_take (i := 14) (v := .bool false) rfl (by kernel_rfl) (by kernel_rfl) (by kernel_rfl) (fun _ _ _ h => h) (Or.inl ⟨by rfl, fun wx hx => by simp [go_sem]⟩) hS ?_
          simp only [Act.put, List.getElem_toArray, List.getElem_cons_succ, List.getElem_cons_zero, List.setIfInBounds_toArray, List.set_cons_zero, List.set_cons_succ]
          refine wpAnyH_take (i := 15) (v := undef) rfl (by kernel_rfl) (by kernel_rfl) (by kernel_rfl) (fun _ _ _ h => h) (Or.inr ⟨by rfl, rfl⟩) hS ?_
          simp only [Act.put, List.getElem_toArray, List.getElem_cons_succ, List.getElem_cons_zero, List.setIfInBounds_toArray, List.set_cons_zero, List.set_cons_succ]
          refine wpAnyH_take (i := 16) (v := undef) rfl (by kernel_rfl) (by kernel_rfl) (by kernel_rfl) (fun _ _ _ h => h) (Or.inr ⟨by rfl, rfl⟩) hS ?_
          simp only [Act.put, List.getElem_toArray, List.getElem_cons_succ, List.getElem_cons_zero, List.setIfInBounds_toArray, List.set_cons_zero, List.set_cons_succ]
          refine wpAnyH_take (i := 17) (v := undef) rfl (by kernel_rfl) (by kernel_rfl) (by kernel_rfl) (fun _ _ _ h => h) (Or.inr ⟨by rfl, rfl⟩) hS ?_
          simp only [Act.put, List.getElem_toArray, List.getElem_cons_succ, List.getElem_cons_zero, List.setIfInBounds_toArray, List.set_cons_zero, List.set_cons_succ]
          refine wpAnyH_take (i := 18) (v := undef) rfl (by kernel_rfl) (by kernel_rfl) (by kernel_rfl) (fun _ _ _ h => h) (Or.inr ⟨by rfl, rfl⟩) hS ?_
          simp only [Act.put, List.getElem_toArray, List.getElem_cons_succ, List.getElem_cons_zero, List.setIfInBounds_toArray, List.set_cons_zero, List.set_cons_succ]
          refine wpAnyH_take (i := 19) (v := undef) rfl (by kernel_rfl) (by kernel_rfl) (by kernel_rfl) (fun _ _ _ h => h) (Or.inr ⟨by rfl, rfl⟩) hS ?_
          simp only [Act.put, List.getElem_toArray, List.getElem_cons_succ, List.getElem_cons_zero, List.setIfInBounds_toArray, List.set_cons_zero, List.set_cons_succ]
          refine wpAnyH_take (i := 20) (v := .bool false) rfl (by kernel_rfl) (by kernel_rfl) (by kernel_rfl) (fun _ _ _ h => h) (Or.inl ⟨by rfl, fun wx hx => by simp [go_sem]⟩) hS ?_
          simp only [Act.put, List.getElem_toArray, List.getElem_cons_succ, List.getElem_cons_zero, List.setIfInBounds_toArray, List.set_cons_zero, List.set_cons_succ]
          refine wpAnyH_done (by kernel_rfl) ?_ _
          go_wp2
          clear hS
          refine wp_region_held_drew (S := Over (World.drew y0)) (by kernel_rfl) (Over.refl _) ?_
          intro hS
          replace HI : Hid (SoI w g3 g5 seed cev (.slice a7 no c7) (.slice (some ⟨b8, o8, none⟩) N c8) own la (World.drew y0)) := HI.out.drew
          replace HRD8 : Hid (Reads (World.drew y0) (.slice a0 n0 d0) s0.2) := reads_drew HRD8.out
          replace HB0 : Hid (Below wr.heap.size wr (World.drew y0)) := HB0.out.drew
          replace H10 : Hid (Blk (World.drew y0) g10 cs0 30) := H10.out.drew
          change wpAnyH _ _ _ _ _ _ _ _ (World.drew y0)
          generalize World.drew y0 = y0 at *
          try simp only [Act.put, List.setIfInBounds_toArray, List.set_cons_zero, List.set_cons_succ]
          refine wpAnyH_take (i := 0) (v := .int .i64 (k : Int)) rfl (by kernel_rfl) (by kernel_rfl) (by kernel_rfl) (fun _ _ _ h => h) (Or.inl ⟨by rfl, fun wx hx => by simp [go_sem]⟩) hS ?_
          simp only [Act.put, List.getElem_toArray, List.getElem_cons_zero, List.setIfInBounds_toArray, List.set_cons_zero, List.set_cons_succ]
          refine wpAnyH_take (i := 1) (v := .slice a7 no c7) rfl (by kernel_rfl) (by kernel_rfl) (by kernel_rfl) (fun _ _ _ h => h) (Or.inl ⟨by rfl, fun wx hx => by simp [go_sem]⟩) hS ?_
          simp only [Act.put, List.getElem_toArray, List.getElem_cons_succ, List.getElem_cons_zero, List.setIfInBounds_toArray, List.set_cons_zero, List.set_cons_succ]
          refine wpAnyH_take (i := 2) (v := .int .i64 (no : Int)) rfl (by kernel_rfl) (by kernel_rfl) (by kernel_rfl) (fun _ _ _ h => h) (Or.inl ⟨by rfl, fun wx hx => by simp [go_sem]⟩) hS ?_
          simp only [Act.put, List.getElem_toArray, List.getElem_cons_succ, List.getElem_cons_zero, List.setIfInBounds_toArray, List.set_cons_zero, List.set_cons_succ]
          refine wpAnyH_take (i := 3) (v := .bool false) rfl (by kernel_rfl) (by kernel_rfl) (by kernel_rfl) (fun _ _ _ h => h) (Or.inl ⟨by rfl, fun wx hx => by simp [go_sem]; omega⟩) hS ?_
          simp only [Act.put, List.getElem_toArray, List.getElem_cons_succ, List.getElem_cons_zero, List.setIfInBounds_toArray, List.set_cons_zero, List.set_cons_succ]
          refine wpAnyH_take (i := 4) (v := .bool false) rfl (by kernel_rfl) (by kernel_rfl) (by kernel_rfl) (fun _ _ _ h => h) (Or.inl ⟨by rfl, fun wx hx => by simp [go_sem]⟩) hS ?_
          simp only [Act.put, List.getElem_toArray, List.getElem_cons_succ, List.getElem_cons_zero, List.setIfInBounds_toArray, List.set_cons_zero, List.set_cons_succ]
          refine wpAnyH_take (i := 5) (v := undef) rfl (by kernel_rfl) (by kernel_rfl) (by kernel_rfl) (fun _ _ _ h => h) (Or.inr ⟨by rfl, rfl⟩) hS ?_
          simp only [Act.put, List.getElem_toArray, List.getElem_cons_succ, List.getElem_cons_zero, List.setIfInBounds_toArray, List.set_cons_zero, List.set_cons_succ]
          refine wpAnyH_take (i := 6) (v := undef) rfl (by kernel_rfl) (by kernel_rfl) (by kernel_rfl) (fun _ _ _ h => h) (Or.inr ⟨by rfl, rfl⟩) hS ?_
          simp only [Act.put, List.getElem_toArray, List.getElem_cons_succ, List.getElem_cons_zero, List.setIfInBounds_toArray, List.set_cons_zero, List.set_cons_succ]
          refine wpAnyH_take (i := 7) (v := undef) rfl (by kernel_rfl) (by kernel_rfl) (by kernel_rfl) (fun _ _ _ h => h) (Or.inr ⟨by rfl, rfl⟩) hS ?_
          simp only [Act.put, List.getElem_toArray, List.getElem_cons_succ, List.getElem_cons_zero, List.setIfInBounds_toArray, List.set_cons_zero, List.set_cons_succ]
          refine wpAnyH_take (i := 8) (v := undef) rfl (by kernel_rfl) (by kernel_rfl) (by kernel_rfl) (fun _ _ _ h => h) (Or.inr ⟨by rfl, rfl⟩) hS ?_
          simp only [Act.put, List.getElem_toArray, List.getElem_cons_succ, List.getElem_cons_zero, List.setIfInBounds_toArray, List.set_cons_zero, List.set_cons_succ]
          refine wpAnyH_take (i := 9) (v := undef) rfl (by kernel_rfl) (by kernel_rfl) (by kernel_rfl) (fun _ _ _ h => h) (Or.inr ⟨by rfl, rfl⟩) hS ?_
          simp only [Act.put, List.getElem_toArray, List.getElem_cons_succ, List.getElem_cons_zero, List.setIfInBounds_toArray, List.set_cons_zero, List.set_cons_succ]
          refine wpAnyH_take (i := 10) (v := undef) rfl (by kernel_rfl) (by kernel_rfl) (by kernel_rfl) (fun _ _ _ h => h) (Or.inr ⟨by rfl, rfl⟩) hS ?_
          simp only [Act.put, List.getElem_toArray, List.getElem_cons_succ, List.getElem_cons_zero, List.setIfInBounds_toArray, List.set_cons_zero, List.set_cons_succ]
          refine wpAnyH_take (i := 11) (v := undef) rfl (by kernel_rfl) (by kernel_rfl) (by kernel_rfl) (fun _ _ _ h => h) (Or.inr ⟨by rfl, rfl⟩) hS ?_
          simp only [Act.put, List.getElem_toArray, List.getElem_cons_succ, List.getElem_cons_zero, List.setIfInBounds_toArray, List.set_cons_zero, List.set_cons_succ]
          refine wpAnyH_take (i := 12) (v := undef) rfl (by kernel_rfl) (by kernel_rfl) (by kernel_rfl) (fun _ _ _ h => h) (Or.inr ⟨by rfl, rfl⟩) hS ?_
          simp only [Act.put, List.getElem_toArray, List.getElem_cons_succ, List.getElem_cons_zero, List.setIfInBounds_toArray, List.set_cons_zero, List.set_cons_succ]
          refine wpAnyH_take (i := 13) (v := .bool false) rfl (by kernel_rfl) (by kernel_rfl) (by kernel_rfl) (fun _ _ _ h => h) (Or.inl ⟨by rfl, fun wx hx => by simp [go_sem]⟩) hS ?_
          simp only [Act.put, List.getElem_toArray, List.getElem_cons_succ, List.getElem_cons_zero, List.setIfInBounds_toArray, List.set_cons_zero, List.set_cons_succ]
          refine wpAnyH_done (by kernel_rfl) ?_ _
          have tk60 : Hid True := trivial
          have tk61 : Hid True := trivial
          have tk62 : Hid True := trivial
          have tk63 : Hid True := trivial
          go_wp2_with (first
            | (clear tk60; with_reducible refine wpSeq_loadW 23 (.tmp 3) g3 0 (cb seed) _ ?_ Tryd.underlying23 rfl ?_ ?_ ?_ ?_ ?_
               · exact HI.out.a.range
               · exact HIS0.out
               · rfl
               · rfl
               · rfl)
            | (clear tk61; with_reducible refine wpSeq_loadW 30 (.tmp 10) g10 0 cs0 _ ?_ Tryd.underlying30 rfl ?_ ?_ ?_ ?_ ?_
               · exact H10.out.range
               · exact HI10.out
               · rfl
               · rfl
               · rfl)
            | (clear tk62; go_at_call 28; refine (HBR.out y0 HRD8.out).mono ?_; rintro e y61 ⟨rfl, hbz⟩
               replace H10 : Hid (Blk y61 g10 cs0 30) := H10.out.below hbz H10.out.lt
               replace HI : Hid (SoI w g3 g5 seed cev (.slice a7 no c7) (.slice (some ⟨b8, o8, none⟩) N c8) own la y61) := HI.out.next hbz
               replace HRD8 : Hid (Reads y61 (.slice a0 n0 d0) s0.2) := HRD8.out.below hbz
               replace HB0 : Hid (Below wr.heap.size wr y61) := HB0.out.trans (hbz.mono HB0.out.size)
               clear hbz )
            | (clear tk63; go_at_call 10; refine (HW.out y61 HI.out.bel).mono ?_; rintro e y62 ⟨rfl, hbz⟩
               replace H10 : Hid (Blk y62 g10 cs0 30) := H10.out.below hbz H10.out.lt
               replace HI : Hid (SoI w g3 g5 seed cev (.slice a7 no c7) (.slice (some ⟨b8, o8, none⟩) N c8) own la y62) := HI.out.next hbz
               replace HRD8 : Hid (Reads y62 (.slice a0 n0 d0) s0.2) := HRD8.out.below hbz
               replace HB0 : Hid (Below wr.heap.size wr y62) := HB0.out.trans (hbz.mono HB0.out.size)
               clear hbz ))
          go_ret
          exact ⟨rfl, HI.out.bel⟩
        case pos =>
          have hkn7 : (k : Int) < (no : Int) := by omega
          obtain ⟨b7, o7, c7', hv7, hat7⟩ := HI.out.o.at (Nat.lt_of_le_of_lt (Nat.zero_le _) (Nat.lt_of_lt_of_eq hko HNO.out))
          simp only [Value.slice.injEq] at hv7
          obtain ⟨rfl, hn7, rfl⟩ := hv7
          clear hn7 hat7
          obtain ⟨s7, HS7⟩ : ∃ s, Hid (s = own.getD k zeroS) := ⟨_, rfl⟩
          have HO7 : Hid (okS s7) := by rw [HS7.out]; exact getD_okS HI.out.o.2 k
          obtain ⟨rt7, HRT7⟩ : ∃ c, Hid (c = rtC s7) := ⟨_, rfl⟩
          have HJ7 : Hid ((Tryd.prog.info? 27).map (·.size) = some rt7.length) := by show _ = _; rw [HRT7.out]; exact info_rtC HO7.out
          have HR7 : Hid (∀ W : World, SoI w g3 g5 seed cev (.slice (some ⟨b7, o7, none⟩) no c7) (.slice (some ⟨b8, o8, none⟩) N c8) own la W → W.rangeAt b7 (o7 + k * 98) rt7) := fun W h => by rw [HRT7.out, HS7.out]; exact h.o.rootAt (by rw [← HNO.out]; exact hko)
          obtain ⟨rb7, HRB7⟩ : ∃ c, Hid (c = rbS s7) := ⟨_, rfl⟩
          have HRB7L : Hid (rb7.length = 105) := by show _ = _; rw [HRB7.out]; exact len_rbS HO7.out
          have HCR : Hid (∀ W : World, Calls Tryd.prog 27 #[.agg rt7.toArray] W fun e w' => ∃ v, e = .returned v ∧ Reads w' v rb7 ∧ Below W.heap.size W w') := fun W => by rw [HRT7.out, HRB7.out]; exact rRoot_any _ _ _ _ W ⟨HO7.out.1, HO7.out.2.1, HO7.out.2.2.1, HO7.out.2.2.2⟩
          by_cases heq0 : s0.1 = s7.1
          case neg =>
            have hne := heq0
            clear heq0
            obtain ⟨rt1, HRT1⟩ : ∃ c, Hid (c = rtC s0) := ⟨_, rfl⟩
            have HJ1 : Hid ((Tryd.prog.info? 27).map (·.size) = some rt1.length) := by show _ = _; rw [HRT1.out]; exact info_rtC HOS.out
            have heq : ∀ wx : World, (Op.equalIn 10000 27 (.agg rt1.toArray) (.agg rt7.toArray)).run Tryd.prog wx = .ok false wx := fun wx => by rw [HRT1.out, HRT7.out, eq_rt _ _ HOS.out HO7.out wx, decide_eq_false hne]
            have HBR : Hid (∀ (W : World) (v : Value) , Reads W (.slice a0 n0 d0) s0.2 → Reads W v rb7 → Calls Tryd.prog 28 #[.agg (cb seed).toArray, .int .u64 ((k : Int) + 1), v, .agg cs0.toArray] W fun r w' => r = .returned (.bool true) ∧ Below W.heap.size W w') := fun W v hr hv => by
              rw [show (k : Int) + 1 = ((k + 1 : Nat) : Int) by omega, HC0.out]
              exact breaks12_any seed (k + 1) _ _ s0 (.slice a0 n0 d0) W HSL.out (by have := HN41.out; omega) hv (by rw [HRB7L.out]; decide) HOS.out hr (by rw [HRB7.out]; exact fun h => hne ((rbS_iff HO7.out HOS.out).1 h).symm) HCK1.out
            have HI10 : Hid ((Tryd.prog.info? 30).map (·.size) = some cs0.length) := HI0S.out
            clear HPK HCK2 hne
            have HB0 : Hid (Below wr.heap.size wr wr) := Below.refl _ _
            have HIW := HI
            have HRDW := HRD8
            have tk20 : Hid True := trivial
            have tk21 : Hid True := trivial
            have tk22 : Hid True := trivial
            go_upto_region 13 with (first
              | (clear tk20; with_reducible refine wpSeq_loadW 30 (.tmp 47) b8 (o8 + k * 98) cs0 _ ?_ Tryd.underlying30 rfl ?_ ?_ ?_ ?_ ?_
                 · exact HR8.out
                 · exact HI0S.out
                 · rfl
                 · rfl
                 · rfl)
              | (clear tk21; with_reducible refine wpSeq_allocS ?_ ?_ ?_
                 · rfl
                 · rfl
                 intro g10 y21 nn)
              | (clear tk22; with_reducible refine wpSeq_storeRow 30 (.tmp 10) (.tmp 48) g10 (sgC zeroS (.slice none 0 0)) cs0 ?_ ?_ ?_ ?_ ?_ ?_ ?_ ?_ ?_
                 · exact nn.blk
                 · exact HL0.out.1
                 · exact HI0S.out
                 · exact HL0.out.2
                 · rfl
                 · rfl
                 · rfl
                 · rfl
                 intro y22 hs
                 have hbz := nn.below.trans (hs.only.below nn.ge nn.below.size)
                 replace HI : Hid (SoI w g3 g5 seed cev (.slice (some ⟨b7, o7, none⟩) no c7) (.slice (some ⟨b8, o8, none⟩) N c8) own la y22) := HI.out.next hbz
                 replace HRD8 : Hid (Reads y22 (.slice a0 n0 d0) s0.2) := HRD8.out.below hbz
                 replace HB0 : Hid (Below wr.heap.size wr y22) := HB0.out.trans (hbz.mono HB0.out.size)
                 have H10 : Hid (Blk y22 g10 cs0 30) := hs.blk
                 have HG10 : Hid (wr.heap.size ≤ g10) := nn.ge
                 clear nn hs hbz))
            have HRX : Hid (∀ W : World, Blk W g10 cs0 30 → W.rangeAt g10 0 rt1) := fun W hb => by rw [HC0.out] at hb; rw [HRT1.out]; exact (hb.sgAt HOS.out).root
            refine wp_region_held_drew (S := Over (World.drew y22)) (by kernel_rfl) (Over.refl _) ?_
            intro hS
            replace HI : Hid (SoI w g3 g5 seed cev (.slice (some ⟨b7, o7, none⟩) no c7) (.slice (some ⟨b8, o8, none⟩) N c8) own la (World.drew y22)) := HI.out.drew
            replace HRD8 : Hid (Reads (World.drew y22) (.slice a0 n0 d0) s0.2) := reads_drew HRD8.out
            replace HB0 : Hid (Below wr.heap.size wr (World.drew y22)) := HB0.out.drew
            replace H10 : Hid (Blk (World.drew y22) g10 cs0 30) := H10.out.drew
            change wpAnyH _ _ _ _ _ _ _ _ (World.drew y22)
            generalize World.drew y22 = y0 at *
            try simp only [Act.put, List.setIfInBounds_toArray, List.set_cons_zero, List.set_cons_succ]
            refine wpAnyH_take (i := 0) (v := .int .i64 (k : Int)) rfl (by kernel_rfl) (by kernel_rfl) (by kernel_rfl) (fun _ _ _ h => h) (Or.inl ⟨by rfl, fun wx hx => by simp [go_sem]⟩) hS ?_
            simp only [Act.put, List.getElem_toArray, List.getElem_cons_zero, List.setIfInBounds_toArray, List.set_cons_zero, List.set_cons_succ]
            refine wpAnyH_take (i := 1) (v := .slice (some ⟨b7, o7, none⟩) no c7) rfl (by kernel_rfl) (by kernel_rfl) (by kernel_rfl) (fun _ _ _ h => h) (Or.inl ⟨by rfl, fun wx hx => by simp [go_sem]⟩) hS ?_
            simp only [Act.put, List.getElem_toArray, List.getElem_cons_succ, List.getElem_cons_zero, List.setIfInBounds_toArray, List.set_cons_zero, List.set_cons_succ]
            refine wpAnyH_take (i := 2) (v := .int .i64 (no : Int)) rfl (by kernel_rfl) (by kernel_rfl) (by kernel_rfl) (fun _ _ _ h => h) (Or.inl ⟨by rfl, fun wx hx => by simp [go_sem]⟩) hS ?_
            simp only [Act.put, List.getElem_toArray, List.getElem_cons_succ, List.getElem_cons_zero, List.setIfInBounds_toArray, List.set_cons_zero, List.set_cons_succ]
            refine wpAnyH_take (i := 3) (v := .bool true) rfl (by kernel_rfl) (by kernel_rfl) (by kernel_rfl) (fun _ _ _ h => h) (Or.inl ⟨by rfl, fun wx hx => by simp [go_sem, hkn7]⟩) hS ?_
            simp only [Act.put, List.getElem_toArray, List.getElem_cons_succ, List.getElem_cons_zero, List.setIfInBounds_toArray, List.set_cons_zero, List.set_cons_succ]
            refine wpAnyH_take (i := 4) (v := .bool true) rfl (by kernel_rfl) (by kernel_rfl) (by kernel_rfl) (fun _ _ _ h => h) (Or.inl ⟨by rfl, fun wx hx => by simp [go_sem]⟩) hS ?_
            simp only [Act.put, List.getElem_toArray, List.getElem_cons_succ, List.getElem_cons_zero, List.setIfInBounds_toArray, List.set_cons_zero, List.set_cons_succ]
            refine wpAnyH_take (i := 5) (v := .pointer (some ⟨g10, 0, none⟩)) rfl (by kernel_rfl) (by kernel_rfl) (by kernel_rfl) (fun _ _ _ h => h) (Or.inl ⟨by rfl, fun wx hx => by simp [go_sem]⟩) hS ?_
            simp only [Act.put, List.getElem_toArray, List.getElem_cons_succ, List.getElem_cons_zero, List.setIfInBounds_toArray, List.set_cons_zero, List.set_cons_succ]
            refine wpAnyH_take (i := 6) (v := .agg rt1.toArray) rfl (by kernel_rfl) (by kernel_rfl) (by kernel_rfl) (fun _ _ _ h => h) (Or.inl ⟨by rfl, fun wx hx => by exact load_run 27 _ rfl g10 0 rfl rt1 _ (HRX.out _ (H10.out.below hx H10.out.lt)) Tryd.underlying27 rfl HJ1.out⟩) hS ?_
            simp only [Act.put, List.getElem_toArray, List.getElem_cons_succ, List.getElem_cons_zero, List.setIfInBounds_toArray, List.set_cons_zero, List.set_cons_succ]
            refine wpAnyH_take (i := 7) (v := .slice (some ⟨b7, o7, none⟩) no c7) rfl (by kernel_rfl) (by kernel_rfl) (by kernel_rfl) (fun _ _ _ h => h) (Or.inl ⟨by rfl, fun wx hx => by simp [go_sem]⟩) hS ?_
            simp only [Act.put, List.getElem_toArray, List.getElem_cons_succ, List.getElem_cons_zero, List.setIfInBounds_toArray, List.set_cons_zero, List.set_cons_succ]
            refine wpAnyH_take (i := 8) (v := .int .i64 (k : Int)) rfl (by kernel_rfl) (by kernel_rfl) (by kernel_rfl) (fun _ _ _ h => h) (Or.inl ⟨by rfl, fun wx hx => by simp [go_sem]⟩) hS ?_
            simp only [Act.put, List.getElem_toArray, List.getElem_cons_succ, List.getElem_cons_zero, List.setIfInBounds_toArray, List.set_cons_zero, List.set_cons_succ]
            refine wpAnyH_take (i := 9) (v := .pointer (some ⟨b7, o7 + k * 98, none⟩)) rfl (by kernel_rfl) (by kernel_rfl) (by kernel_rfl) (fun _ _ _ h => h) (Or.inl ⟨by rfl, fun wx hx => by exact idx98 b7 o7 c7 no k hko _ _ _ _ rfl rfl rfl _⟩) hS ?_
            simp only [Act.put, List.getElem_toArray, List.getElem_cons_succ, List.getElem_cons_zero, List.setIfInBounds_toArray, List.set_cons_zero, List.set_cons_succ]
            refine wpAnyH_take (i := 10) (v := .pointer (some ⟨b7, o7 + k * 98, none⟩)) rfl (by kernel_rfl) (by kernel_rfl) (by kernel_rfl) (fun _ _ _ h => h) (Or.inl ⟨by rfl, fun wx hx => by simp [go_sem]⟩) hS ?_
            simp only [Act.put, List.getElem_toArray, List.getElem_cons_succ, List.getElem_cons_zero, List.setIfInBounds_toArray, List.set_cons_zero, List.set_cons_succ]
            refine wpAnyH_take (i := 11) (v := .agg rt7.toArray) rfl (by kernel_rfl) (by kernel_rfl) (by kernel_rfl) (fun _ _ _ h => h) (Or.inl ⟨by rfl, fun wx hx => by exact load_run 27 _ rfl b7 (o7 + k * 98) rfl rt7 _ (HR7.out _ (HI.out.next hx)) Tryd.underlying27 rfl HJ7.out⟩) hS ?_
            simp only [Act.put, List.getElem_toArray, List.getElem_cons_succ, List.getElem_cons_zero, List.setIfInBounds_toArray, List.set_cons_zero, List.set_cons_succ]
            refine wpAnyH_take (i := 12) (v := .bool false) rfl (by kernel_rfl) (by kernel_rfl) (by kernel_rfl) (fun _ _ _ h => h) (Or.inl ⟨by rfl, fun wx hx => by simp [go_sem, heq]⟩) hS ?_
            simp only [Act.put, List.getElem_toArray, List.getElem_cons_succ, List.getElem_cons_zero, List.setIfInBounds_toArray, List.set_cons_zero, List.set_cons_succ]
            refine wpAnyH_take (i := 13) (v := .bool false) rfl (by kernel_rfl) (by kernel_rfl) (by kernel_rfl) (fun _ _ _ h => h) (Or.inl ⟨by rfl, fun wx hx => by simp [go_sem]⟩) hS ?_
            simp only [Act.put, List.getElem_toArray, List.getElem_cons_succ, List.getElem_cons_zero, List.setIfInBounds_toArray, List.set_cons_zero, List.set_cons_succ]
            refine wpAnyH_take (i := 14) (v := .bool false) rfl (by kernel_rfl) (by kernel_rfl) (by kernel_rfl) (fun _ _ _ h => h) (Or.inl ⟨by rfl, fun wx hx => by simp [go_sem]⟩) hS ?_
            simp only [Act.put, List.getElem_toArray, List.getElem_cons_succ, List.getElem_cons_zero, List.setIfInBounds_toArray, List.set_cons_zero, List.set_cons_succ]
            refine wpAnyH_take (i := 15) (v := undef) rfl (by kernel_rfl) (by kernel_rfl) (by kernel_rfl) (fun _ _ _ h => h) (Or.inr ⟨by rfl, rfl⟩) hS ?_
            simp only [Act.put, List.getElem_toArray, List.getElem_cons_succ, List.getElem_cons_zero, List.setIfInBounds_toArray, List.set_cons_zero, List.set_cons_succ]
            refine wpAnyH_take (i := 16) (v := undef) rfl (by kernel_rfl) (by kernel_rfl) (by kernel_rfl) (fun _ _ _ h => h) (Or.inr ⟨by rfl, rfl⟩) hS ?_
            simp only [Act.put, List.getElem_toArray, List.getElem_cons_succ, List.getElem_cons_zero, List.setIfInBounds_toArray, List.set_cons_zero, List.set_cons_succ]
            refine wpAnyH_take (i := 17) (v := undef) rfl (by kernel_rfl) (by kernel_rfl) (by kernel_rfl) (fun _ _ _ h => h) (Or.inr ⟨by rfl, rfl⟩) hS ?_
            simp only [Act.put, List.getElem_toArray, List.getElem_cons_succ, List.getElem_cons_zero, List.setIfInBounds_toArray, List.set_cons_zero, List.set_cons_succ]
            refine wpAnyH_take (i := 18) (v := undef) rfl (by kernel_rfl) (by kernel_rfl) (by kernel_rfl) (fun _ _ _ h => h) (Or.inr ⟨by rfl, rfl⟩) hS ?_
            simp only [Act.put, List.getElem_toArray, List.getElem_cons_succ, List.getElem_cons_zero, List.setIfInBounds_toArray, List.set_cons_zero, List.set_cons_succ]
            refine wpAnyH_take (i := 19) (v := undef) rfl (by kernel_rfl) (by kernel_rfl) (by kernel_rfl) (fun _ _ _ h => h) (Or.inr ⟨by rfl, rfl⟩) hS ?_
            simp only [Act.put, List.getElem_toArray, List.getElem_cons_succ, List.getElem_cons_zero, List.setIfInBounds_toArray, List.set_cons_zero, List.set_cons_succ]
            refine wpAnyH_take (i := 20) (v := .bool false) rfl (by kernel_rfl) (by kernel_rfl) (by kernel_rfl) (fun _ _ _ h => h) (Or.inl ⟨by rfl, fun wx hx => by simp [go_sem]⟩) hS ?_
            simp only [Act.put, List.getElem_toArray, List.getElem_cons_succ, List.getElem_cons_zero, List.setIfInBounds_toArray, List.set_cons_zero, List.set_cons_succ]
            refine wpAnyH_done (by kernel_rfl) ?_ _
            go_wp2
            clear hS
            refine wp_region_held_drew (S := Over (World.drew y0)) (by kernel_rfl) (Over.refl _) ?_
            intro hS
            replace HI : Hid (SoI w g3 g5 seed cev (.slice (some ⟨b7, o7, none⟩) no c7) (.slice (some ⟨b8, o8, none⟩) N c8) own la (World.drew y0)) := HI.out.drew
            replace HRD8 : Hid (Reads (World.drew y0) (.slice a0 n0 d0) s0.2) := reads_drew HRD8.out
            replace HB0 : Hid (Below wr.heap.size wr (World.drew y0)) := HB0.out.drew
            replace H10 : Hid (Blk (World.drew y0) g10 cs0 30) := H10.out.drew
            change wpAnyH _ _ _ _ _ _ _ _ (World.drew y0)
            generalize World.drew y0 = y0 at *
            try simp only [Act.put, List.setIfInBounds_toArray, List.set_cons_zero, List.set_cons_succ]
            refine wpAnyH_take (i := 0) (v := .int .i64 (k : Int)) rfl (by kernel_rfl) (by kernel_rfl) (by kernel_rfl) (fun _ _ _ h => h) (Or.inl ⟨by rfl, fun wx hx => by simp [go_sem]⟩) hS ?_
            simp only [Act.put, List.getElem_toArray, List.getElem_cons_zero, List.setIfInBounds_toArray, List.set_cons_zero, List.set_cons_succ]
            refine wpAnyH_take (i := 1) (v := .slice (some ⟨b7, o7, none⟩) no c7) rfl (by kernel_rfl) (by kernel_rfl) (by kernel_rfl) (fun _ _ _ h => h) (Or.inl ⟨by rfl, fun wx hx => by simp [go_sem]⟩) hS ?_
            simp only [Act.put, List.getElem_toArray, List.getElem_cons_succ, List.getElem_cons_zero, List.setIfInBounds_toArray, List.set_cons_zero, List.set_cons_succ]
            refine wpAnyH_take (i := 2) (v := .int .i64 (no : Int)) rfl (by kernel_rfl) (by kernel_rfl) (by kernel_rfl) (fun _ _ _ h => h) (Or.inl ⟨by rfl, fun wx hx => by simp [go_sem]⟩) hS ?_
            simp only [Act.put, List.getElem_toArray, List.getElem_cons_succ, List.getElem_cons_zero, List.setIfInBounds_toArray, List.set_cons_zero, List.set_cons_succ]
            refine wpAnyH_take (i := 3) (v := .bool true) rfl (by kernel_rfl) (by kernel_rfl) (by kernel_rfl) (fun _ _ _ h => h) (Or.inl ⟨by rfl, fun wx hx => by simp [go_sem, hkn7]⟩) hS ?_
            simp only [Act.put, List.getElem_toArray, List.getElem_cons_succ, List.getElem_cons_zero, List.setIfInBounds_toArray, List.set_cons_zero, List.set_cons_succ]
            refine wpAnyH_take (i := 4) (v := .bool true) rfl (by kernel_rfl) (by kernel_rfl) (by kernel_rfl) (fun _ _ _ h => h) (Or.inl ⟨by rfl, fun wx hx => by simp [go_sem]⟩) hS ?_
            simp only [Act.put, List.getElem_toArray, List.getElem_cons_succ, List.getElem_cons_zero, List.setIfInBounds_toArray, List.set_cons_zero, List.set_cons_succ]
            refine wpAnyH_take (i := 5) (v := .pointer (some ⟨g10, 0, none⟩)) rfl (by kernel_rfl) (by kernel_rfl) (by kernel_rfl) (fun _ _ _ h => h) (Or.inl ⟨by rfl, fun wx hx => by simp [go_sem]⟩) hS ?_
            simp only [Act.put, List.getElem_toArray, List.getElem_cons_succ, List.getElem_cons_zero, List.setIfInBounds_toArray, List.set_cons_zero, List.set_cons_succ]
            refine wpAnyH_take (i := 6) (v := .agg rt1.toArray) rfl (by kernel_rfl) (by kernel_rfl) (by kernel_rfl) (fun _ _ _ h => h) (Or.inl ⟨by rfl, fun wx hx => by exact load_run 27 _ rfl g10 0 rfl rt1 _ (HRX.out _ (H10.out.below hx H10.out.lt)) Tryd.underlying27 rfl HJ1.out⟩) hS ?_
            simp only [Act.put, List.getElem_toArray, List.getElem_cons_succ, List.getElem_cons_zero, List.setIfInBounds_toArray, List.set_cons_zero, List.set_cons_succ]
            refine wpAnyH_take (i := 7) (v := .slice (some ⟨b7, o7, none⟩) no c7) rfl (by kernel_rfl) (by kernel_rfl) (by kernel_rfl) (fun _ _ _ h => h) (Or.inl ⟨by rfl, fun wx hx => by simp [go_sem]⟩) hS ?_
            simp only [Act.put, List.getElem_toArray, List.getElem_cons_succ, List.getElem_cons_zero, List.setIfInBounds_toArray, List.set_cons_zero, List.set_cons_succ]
            refine wpAnyH_take (i := 8) (v := .int .i64 (k : Int)) rfl (by kernel_rfl) (by kernel_rfl) (by kernel_rfl) (fun _ _ _ h => h) (Or.inl ⟨by rfl, fun wx hx => by simp [go_sem]⟩) hS ?_
            simp only [Act.put, List.getElem_toArray, List.getElem_cons_succ, List.getElem_cons_zero, List.setIfInBounds_toArray, List.set_cons_zero, List.set_cons_succ]
            refine wpAnyH_take (i := 9) (v := .pointer (some ⟨b7, o7 + k * 98, none⟩)) rfl (by kernel_rfl) (by kernel_rfl) (by kernel_rfl) (fun _ _ _ h => h) (Or.inl ⟨by rfl, fun wx hx => by exact idx98 b7 o7 c7 no k hko _ _ _ _ rfl rfl rfl _⟩) hS ?_
            simp only [Act.put, List.getElem_toArray, List.getElem_cons_succ, List.getElem_cons_zero, List.setIfInBounds_toArray, List.set_cons_zero, List.set_cons_succ]
            refine wpAnyH_take (i := 10) (v := .pointer (some ⟨b7, o7 + k * 98, none⟩)) rfl (by kernel_rfl) (by kernel_rfl) (by kernel_rfl) (fun _ _ _ h => h) (Or.inl ⟨by rfl, fun wx hx => by simp [go_sem]⟩) hS ?_
            simp only [Act.put, List.getElem_toArray, List.getElem_cons_succ, List.getElem_cons_zero, List.setIfInBounds_toArray, List.set_cons_zero, List.set_cons_succ]
            refine wpAnyH_take (i := 11) (v := .agg rt7.toArray) rfl (by kernel_rfl) (by kernel_rfl) (by kernel_rfl) (fun _ _ _ h => h) (Or.inl ⟨by rfl, fun wx hx => by exact load_run 27 _ rfl b7 (o7 + k * 98) rfl rt7 _ (HR7.out _ (HI.out.next hx)) Tryd.underlying27 rfl HJ7.out⟩) hS ?_
            simp only [Act.put, List.getElem_toArray, List.getElem_cons_succ, List.getElem_cons_zero, List.setIfInBounds_toArray, List.set_cons_zero, List.set_cons_succ]
            refine wpAnyH_take (i := 12) (v := .bool false) rfl (by kernel_rfl) (by kernel_rfl) (by kernel_rfl) (fun _ _ _ h => h) (Or.inl ⟨by rfl, fun wx hx => by simp [go_sem, heq]⟩) hS ?_
            simp only [Act.put, List.getElem_toArray, List.getElem_cons_succ, List.getElem_cons_zero, List.setIfInBounds_toArray, List.set_cons_zero, List.set_cons_succ]
            refine wpAnyH_take (i := 13) (v := .bool false) rfl (by kernel_rfl) (by kernel_rfl) (by kernel_rfl) (fun _ _ _ h => h) (Or.inl ⟨by rfl, fun wx hx => by simp [go_sem]⟩) hS ?_
            simp only [Act.put, List.getElem_toArray, List.getElem_cons_succ, List.getElem_cons_zero, List.setIfInBounds_toArray, List.set_cons_zero, List.set_cons_succ]
            refine wpAnyH_done (by kernel_rfl) ?_ _
            have tk60 : Hid True := trivial
            have tk61 : Hid True := trivial
            have tk62 : Hid True := trivial
            have tk63 : Hid True := trivial
            have tk64 : Hid True := trivial
            have tk65 : Hid True := trivial
            go_wp2_with (first
              | (clear tk60; with_reducible refine wpSeq_loadW 27 (.tmp 93) b7 (o7 + k * 98) rt7 _ ?_ Tryd.underlying27 rfl ?_ ?_ ?_ ?_ ?_
                 · exact HR7.out _ HI.out
                 · exact HJ7.out
                 · rfl
                 · rfl
                 · rfl)
              | (clear tk61; go_at_call 27; refine (HCR.out y0).mono ?_; rintro e y61 ⟨vw, rfl, hvw, hbz⟩
                 replace H10 : Hid (Blk y61 g10 cs0 30) := H10.out.below hbz H10.out.lt
                 replace HI : Hid (SoI w g3 g5 seed cev (.slice (some ⟨b7, o7, none⟩) no c7) (.slice (some ⟨b8, o8, none⟩) N c8) own la y61) := HI.out.next hbz
                 replace HRD8 : Hid (Reads y61 (.slice a0 n0 d0) s0.2) := HRD8.out.below hbz
                 replace HB0 : Hid (Below wr.heap.size wr y61) := HB0.out.trans (hbz.mono HB0.out.size)
                 obtain ⟨aw, nw, cw, hww⟩ := hvw.form
                 subst hww
                 have HVW : Hid (Reads y61 (.slice aw nw cw) rb7) := hvw
                 clear hbz hvw)
              | (clear tk62; with_reducible refine wpSeq_loadW 23 (.tmp 3) g3 0 (cb seed) _ ?_ Tryd.underlying23 rfl ?_ ?_ ?_ ?_ ?_
                 · exact HI.out.a.range
                 · exact HIS0.out
                 · rfl
                 · rfl
                 · rfl)
              | (clear tk63; with_reducible refine wpSeq_loadW 30 (.tmp 10) g10 0 cs0 _ ?_ Tryd.underlying30 rfl ?_ ?_ ?_ ?_ ?_
                 · exact H10.out.range
                 · exact HI10.out
                 · rfl
                 · rfl
                 · rfl)
              | (clear tk64; go_at_call 28; refine (HBR.out y61 _ HRD8.out HVW.out).mono ?_; rintro e y62 ⟨rfl, hbz⟩
                 clear HVW
                 replace H10 : Hid (Blk y62 g10 cs0 30) := H10.out.below hbz H10.out.lt
                 replace HI : Hid (SoI w g3 g5 seed cev (.slice (some ⟨b7, o7, none⟩) no c7) (.slice (some ⟨b8, o8, none⟩) N c8) own la y62) := HI.out.next hbz
                 replace HRD8 : Hid (Reads y62 (.slice a0 n0 d0) s0.2) := HRD8.out.below hbz
                 replace HB0 : Hid (Below wr.heap.size wr y62) := HB0.out.trans (hbz.mono HB0.out.size)
                 clear hbz )
              | (clear tk65; go_at_call 10; refine (HW.out y62 HI.out.bel).mono ?_; rintro e y63 ⟨rfl, hbz⟩
                 replace H10 : Hid (Blk y63 g10 cs0 30) := H10.out.below hbz H10.out.lt
                 replace HI : Hid (SoI w g3 g5 seed cev (.slice (some ⟨b7, o7, none⟩) no c7) (.slice (some ⟨b8, o8, none⟩) N c8) own la y63) := HI.out.next hbz
                 replace HRD8 : Hid (Reads y63 (.slice a0 n0 d0) s0.2) := HRD8.out.below hbz
                 replace HB0 : Hid (Below wr.heap.size wr y63) := HB0.out.trans (hbz.mono HB0.out.size)
                 clear hbz ))
            go_ret
            exact ⟨rfl, HI.out.bel⟩
          case pos =>
            by_cases hkl : k + 1 = N
            case pos =>
              obtain ⟨rt1, HRT1⟩ : ∃ c, Hid (c = rtC s0) := ⟨_, rfl⟩
              have HJ1 : Hid ((Tryd.prog.info? 27).map (·.size) = some rt1.length) := by show _ = _; rw [HRT1.out]; exact info_rtC HOS.out
              have heq : ∀ wx : World, (Op.equalIn 10000 27 (.agg rt1.toArray) (.agg rt7.toArray)).run Tryd.prog wx = .ok true wx := fun wx => by rw [HRT1.out, HRT7.out, eq_rt _ _ HOS.out HO7.out wx, decide_eq_true heq0]
              have hlast : ((k : Int) == (N : Int) - 1) = true := by rw [beq_iff_eq]; omega
              have HKA : Hid (s0 = e.2.1) := by show _ = _; rw [HS0.out, ← HLAST.out]; congr 1; omega
              have hneB : ¬ e.2.2.1 = s7.1 := fun h => HAB.out (by rw [← HKA.out, heq0, h])
              have HBR : Hid (∀ (W : World) (v : Value) , Reads W (.slice adb nb cc) e.2.2.2 → Reads W v rb7 → Calls Tryd.prog 28 #[.agg (cb seed).toArray, .int .u64 ((k : Int) + 1), v, .agg (sgC e.2.2 (.slice adb nb cc)).toArray] W fun r w' => r = .returned (.bool true) ∧ Below W.heap.size W w') := fun W v hr hv => by
                rw [show (k : Int) + 1 = ((k + 1 : Nat) : Int) by omega]
                exact breaks12_any seed (k + 1) _ _ e.2.2 (.slice adb nb cc) W HSL.out (by have := HN41.out; omega) hv (by rw [HRB7L.out]; decide) HEV.out.ob hr (by rw [HRB7.out]; exact fun h => hneB ((rbS_iff HO7.out HEV.out.ob).1 h).symm) (HCK2.out (by omega))
              have HI10 : Hid ((Tryd.prog.info? 30).map (·.size) = some (sgC e.2.2 (.slice adb nb cc)).length) := info_sgC HEV.out.ob _
              have HB0 : Hid (Below wr.heap.size wr wr) := Below.refl _ _
              have HIW := HI
              have HRDW := HRD8
              have tk20 : Hid True := trivial
              have tk21 : Hid True := trivial
              have tk22 : Hid True := trivial
              go_upto_region 13 with (first
                | (clear tk20; with_reducible refine wpSeq_loadW 30 (.tmp 47) b8 (o8 + k * 98) cs0 _ ?_ Tryd.underlying30 rfl ?_ ?_ ?_ ?_ ?_
                   · exact HR8.out
                   · exact HI0S.out
                   · rfl
                   · rfl
                   · rfl)
                | (clear tk21; with_reducible refine wpSeq_allocS ?_ ?_ ?_
                   · rfl
                   · rfl
                   intro g10 y21 nn)
                | (clear tk22; with_reducible refine wpSeq_storeRow 30 (.tmp 10) (.tmp 48) g10 (sgC zeroS (.slice none 0 0)) cs0 ?_ ?_ ?_ ?_ ?_ ?_ ?_ ?_ ?_
                   · exact nn.blk
                   · exact HL0.out.1
                   · exact HI0S.out
                   · exact HL0.out.2
                   · rfl
                   · rfl
                   · rfl
                   · rfl
                   intro y22 hs
                   have hbz := nn.below.trans (hs.only.below nn.ge nn.below.size)
                   replace HI : Hid (SoI w g3 g5 seed cev (.slice (some ⟨b7, o7, none⟩) no c7) (.slice (some ⟨b8, o8, none⟩) N c8) own la y22) := HI.out.next hbz
                   replace HRD8 : Hid (Reads y22 (.slice a0 n0 d0) s0.2) := HRD8.out.below hbz
                   replace HB0 : Hid (Below wr.heap.size wr y22) := HB0.out.trans (hbz.mono HB0.out.size)
                   have H10 : Hid (Blk y22 g10 cs0 30) := hs.blk
                   have HG10 : Hid (wr.heap.size ≤ g10) := nn.ge
                   clear nn hs hbz))
              have HRX : Hid (∀ W : World, Blk W g10 cs0 30 → W.rangeAt g10 0 rt1) := fun W hb => by rw [HC0.out] at hb; rw [HRT1.out]; exact (hb.sgAt HOS.out).root
              refine wp_region_held_drew (S := Over (World.drew y22)) (by kernel_rfl) (Over.refl _) ?_
              intro hS
              replace HI : Hid (SoI w g3 g5 seed cev (.slice (some ⟨b7, o7, none⟩) no c7) (.slice (some ⟨b8, o8, none⟩) N c8) own la (World.drew y22)) := HI.out.drew
              replace HRD8 : Hid (Reads (World.drew y22) (.slice a0 n0 d0) s0.2) := reads_drew HRD8.out
              replace HB0 : Hid (Below wr.heap.size wr (World.drew y22)) := HB0.out.drew
              replace H10 : Hid (Blk (World.drew y22) g10 cs0 30) := H10.out.drew
              change wpAnyH _ _ _ _ _ _ _ _ (World.drew y22)
              generalize World.drew y22 = y0 at *
              try simp only [Act.put, List.setIfInBounds_toArray, List.set_cons_zero, List.set_cons_succ]
              refine wpAnyH_take (i := 0) (v := .int .i64 (k : Int)) rfl (by kernel_rfl) (by kernel_rfl) (by kernel_rfl) (fun _ _ _ h => h) (Or.inl ⟨by rfl, fun wx hx => by simp [go_sem]⟩) hS ?_
              simp only [Act.put, List.getElem_toArray, List.getElem_cons_zero, List.setIfInBounds_toArray, List.set_cons_zero, List.set_cons_succ]
              refine wpAnyH_take (i := 1) (v := .slice (some ⟨b7, o7, none⟩) no c7) rfl (by kernel_rfl) (by kernel_rfl) (by kernel_rfl) (fun _ _ _ h => h) (Or.inl ⟨by rfl, fun wx hx => by simp [go_sem]⟩) hS ?_
              simp only [Act.put, List.getElem_toArray, List.getElem_cons_succ, List.getElem_cons_zero, List.setIfInBounds_toArray, List.set_cons_zero, List.set_cons_succ]
              refine wpAnyH_take (i := 2) (v := .int .i64 (no : Int)) rfl (by kernel_rfl) (by kernel_rfl) (by kernel_rfl) (fun _ _ _ h => h) (Or.inl ⟨by rfl, fun wx hx => by simp [go_sem]⟩) hS ?_
              simp only [Act.put, List.getElem_toArray, List.getElem_cons_succ, List.getElem_cons_zero, List.setIfInBounds_toArray, List.set_cons_zero, List.set_cons_succ]
              refine wpAnyH_take (i := 3) (v := .bool true) rfl (by kernel_rfl) (by kernel_rfl) (by kernel_rfl) (fun _ _ _ h => h) (Or.inl ⟨by rfl, fun wx hx => by simp [go_sem, hkn7]⟩) hS ?_
              simp only [Act.put, List.getElem_toArray, List.getElem_cons_succ, List.getElem_cons_zero, List.setIfInBounds_toArray, List.set_cons_zero, List.set_cons_succ]
              refine wpAnyH_take (i := 4) (v := .bool true) rfl (by kernel_rfl) (by kernel_rfl) (by kernel_rfl) (fun _ _ _ h => h) (Or.inl ⟨by rfl, fun wx hx => by simp [go_sem]⟩) hS ?_
              simp only [Act.put, List.getElem_toArray, List.getElem_cons_succ, List.getElem_cons_zero, List.setIfInBounds_toArray, List.set_cons_zero, List.set_cons_succ]
              refine wpAnyH_take (i := 5) (v := .pointer (some ⟨g10, 0, none⟩)) rfl (by kernel_rfl) (by kernel_rfl) (by kernel_rfl) (fun _ _ _ h => h) (Or.inl ⟨by rfl, fun wx hx => by simp [go_sem]⟩) hS ?_
              simp only [Act.put, List.getElem_toArray, List.getElem_cons_succ, List.getElem_cons_zero, List.setIfInBounds_toArray, List.set_cons_zero, List.set_cons_succ]
              refine wpAnyH_take (i := 6) (v := .agg rt1.toArray) rfl (by kernel_rfl) (by kernel_rfl) (by kernel_rfl) (fun _ _ _ h => h) (Or.inl ⟨by rfl, fun wx hx => by exact load_run 27 _ rfl g10 0 rfl rt1 _ (HRX.out _ (H10.out.below hx H10.out.lt)) Tryd.underlying27 rfl HJ1.out⟩) hS ?_
              simp only [Act.put, List.getElem_toArray, List.getElem_cons_succ, List.getElem_cons_zero, List.setIfInBounds_toArray, List.set_cons_zero, List.set_cons_succ]
              refine wpAnyH_take (i := 7) (v := .slice (some ⟨b7, o7, none⟩) no c7) rfl (by kernel_rfl) (by kernel_rfl) (by kernel_rfl) (fun _ _ _ h => h) (Or.inl ⟨by rfl, fun wx hx => by simp [go_sem]⟩) hS ?_
              simp only [Act.put, List.getElem_toArray, List.getElem_cons_succ, List.getElem_cons_zero, List.setIfInBounds_toArray, List.set_cons_zero, List.set_cons_succ]
              refine wpAnyH_take (i := 8) (v := .int .i64 (k : Int)) rfl (by kernel_rfl) (by kernel_rfl) (by kernel_rfl) (fun _ _ _ h => h) (Or.inl ⟨by rfl, fun wx hx => by simp [go_sem]⟩) hS ?_
              simp only [Act.put, List.getElem_toArray, List.getElem_cons_succ, List.getElem_cons_zero, List.setIfInBounds_toArray, List.set_cons_zero, List.set_cons_succ]
              refine wpAnyH_take (i := 9) (v := .pointer (some ⟨b7, o7 + k * 98, none⟩)) rfl (by kernel_rfl) (by kernel_rfl) (by kernel_rfl) (fun _ _ _ h => h) (Or.inl ⟨by rfl, fun wx hx => by exact idx98 b7 o7 c7 no k hko _ _ _ _ rfl rfl rfl _⟩) hS ?_
              simp only [Act.put, List.getElem_toArray, List.getElem_cons_succ, List.getElem_cons_zero, List.setIfInBounds_toArray, List.set_cons_zero, List.set_cons_succ]
              refine wpAnyH_take (i := 10) (v := .pointer (some ⟨b7, o7 + k * 98, none⟩)) rfl (by kernel_rfl) (by kernel_rfl) (by kernel_rfl) (fun _ _ _ h => h) (Or.inl ⟨by rfl, fun wx hx => by simp [go_sem]⟩) hS ?_
              simp only [Act.put, List.getElem_toArray, List.getElem_cons_succ, List.getElem_cons_zero, List.setIfInBounds_toArray, List.set_cons_zero, List.set_cons_succ]
              refine wpAnyH_take (i := 11) (v := .agg rt7.toArray) rfl (by kernel_rfl) (by kernel_rfl) (by kernel_rfl) (fun _ _ _ h => h) (Or.inl ⟨by rfl, fun wx hx => by exact load_run 27 _ rfl b7 (o7 + k * 98) rfl rt7 _ (HR7.out _ (HI.out.next hx)) Tryd.underlying27 rfl HJ7.out⟩) hS ?_
              simp only [Act.put, List.getElem_toArray, List.getElem_cons_succ, List.getElem_cons_zero, List.setIfInBounds_toArray, List.set_cons_zero, List.set_cons_succ]
              refine wpAnyH_take (i := 12) (v := .bool true) rfl (by kernel_rfl) (by kernel_rfl) (by kernel_rfl) (fun _ _ _ h => h) (Or.inl ⟨by rfl, fun wx hx => by simp [go_sem, heq]⟩) hS ?_
              simp only [Act.put, List.getElem_toArray, List.getElem_cons_succ, List.getElem_cons_zero, List.setIfInBounds_toArray, List.set_cons_zero, List.set_cons_succ]
              refine wpAnyH_take (i := 13) (v := .bool true) rfl (by kernel_rfl) (by kernel_rfl) (by kernel_rfl) (fun _ _ _ h => h) (Or.inl ⟨by rfl, fun wx hx => by simp [go_sem]⟩) hS ?_
              simp only [Act.put, List.getElem_toArray, List.getElem_cons_succ, List.getElem_cons_zero, List.setIfInBounds_toArray, List.set_cons_zero, List.set_cons_succ]
              refine wpAnyH_take (i := 14) (v := .bool true) rfl (by kernel_rfl) (by kernel_rfl) (by kernel_rfl) (fun _ _ _ h => h) (Or.inl ⟨by rfl, fun wx hx => by simp [go_sem]⟩) hS ?_
              simp only [Act.put, List.getElem_toArray, List.getElem_cons_succ, List.getElem_cons_zero, List.setIfInBounds_toArray, List.set_cons_zero, List.set_cons_succ]
              refine wpAnyH_take (i := 15) (v := .int .i64 (k : Int)) rfl (by kernel_rfl) (by kernel_rfl) (by kernel_rfl) (fun _ _ _ h => h) (Or.inl ⟨by rfl, fun wx hx => by simp [go_sem]⟩) hS ?_
              simp only [Act.put, List.getElem_toArray, List.getElem_cons_succ, List.getElem_cons_zero, List.setIfInBounds_toArray, List.set_cons_zero, List.set_cons_succ]
              refine wpAnyH_take (i := 16) (v := .slice (some ⟨b8, o8, none⟩) N c8) rfl (by kernel_rfl) (by kernel_rfl) (by kernel_rfl) (fun _ _ _ h => h) (Or.inl ⟨by rfl, fun wx hx => by simp [go_sem]⟩) hS ?_
              simp only [Act.put, List.getElem_toArray, List.getElem_cons_succ, List.getElem_cons_zero, List.setIfInBounds_toArray, List.set_cons_zero, List.set_cons_succ]
              refine wpAnyH_take (i := 17) (v := .int .i64 (N : Int)) rfl (by kernel_rfl) (by kernel_rfl) (by kernel_rfl) (fun _ _ _ h => h) (Or.inl ⟨by rfl, fun wx hx => by simp [go_sem]⟩) hS ?_
              simp only [Act.put, List.getElem_toArray, List.getElem_cons_succ, List.getElem_cons_zero, List.setIfInBounds_toArray, List.set_cons_zero, List.set_cons_succ]
              refine wpAnyH_take (i := 18) (v := .int .i64 ((N : Int) - 1)) rfl (by kernel_rfl) (by kernel_rfl) (by kernel_rfl) (fun _ _ _ h => h) (Or.inl ⟨by rfl, fun wx hx => by simp [go_sem, fN]⟩) hS ?_
              simp only [Act.put, List.getElem_toArray, List.getElem_cons_succ, List.getElem_cons_zero, List.setIfInBounds_toArray, List.set_cons_zero, List.set_cons_succ]
              refine wpAnyH_take (i := 19) (v := .bool true) rfl (by kernel_rfl) (by kernel_rfl) (by kernel_rfl) (fun _ _ _ h => h) (Or.inl ⟨by rfl, fun wx hx => by simp [go_sem, hlast]⟩) hS ?_
              simp only [Act.put, List.getElem_toArray, List.getElem_cons_succ, List.getElem_cons_zero, List.setIfInBounds_toArray, List.set_cons_zero, List.set_cons_succ]
              refine wpAnyH_take (i := 20) (v := .bool true) rfl (by kernel_rfl) (by kernel_rfl) (by kernel_rfl) (fun _ _ _ h => h) (Or.inl ⟨by rfl, fun wx hx => by simp [go_sem]⟩) hS ?_
              simp only [Act.put, List.getElem_toArray, List.getElem_cons_succ, List.getElem_cons_zero, List.setIfInBounds_toArray, List.set_cons_zero, List.set_cons_succ]
              refine wpAnyH_done (by kernel_rfl) ?_ _
              clear hS HRX heq HJ1
              obtain ⟨rt1, HRT1⟩ : ∃ c, Hid (c = rtC e.2.2) := ⟨_, rfl⟩
              have HJ1 : Hid ((Tryd.prog.info? 27).map (·.size) = some rt1.length) := by show _ = _; rw [HRT1.out]; exact info_rtC HEV.out.ob
              have heq : ∀ wx : World, (Op.equalIn 10000 27 (.agg rt1.toArray) (.agg rt7.toArray)).run Tryd.prog wx = .ok false wx := fun wx => by rw [HRT1.out, HRT7.out, eq_rt _ _ HEV.out.ob HO7.out wx, decide_eq_false hneB]
              have tk90 : Hid True := trivial
              have tk91 : Hid True := trivial
              go_upto_region 15 with (first
                | (clear tk90; with_reducible refine wpSeq_loadW 30 (.tmp 70) g5 99 (sgC e.2.2 (.slice adb nb cc)) _ ?_ Tryd.underlying30 rfl ?_ ?_ ?_ ?_ ?_
                   · rw [← HSB.out]; exact (HRG.out _ _ HI.out.b).2
                   · exact info_sgC HEV.out.ob _
                   · rfl
                   · rfl
                   · rfl)
                | (clear tk91; with_reducible refine wpSeq_storeRow 30 (.tmp 10) (.tmp 71) g10 cs0 (sgC e.2.2 (.slice adb nb cc)) ?_ ?_ ?_ ?_ ?_ ?_ ?_ ?_ ?_
                   · exact H10.out
                   · rw [HL0.out.1, len_sgC HEV.out.ob, len_sgC okS_zero]
                   · exact info_sgC HEV.out.ob _
                   · exact sgC_one _ _ _ _
                   · rfl
                   · rfl
                   · rfl
                   · rfl
                   intro y14 hs
                   replace HB0 : Hid (Below wr.heap.size wr y14) := HB0.out.trans (hs.only.below HG10.out HB0.out.size)
                   replace HI : Hid (SoI w g3 g5 seed cev (.slice (some ⟨b7, o7, none⟩) no c7) (.slice (some ⟨b8, o8, none⟩) N c8) own la y14) := HIW.out.next HB0.out
                   replace HRD8 : Hid (Reads y14 (.slice a0 n0 d0) s0.2) := HRDW.out.below HB0.out
                   replace H10 : Hid (Blk y14 g10 (sgC e.2.2 (.slice adb nb cc)) 30) := hs.blk
                   clear hs))
              have HRX : Hid (∀ W : World, Blk W g10 (sgC e.2.2 (.slice adb nb cc)) 30 → W.rangeAt g10 0 rt1) := fun W hb => by rw [HRT1.out]; exact (hb.sgAt HEV.out.ob).root
              refine wp_region_held_drew (S := Over (World.drew y14)) (by kernel_rfl) (Over.refl _) ?_
              intro hS
              replace HI : Hid (SoI w g3 g5 seed cev (.slice (some ⟨b7, o7, none⟩) no c7) (.slice (some ⟨b8, o8, none⟩) N c8) own la (World.drew y14)) := HI.out.drew
              replace HRD8 : Hid (Reads (World.drew y14) (.slice a0 n0 d0) s0.2) := reads_drew HRD8.out
              replace HB0 : Hid (Below wr.heap.size wr (World.drew y14)) := HB0.out.drew
              replace H10 : Hid (Blk (World.drew y14) g10 (sgC e.2.2 (.slice adb nb cc)) 30) := H10.out.drew
              change wpAnyH _ _ _ _ _ _ _ _ (World.drew y14)
              generalize World.drew y14 = y0 at *
              try simp only [Act.put, List.setIfInBounds_toArray, List.set_cons_zero, List.set_cons_succ]
              refine wpAnyH_take (i := 0) (v := .int .i64 (k : Int)) rfl (by kernel_rfl) (by kernel_rfl) (by kernel_rfl) (fun _ _ _ h => h) (Or.inl ⟨by rfl, fun wx hx => by simp [go_sem]⟩) hS ?_
              simp only [Act.put, List.getElem_toArray, List.getElem_cons_zero, List.setIfInBounds_toArray, List.set_cons_zero, List.set_cons_succ]
              refine wpAnyH_take (i := 1) (v := .slice (some ⟨b7, o7, none⟩) no c7) rfl (by kernel_rfl) (by kernel_rfl) (by kernel_rfl) (fun _ _ _ h => h) (Or.inl ⟨by rfl, fun wx hx => by simp [go_sem]⟩) hS ?_
              simp only [Act.put, List.getElem_toArray, List.getElem_cons_succ, List.getElem_cons_zero, List.setIfInBounds_toArray, List.set_cons_zero, List.set_cons_succ]
              refine wpAnyH_take (i := 2) (v := .int .i64 (no : Int)) rfl (by kernel_rfl) (by kernel_rfl) (by kernel_rfl) (fun _ _ _ h => h) (Or.inl ⟨by rfl, fun wx hx => by simp [go_sem]⟩) hS ?_
              simp only [Act.put, List.getElem_toArray, List.getElem_cons_succ, List.getElem_cons_zero, List.setIfInBounds_toArray, List.set_cons_zero, List.set_cons_succ]
              refine wpAnyH_take (i := 3) (v := .bool true) rfl (by kernel_rfl) (by kernel_rfl) (by kernel_rfl) (fun _ _ _ h => h) (Or.inl ⟨by rfl, fun wx hx => by simp [go_sem, hkn7]⟩) hS ?_
              simp only [Act.put, List.getElem_toArray, List.getElem_cons_succ, List.getElem_cons_zero, List.setIfInBounds_toArray, List.set_cons_zero, List.set_cons_succ]
              refine wpAnyH_take (i := 4) (v := .bool true) rfl (by kernel_rfl) (by kernel_rfl) (by kernel_rfl) (fun _ _ _ h => h) (Or.inl ⟨by rfl, fun wx hx => by simp [go_sem]⟩) hS ?_
              simp only [Act.put, List.getElem_toArray, List.getElem_cons_succ, List.getElem_cons_zero, List.setIfInBounds_toArray, List.set_cons_zero, List.set_cons_succ]
              refine wpAnyH_take (i := 5) (v := .pointer (some ⟨g10, 0, none⟩)) rfl (by kernel_rfl) (by kernel_rfl) (by kernel_rfl) (fun _ _ _ h => h) (Or.inl ⟨by rfl, fun wx hx => by simp [go_sem]⟩) hS ?_
              simp only [Act.put, List.getElem_toArray, List.getElem_cons_succ, List.getElem_cons_zero, List.setIfInBounds_toArray, List.set_cons_zero, List.set_cons_succ]
              refine wpAnyH_take (i := 6) (v := .agg rt1.toArray) rfl (by kernel_rfl) (by kernel_rfl) (by kernel_rfl) (fun _ _ _ h => h) (Or.inl ⟨by rfl, fun wx hx => by exact load_run 27 _ rfl g10 0 rfl rt1 _ (HRX.out _ (H10.out.below hx H10.out.lt)) Tryd.underlying27 rfl HJ1.out⟩) hS ?_
              simp only [Act.put, List.getElem_toArray, List.getElem_cons_succ, List.getElem_cons_zero, List.setIfInBounds_toArray, List.set_cons_zero, List.set_cons_succ]
              refine wpAnyH_take (i := 7) (v := .slice (some ⟨b7, o7, none⟩) no c7) rfl (by kernel_rfl) (by kernel_rfl) (by kernel_rfl) (fun _ _ _ h => h) (Or.inl ⟨by rfl, fun wx hx => by simp [go_sem]⟩) hS ?_
              simp only [Act.put, List.getElem_toArray, List.getElem_cons_succ, List.getElem_cons_zero, List.setIfInBounds_toArray, List.set_cons_zero, List.set_cons_succ]
              refine wpAnyH_take (i := 8) (v := .int .i64 (k : Int)) rfl (by kernel_rfl) (by kernel_rfl) (by kernel_rfl) (fun _ _ _ h => h) (Or.inl ⟨by rfl, fun wx hx => by simp [go_sem]⟩) hS ?_
              simp only [Act.put, List.getElem_toArray, List.getElem_cons_succ, List.getElem_cons_zero, List.setIfInBounds_toArray, List.set_cons_zero, List.set_cons_succ]
              refine wpAnyH_take (i := 9) (v := .pointer (some ⟨b7, o7 + k * 98, none⟩)) rfl (by kernel_rfl) (by kernel_rfl) (by kernel_rfl) (fun _ _ _ h => h) (Or.inl ⟨by rfl, fun wx hx => by exact idx98 b7 o7 c7 no k hko _ _ _ _ rfl rfl rfl _⟩) hS ?_
              simp only [Act.put, List.getElem_toArray, List.getElem_cons_succ, List.getElem_cons_zero, List.setIfInBounds_toArray, List.set_cons_zero, List.set_cons_succ]
              refine wpAnyH_take (i := 10) (v := .pointer (some ⟨b7, o7 + k * 98, none⟩)) rfl (by kernel_rfl) (by kernel_rfl) (by kernel_rfl) (fun _ _ _ h => h) (Or.inl ⟨by rfl, fun wx hx => by simp [go_sem]⟩) hS ?_
              simp only [Act.put, List.getElem_toArray, List.getElem_cons_succ, List.getElem_cons_zero, List.setIfInBounds_toArray, List.set_cons_zero, List.set_cons_succ]
              refine wpAnyH_take (i := 11) (v := .agg rt7.toArray) rfl (by kernel_rfl) (by kernel_rfl) (by kernel_rfl) (fun _ _ _ h => h) (Or.inl ⟨by rfl, fun wx hx => by exact load_run 27 _ rfl b7 (o7 + k * 98) rfl rt7 _ (HR7.out _ (HI.out.next hx)) Tryd.underlying27 rfl HJ7.out⟩) hS ?_
              simp only [Act.put, List.getElem_toArray, List.getElem_cons_succ, List.getElem_cons_zero, List.setIfInBounds_toArray, List.set_cons_zero, List.set_cons_succ]
              refine wpAnyH_take (i := 12) (v := .bool false) rfl (by kernel_rfl) (by kernel_rfl) (by kernel_rfl) (fun _ _ _ h => h) (Or.inl ⟨by rfl, fun wx hx => by simp [go_sem, heq]⟩) hS ?_
              simp only [Act.put, List.getElem_toArray, List.getElem_cons_succ, List.getElem_cons_zero, List.setIfInBounds_toArray, List.set_cons_zero, List.set_cons_succ]
              refine wpAnyH_take (i := 13) (v := .bool false) rfl (by kernel_rfl) (by kernel_rfl) (by kernel_rfl) (fun _ _ _ h => h) (Or.inl ⟨by rfl, fun wx hx => by simp [go_sem]⟩) hS ?_
              simp only [Act.put, List.getElem_toArray, List.getElem_cons_succ, List.getElem_cons_zero, List.setIfInBounds_toArray, List.set_cons_zero, List.set_cons_succ]
              refine wpAnyH_done (by kernel_rfl) ?_ _
              have tk60 : Hid True := trivial
              have tk61 : Hid True := trivial
              have tk62 : Hid True := trivial
              have tk63 : Hid True := trivial
              have tk64 : Hid True := trivial
              have tk65 : Hid True := trivial
              go_wp2_with (first
                | (clear tk60; with_reducible refine wpSeq_loadW 27 (.tmp 93) b7 (o7 + k * 98) rt7 _ ?_ Tryd.underlying27 rfl ?_ ?_ ?_ ?_ ?_
                   · exact HR7.out _ HI.out
                   · exact HJ7.out
                   · rfl
                   · rfl
                   · rfl)
                | (clear tk61; go_at_call 27; refine (HCR.out y0).mono ?_; rintro e y61 ⟨vw, rfl, hvw, hbz⟩
                   replace H10 : Hid (Blk y61 g10 (sgC e.2.2 (.slice adb nb cc)) 30) := H10.out.below hbz H10.out.lt
                   replace HI : Hid (SoI w g3 g5 seed cev (.slice (some ⟨b7, o7, none⟩) no c7) (.slice (some ⟨b8, o8, none⟩) N c8) own la y61) := HI.out.next hbz
                   replace HRD8 : Hid (Reads y61 (.slice a0 n0 d0) s0.2) := HRD8.out.below hbz
                   replace HB0 : Hid (Below wr.heap.size wr y61) := HB0.out.trans (hbz.mono HB0.out.size)
                   obtain ⟨aw, nw, cw, hww⟩ := hvw.form
                   subst hww
                   have HVW : Hid (Reads y61 (.slice aw nw cw) rb7) := hvw
                   clear hbz hvw)
                | (clear tk62; with_reducible refine wpSeq_loadW 23 (.tmp 3) g3 0 (cb seed) _ ?_ Tryd.underlying23 rfl ?_ ?_ ?_ ?_ ?_
                   · exact HI.out.a.range
                   · exact HIS0.out
                   · rfl
                   · rfl
                   · rfl)
                | (clear tk63; with_reducible refine wpSeq_loadW 30 (.tmp 10) g10 0 (sgC e.2.2 (.slice adb nb cc)) _ ?_ Tryd.underlying30 rfl ?_ ?_ ?_ ?_ ?_
                   · exact H10.out.range
                   · exact HI10.out
                   · rfl
                   · rfl
                   · rfl)
                | (clear tk64; go_at_call 28; refine (HBR.out y61 _ (HEV.out.b.below HI.out.bel) HVW.out).mono ?_; rintro e y62 ⟨rfl, hbz⟩
                   clear HVW
                   replace H10 : Hid (Blk y62 g10 (sgC e.2.2 (.slice adb nb cc)) 30) := H10.out.below hbz H10.out.lt
                   replace HI : Hid (SoI w g3 g5 seed cev (.slice (some ⟨b7, o7, none⟩) no c7) (.slice (some ⟨b8, o8, none⟩) N c8) own la y62) := HI.out.next hbz
                   replace HRD8 : Hid (Reads y62 (.slice a0 n0 d0) s0.2) := HRD8.out.below hbz
                   replace HB0 : Hid (Below wr.heap.size wr y62) := HB0.out.trans (hbz.mono HB0.out.size)
                   clear hbz )
                | (clear tk65; go_at_call 10; refine (HW.out y62 HI.out.bel).mono ?_; rintro e y63 ⟨rfl, hbz⟩
                   replace H10 : Hid (Blk y63 g10 (sgC e.2.2 (.slice adb nb cc)) 30) := H10.out.below hbz H10.out.lt
                   replace HI : Hid (SoI w g3 g5 seed cev (.slice (some ⟨b7, o7, none⟩) no c7) (.slice (some ⟨b8, o8, none⟩) N c8) own la y63) := HI.out.next hbz
                   replace HRD8 : Hid (Reads y63 (.slice a0 n0 d0) s0.2) := HRD8.out.below hbz
                   replace HB0 : Hid (Below wr.heap.size wr y63) := HB0.out.trans (hbz.mono HB0.out.size)
                   clear hbz ))
              go_ret
              exact ⟨rfl, HI.out.bel⟩
            case neg =>
              obtain ⟨rt1, HRT1⟩ : ∃ c, Hid (c = rtC s0) := ⟨_, rfl⟩
              have HJ1 : Hid ((Tryd.prog.info? 27).map (·.size) = some rt1.length) := by show _ = _; rw [HRT1.out]; exact info_rtC HOS.out
              have heq : ∀ wx : World, (Op.equalIn 10000 27 (.agg rt1.toArray) (.agg rt7.toArray)).run Tryd.prog wx = .ok true wx := fun wx => by rw [HRT1.out, HRT7.out, eq_rt _ _ HOS.out HO7.out wx, decide_eq_true heq0]
              have hlast : ((k : Int) == (N : Int) - 1) = false := by rw [beq_eq_false_iff_ne]; omega
              have HP2 : Hid (∀ j, j < k + 1 → j < no ∧ (la.getD j zeroS).1 = (own.getD j zeroS).1) := fun j hj => by
                by_cases hjk : j = k
                · rw [hjk, ← HS0.out, ← HS7.out]; exact ⟨hko, heq0⟩
                · exact HPK.out j (by omega)
              have HB0 : Hid (Below wr.heap.size wr wr) := Below.refl _ _
              have HIW := HI
              have HRDW := HRD8
              have tk20 : Hid True := trivial
              have tk21 : Hid True := trivial
              have tk22 : Hid True := trivial
              go_upto_region 13 with (first
                | (clear tk20; with_reducible refine wpSeq_loadW 30 (.tmp 47) b8 (o8 + k * 98) cs0 _ ?_ Tryd.underlying30 rfl ?_ ?_ ?_ ?_ ?_
                   · exact HR8.out
                   · exact HI0S.out
                   · rfl
                   · rfl
                   · rfl)
                | (clear tk21; with_reducible refine wpSeq_allocS ?_ ?_ ?_
                   · rfl
                   · rfl
                   intro g10 y21 nn)
                | (clear tk22; with_reducible refine wpSeq_storeRow 30 (.tmp 10) (.tmp 48) g10 (sgC zeroS (.slice none 0 0)) cs0 ?_ ?_ ?_ ?_ ?_ ?_ ?_ ?_ ?_
                   · exact nn.blk
                   · exact HL0.out.1
                   · exact HI0S.out
                   · exact HL0.out.2
                   · rfl
                   · rfl
                   · rfl
                   · rfl
                   intro y22 hs
                   have hbz := nn.below.trans (hs.only.below nn.ge nn.below.size)
                   replace HI : Hid (SoI w g3 g5 seed cev (.slice (some ⟨b7, o7, none⟩) no c7) (.slice (some ⟨b8, o8, none⟩) N c8) own la y22) := HI.out.next hbz
                   replace HRD8 : Hid (Reads y22 (.slice a0 n0 d0) s0.2) := HRD8.out.below hbz
                   replace HB0 : Hid (Below wr.heap.size wr y22) := HB0.out.trans (hbz.mono HB0.out.size)
                   have H10 : Hid (Blk y22 g10 cs0 30) := hs.blk
                   have HG10 : Hid (wr.heap.size ≤ g10) := nn.ge
                   clear nn hs hbz))
              have HRX : Hid (∀ W : World, Blk W g10 cs0 30 → W.rangeAt g10 0 rt1) := fun W hb => by rw [HC0.out] at hb; rw [HRT1.out]; exact (hb.sgAt HOS.out).root
              refine wp_region_held_drew (S := Over (World.drew y22)) (by kernel_rfl) (Over.refl _) ?_
              intro hS
              replace HI : Hid (SoI w g3 g5 seed cev (.slice (some ⟨b7, o7, none⟩) no c7) (.slice (some ⟨b8, o8, none⟩) N c8) own la (World.drew y22)) := HI.out.drew
              replace HRD8 : Hid (Reads (World.drew y22) (.slice a0 n0 d0) s0.2) := reads_drew HRD8.out
              replace HB0 : Hid (Below wr.heap.size wr (World.drew y22)) := HB0.out.drew
              replace H10 : Hid (Blk (World.drew y22) g10 cs0 30) := H10.out.drew
              change wpAnyH _ _ _ _ _ _ _ _ (World.drew y22)
              generalize World.drew y22 = y0 at *
              try simp only [Act.put, List.setIfInBounds_toArray, List.set_cons_zero, List.set_cons_succ]
              refine wpAnyH_take (i := 0) (v := .int .i64 (k : Int)) rfl (by kernel_rfl) (by kernel_rfl) (by kernel_rfl) (fun _ _ _ h => h) (Or.inl ⟨by rfl, fun wx hx => by simp [go_sem]⟩) hS ?_
              simp only [Act.put, List.getElem_toArray, List.getElem_cons_zero, List.setIfInBounds_toArray, List.set_cons_zero, List.set_cons_succ]
              refine wpAnyH_take (i := 1) (v := .slice (some ⟨b7, o7, none⟩) no c7) rfl (by kernel_rfl) (by kernel_rfl) (by kernel_rfl) (fun _ _ _ h => h) (Or.inl ⟨by rfl, fun wx hx => by simp [go_sem]⟩) hS ?_
              simp only [Act.put, List.getElem_toArray, List.getElem_cons_succ, List.getElem_cons_zero, List.setIfInBounds_toArray, List.set_cons_zero, List.set_cons_succ]
              refine wpAnyH_take (i := 2) (v := .int .i64 (no : Int)) rfl (by kernel_rfl) (by kernel_rfl) (by kernel_rfl) (fun _ _ _ h => h) (Or.inl ⟨by rfl, fun wx hx => by simp [go_sem]⟩) hS ?_
              simp only [Act.put, List.getElem_toArray, List.getElem_cons_succ, List.getElem_cons_zero, List.setIfInBounds_toArray, List.set_cons_zero, List.set_cons_succ]
              refine wpAnyH_take (i := 3) (v := .bool true) rfl (by kernel_rfl) (by kernel_rfl) (by kernel_rfl) (fun _ _ _ h => h) (Or.inl ⟨by rfl, fun wx hx => by simp [go_sem, hkn7]⟩) hS ?_
              simp only [Act.put, List.getElem_toArray, List.getElem_cons_succ, List.getElem_cons_zero, List.setIfInBounds_toArray, List.set_cons_zero, List.set_cons_succ]
              refine wpAnyH_take (i := 4) (v := .bool true) rfl (by kernel_rfl) (by kernel_rfl) (by kernel_rfl) (fun _ _ _ h => h) (Or.inl ⟨by rfl, fun wx hx => by simp [go_sem]⟩) hS ?_
              simp only [Act.put, List.getElem_toArray, List.getElem_cons_succ, List.getElem_cons_zero, List.setIfInBounds_toArray, List.set_cons_zero, List.set_cons_succ]
              refine wpAnyH_take (i := 5) (v := .pointer (some ⟨g10, 0, none⟩)) rfl (by kernel_rfl) (by kernel_rfl) (by kernel_rfl) (fun _ _ _ h => h) (Or.inl ⟨by rfl, fun wx hx => by simp [go_sem]⟩) hS ?_
              simp only [Act.put, List.getElem_toArray, List.getElem_cons_succ, List.getElem_cons_zero, List.setIfInBounds_toArray, List.set_cons_zero, List.set_cons_succ]
              refine wpAnyH_take (i := 6) (v := .agg rt1.toArray) rfl (by kernel_rfl) (by kernel_rfl) (by kernel_rfl) (fun _ _ _ h => h) (Or.inl ⟨by rfl, fun wx hx => by exact load_run 27 _ rfl g10 0 rfl rt1 _ (HRX.out _ (H10.out.below hx H10.out.lt)) Tryd.underlying27 rfl HJ1.out⟩) hS ?_
              simp only [Act.put, List.getElem_toArray, List.getElem_cons_succ, List.getElem_cons_zero, List.setIfInBounds_toArray, List.set_cons_zero, List.set_cons_succ]
              refine wpAnyH_take (i := 7) (v := .slice (some ⟨b7, o7, none⟩) no c7) rfl (by kernel_rfl) (by kernel_rfl) (by kernel_rfl) (fun _ _ _ h => h) (Or.inl ⟨by rfl, fun wx hx => by simp [go_sem]⟩) hS ?_
              simp only [Act.put, List.getElem_toArray, List.getElem_cons_succ, List.getElem_cons_zero, List.setIfInBounds_toArray, List.set_cons_zero, List.set_cons_succ]
              refine wpAnyH_take (i := 8) (v := .int .i64 (k : Int)) rfl (by kernel_rfl) (by kernel_rfl) (by kernel_rfl) (fun _ _ _ h => h) (Or.inl ⟨by rfl, fun wx hx => by simp [go_sem]⟩) hS ?_
              simp only [Act.put, List.getElem_toArray, List.getElem_cons_succ, List.getElem_cons_zero, List.setIfInBounds_toArray, List.set_cons_zero, List.set_cons_succ]
              refine wpAnyH_take (i := 9) (v := .pointer (some ⟨b7, o7 + k * 98, none⟩)) rfl (by kernel_rfl) (by kernel_rfl) (by kernel_rfl) (fun _ _ _ h => h) (Or.inl ⟨by rfl, fun wx hx => by exact idx98 b7 o7 c7 no k hko _ _ _ _ rfl rfl rfl _⟩) hS ?_
              simp only [Act.put, List.getElem_toArray, List.getElem_cons_succ, List.getElem_cons_zero, List.setIfInBounds_toArray, List.set_cons_zero, List.set_cons_succ]
              refine wpAnyH_take (i := 10) (v := .pointer (some ⟨b7, o7 + k * 98, none⟩)) rfl (by kernel_rfl) (by kernel_rfl) (by kernel_rfl) (fun _ _ _ h => h) (Or.inl ⟨by rfl, fun wx hx => by simp [go_sem]⟩) hS ?_
              simp only [Act.put, List.getElem_toArray, List.getElem_cons_succ, List.getElem_cons_zero, List.setIfInBounds_toArray, List.set_cons_zero, List.set_cons_succ]
              refine wpAnyH_take (i := 11) (v := .agg rt7.toArray) rfl (by kernel_rfl) (by kernel_rfl) (by kernel_rfl) (fun _ _ _ h => h) (Or.inl ⟨by rfl, fun wx hx => by exact load_run 27 _ rfl b7 (o7 + k * 98) rfl rt7 _ (HR7.out _ (HI.out.next hx)) Tryd.underlying27 rfl HJ7.out⟩) hS ?_
              simp only [Act.put, List.getElem_toArray, List.getElem_cons_succ, List.getElem_cons_zero, List.setIfInBounds_toArray, List.set_cons_zero, List.set_cons_succ]
              refine wpAnyH_take (i := 12) (v := .bool true) rfl (by kernel_rfl) (by kernel_rfl) (by kernel_rfl) (fun _ _ _ h => h) (Or.inl ⟨by rfl, fun wx hx => by simp [go_sem, heq]⟩) hS ?_
              simp only [Act.put, List.getElem_toArray, List.getElem_cons_succ, List.getElem_cons_zero, List.setIfInBounds_toArray, List.set_cons_zero, List.set_cons_succ]
              refine wpAnyH_take (i := 13) (v := .bool true) rfl (by kernel_rfl) (by kernel_rfl) (by kernel_rfl) (fun _ _ _ h => h) (Or.inl ⟨by rfl, fun wx hx => by simp [go_sem]⟩) hS ?_
              simp only [Act.put, List.getElem_toArray, List.getElem_cons_succ, List.getElem_cons_zero, List.setIfInBounds_toArray, List.set_cons_zero, List.set_cons_succ]
              refine wpAnyH_take (i := 14) (v := .bool true) rfl (by kernel_rfl) (by kernel_rfl) (by kernel_rfl) (fun _ _ _ h => h) (Or.inl ⟨by rfl, fun wx hx => by simp [go_sem]⟩) hS ?_
              simp only [Act.put, List.getElem_toArray, List.getElem_cons_succ, List.getElem_cons_zero, List.setIfInBounds_toArray, List.set_cons_zero, List.set_cons_succ]
              refine wpAnyH_take (i := 15) (v := .int .i64 (k : Int)) rfl (by kernel_rfl) (by kernel_rfl) (by kernel_rfl) (fun _ _ _ h => h) (Or.inl ⟨by rfl, fun wx hx => by simp [go_sem]⟩) hS ?_
              simp only [Act.put, List.getElem_toArray, List.getElem_cons_succ, List.getElem_cons_zero, List.setIfInBounds_toArray, List.set_cons_zero, List.set_cons_succ]
              refine wpAnyH_take (i := 16) (v := .slice (some ⟨b8, o8, none⟩) N c8) rfl (by kernel_rfl) (by kernel_rfl) (by kernel_rfl) (fun _ _ _ h => h) (Or.inl ⟨by rfl, fun wx hx => by simp [go_sem]⟩) hS ?_
              simp only [Act.put, List.getElem_toArray, List.getElem_cons_succ, List.getElem_cons_zero, List.setIfInBounds_toArray, List.set_cons_zero, List.set_cons_succ]
              refine wpAnyH_take (i := 17) (v := .int .i64 (N : Int)) rfl (by kernel_rfl) (by kernel_rfl) (by kernel_rfl) (fun _ _ _ h => h) (Or.inl ⟨by rfl, fun wx hx => by simp [go_sem]⟩) hS ?_
              simp only [Act.put, List.getElem_toArray, List.getElem_cons_succ, List.getElem_cons_zero, List.setIfInBounds_toArray, List.set_cons_zero, List.set_cons_succ]
              refine wpAnyH_take (i := 18) (v := .int .i64 ((N : Int) - 1)) rfl (by kernel_rfl) (by kernel_rfl) (by kernel_rfl) (fun _ _ _ h => h) (Or.inl ⟨by rfl, fun wx hx => by simp [go_sem, fN]⟩) hS ?_
              simp only [Act.put, List.getElem_toArray, List.getElem_cons_succ, List.getElem_cons_zero, List.setIfInBounds_toArray, List.set_cons_zero, List.set_cons_succ]
              refine wpAnyH_take (i := 19) (v := .bool false) rfl (by kernel_rfl) (by kernel_rfl) (by kernel_rfl) (fun _ _ _ h => h) (Or.inl ⟨by rfl, fun wx hx => by simp [go_sem, hlast]⟩) hS ?_
              simp only [Act.put, List.getElem_toArray, List.getElem_cons_succ, List.getElem_cons_zero, List.setIfInBounds_toArray, List.set_cons_zero, List.set_cons_succ]
              refine wpAnyH_take (i := 20) (v := .bool false) rfl (by kernel_rfl) (by kernel_rfl) (by kernel_rfl) (fun _ _ _ h => h) (Or.inl ⟨by rfl, fun wx hx => by simp [go_sem]⟩) hS ?_
              simp only [Act.put, List.getElem_toArray, List.getElem_cons_succ, List.getElem_cons_zero, List.setIfInBounds_toArray, List.set_cons_zero, List.set_cons_succ]
              refine wpAnyH_done (by kernel_rfl) ?_ _
              go_wp2
              clear hS
              refine wp_region_held_drew (S := Over (World.drew y0)) (by kernel_rfl) (Over.refl _) ?_
              intro hS
              replace HI : Hid (SoI w g3 g5 seed cev (.slice (some ⟨b7, o7, none⟩) no c7) (.slice (some ⟨b8, o8, none⟩) N c8) own la (World.drew y0)) := HI.out.drew
              replace HRD8 : Hid (Reads (World.drew y0) (.slice a0 n0 d0) s0.2) := reads_drew HRD8.out
              replace HB0 : Hid (Below wr.heap.size wr (World.drew y0)) := HB0.out.drew
              replace H10 : Hid (Blk (World.drew y0) g10 cs0 30) := H10.out.drew
              change wpAnyH _ _ _ _ _ _ _ _ (World.drew y0)
              generalize World.drew y0 = y0 at *
              try simp only [Act.put, List.setIfInBounds_toArray, List.set_cons_zero, List.set_cons_succ]
              refine wpAnyH_take (i := 0) (v := .int .i64 (k : Int)) rfl (by kernel_rfl) (by kernel_rfl) (by kernel_rfl) (fun _ _ _ h => h) (Or.inl ⟨by rfl, fun wx hx => by simp [go_sem]⟩) hS ?_
              simp only [Act.put, List.getElem_toArray, List.getElem_cons_zero, List.setIfInBounds_toArray, List.set_cons_zero, List.set_cons_succ]
              refine wpAnyH_take (i := 1) (v := .slice (some ⟨b7, o7, none⟩) no c7) rfl (by kernel_rfl) (by kernel_rfl) (by kernel_rfl) (fun _ _ _ h => h) (Or.inl ⟨by rfl, fun wx hx => by simp [go_sem]⟩) hS ?_
              simp only [Act.put, List.getElem_toArray, List.getElem_cons_succ, List.getElem_cons_zero, List.setIfInBounds_toArray, List.set_cons_zero, List.set_cons_succ]
              refine wpAnyH_take (i := 2) (v := .int .i64 (no : Int)) rfl (by kernel_rfl) (by kernel_rfl) (by kernel_rfl) (fun _ _ _ h => h) (Or.inl ⟨by rfl, fun wx hx => by simp [go_sem]⟩) hS ?_
              simp only [Act.put, List.getElem_toArray, List.getElem_cons_succ, List.getElem_cons_zero, List.setIfInBounds_toArray, List.set_cons_zero, List.set_cons_succ]
              refine wpAnyH_take (i := 3) (v := .bool true) rfl (by kernel_rfl) (by kernel_rfl) (by kernel_rfl) (fun _ _ _ h => h) (Or.inl ⟨by rfl, fun wx hx => by simp [go_sem, hkn7]⟩) hS ?_
              simp only [Act.put, List.getElem_toArray, List.getElem_cons_succ, List.getElem_cons_zero, List.setIfInBounds_toArray, List.set_cons_zero, List.set_cons_succ]
              refine wpAnyH_take (i := 4) (v := .bool true) rfl (by kernel_rfl) (by kernel_rfl) (by kernel_rfl) (fun _ _ _ h => h) (Or.inl ⟨by rfl, fun wx hx => by simp [go_sem]⟩) hS ?_
              simp only [Act.put, List.getElem_toArray, List.getElem_cons_succ, List.getElem_cons_zero, List.setIfInBounds_toArray, List.set_cons_zero, List.set_cons_succ]
              refine wpAnyH_take (i := 5) (v := .pointer (some ⟨g10, 0, none⟩)) rfl (by kernel_rfl) (by kernel_rfl) (by kernel_rfl) (fun _ _ _ h => h) (Or.inl ⟨by rfl, fun wx hx => by simp [go_sem]⟩) hS ?_
              simp only [Act.put, List.getElem_toArray, List.getElem_cons_succ, List.getElem_cons_zero, List.setIfInBounds_toArray, List.set_cons_zero, List.set_cons_succ]
              refine wpAnyH_take (i := 6) (v := .agg rt1.toArray) rfl (by kernel_rfl) (by kernel_rfl) (by kernel_rfl) (fun _ _ _ h => h) (Or.inl ⟨by rfl, fun wx hx => by exact load_run 27 _ rfl g10 0 rfl rt1 _ (HRX.out _ (H10.out.below hx H10.out.lt)) Tryd.underlying27 rfl HJ1.out⟩) hS ?_
              simp only [Act.put, List.getElem_toArray, List.getElem_cons_succ, List.getElem_cons_zero, List.setIfInBounds_toArray, List.set_cons_zero, List.set_cons_succ]
              refine wpAnyH_take (i := 7) (v := .slice (some ⟨b7, o7, none⟩) no c7) rfl (by kernel_rfl) (by kernel_rfl) (by kernel_rfl) (fun _ _ _ h => h) (Or.inl ⟨by rfl, fun wx hx => by simp [go_sem]⟩) hS ?_
              simp only [Act.put, List.getElem_toArray, List.getElem_cons_succ, List.getElem_cons_zero, List.setIfInBounds_toArray, List.set_cons_zero, List.set_cons_succ]
              refine wpAnyH_take (i := 8) (v := .int .i64 (k : Int)) rfl (by kernel_rfl) (by kernel_rfl) (by kernel_rfl) (fun _ _ _ h => h) (Or.inl ⟨by rfl, fun wx hx => by simp [go_sem]⟩) hS ?_
              simp only [Act.put, List.getElem_toArray, List.getElem_cons_succ, List.getElem_cons_zero, List.setIfInBounds_toArray, List.set_cons_zero, List.set_cons_succ]
              refine wpAnyH_take (i := 9) (v := .pointer (some ⟨b7, o7 + k * 98, none⟩)) rfl (by kernel_rfl) (by kernel_rfl) (by kernel_rfl) (fun _ _ _ h => h) (Or.inl ⟨by rfl, fun wx hx => by exact idx98 b7 o7 c7 no k hko _ _ _ _ rfl rfl rfl _⟩) hS ?_
              simp only [Act.put, List.getElem_toArray, List.getElem_cons_succ, List.getElem_cons_zero, List.setIfInBounds_toArray, List.set_cons_zero, List.set_cons_succ]
              refine wpAnyH_take (i := 10) (v := .pointer (some ⟨b7, o7 + k * 98, none⟩)) rfl (by kernel_rfl) (by kernel_rfl) (by kernel_rfl) (fun _ _ _ h => h) (Or.inl ⟨by rfl, fun wx hx => by simp [go_sem]⟩) hS ?_
              simp only [Act.put, List.getElem_toArray, List.getElem_cons_succ, List.getElem_cons_zero, List.setIfInBounds_toArray, List.set_cons_zero, List.set_cons_succ]
              refine wpAnyH_take (i := 11) (v := .agg rt7.toArray) rfl (by kernel_rfl) (by kernel_rfl) (by kernel_rfl) (fun _ _ _ h => h) (Or.inl ⟨by rfl, fun wx hx => by exact load_run 27 _ rfl b7 (o7 + k * 98) rfl rt7 _ (HR7.out _ (HI.out.next hx)) Tryd.underlying27 rfl HJ7.out⟩) hS ?_
              simp only [Act.put, List.getElem_toArray, List.getElem_cons_succ, List.getElem_cons_zero, List.setIfInBounds_toArray, List.set_cons_zero, List.set_cons_succ]
              refine wpAnyH_take (i := 12) (v := .bool true) rfl (by kernel_rfl) (by kernel_rfl) (by kernel_rfl) (fun _ _ _ h => h) (Or.inl ⟨by rfl, fun wx hx => by simp [go_sem, heq]⟩) hS ?_
              simp only [Act.put, List.getElem_toArray, List.getElem_cons_succ, List.getElem_cons_zero, List.setIfInBounds_toArray, List.set_cons_zero, List.set_cons_succ]
              refine wpAnyH_take (i := 13) (v := .bool true) rfl (by kernel_rfl) (by kernel_rfl) (by kernel_rfl) (fun _ _ _ h => h) (Or.inl ⟨by rfl, fun wx hx => by simp [go_sem]⟩) hS ?_
              simp only [Act.put, List.getElem_toArray, List.getElem_cons_succ, List.getElem_cons_zero, List.setIfInBounds_toArray, List.set_cons_zero, List.set_cons_succ]
              refine wpAnyH_done (by kernel_rfl) ?_ _
              go_wp2
              go_roundw
              case rel => exact ⟨k + 1, by omega, by simp, HP2, HI⟩
              case measure => simp [intOf]; omega
end Go.Proofs.YtableajopaappaaDoor
/- What the listed variable gives: the rounds' words lie where the walks look for them. -/
namespace Go.Proofs.YtableajopaappaaDoor
open Go.ChangeShapes Go.WideShapes Go.ChangeAt Go.WideMaps Go.WideElems Go.RowKit
set_option maxRecDepth 100000
theorem own : ownKnob Tryd.prog.godebug = none := by kernel_rfl
theorem gKw : Tryd.prog.globalNamed "blazon/sha.roundWords" = some 0 := by kernel_rfl
theorem tKw : (Tryd.prog.globals[0]?).map (·.type) = some 134 := by kernel_rfl
def laidK : List (String × DataW Unit) := [("blazon/sha.roundWords", Rows.laid_blazon_sha_roundWords)]
def kzs : List Int := kw.map fun x => (x.toNat : Int)
theorem laid_tab : (Rows.laid_blazon_sha_roundWords : DataW Unit) = Lib.tabData .u32 kzs := by kernel_rfl
theorem door_met (os : Os) (args : Array Value) : laidMetH Tryd.prog laidK ((World.doorLaid Tryd.prog 400 os).forCall (fun _ _ => 0) ⟨#[], args, []⟩).memory :=
  laidMetH_of_parts3 (fuel := 8) (laidMet_of_run' 8 (by kernel_rfl) (by kernel_rfl)) (by kernel_rfl) (by kernel_rfl)
theorem getD_toNat (l : List (BitVec 32)) (j : Nat) : (l.map fun x => (x.toNat : Int)).getD j 0 = ((l.getD j 0).toNat : Int) := by
  rw [List.getD_eq_getElem?_getD, List.getD_eq_getElem?_getD, List.getElem?_map]
  cases l[j]? <;> rfl
theorem kok_of_laid {W : World} (h : laidMetH Tryd.prog laidK W) : KOk W := by
  rw [MakeChecks.laidMetH_plain _ _ _ (by kernel_rfl)] at h
  unfold laidK at h
  rw [laid_tab] at h
  have hT := Lib.tabIs_of_head gKw tKw Tryd.underlying134 Tryd.underlying114 (by kernel_rfl) (by kernel_rfl) h
  intro j hj
  rw [hT.cell gKw j (by simpa [kzs, kw] using hj), kzs, getD_toNat]
end Go.Proofs.YtableajopaappaaDoor

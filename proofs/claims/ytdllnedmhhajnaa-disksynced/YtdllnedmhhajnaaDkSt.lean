/- The walk of the statements' own start (layer 13). -/
import Derived.Test.YtdllnedmhhajnaaDkLw
namespace Go.Proofs.Ytdllnedmhhajnaa
open Go.RowKit
set_option maxRecDepth 100000
theorem results_tmp_row {fn : Func} {p u : Tmp} {ty : TypeId} (h : fn.results = #[.tmp u, .cell p ty]) (tmps : Array Value) (w : World) (g : Nat) (v : Value) (hp : tmps.getD p undef = .pointer (some ⟨g, 0, none⟩)) (e1 : (loadVar ty ⟨g, 0, none⟩).run Try.prog w = .ok v w) :
    (results fn tmps).run Try.prog w = .ok (.tuple #[tmps.getD u undef, v]) w := by
  have hp' : tmps[p]?.getD undef = .pointer (some ⟨g, 0, none⟩) := by simpa using hp
  simp [results, h, hp', asAddr, e1]
theorem start_n (n : Int) : ∃ m : Nat, (IntKind.u64.wrap n).tmod 8 = (m : Int) ∧ m < 8 := by
  have h0 : 0 ≤ IntKind.u64.wrap n := by
    rw [IntKind.wrap_u64]
    omega
  refine ⟨((IntKind.u64.wrap n) % 8).toNat, ?_, ?_⟩
  · rw [Int.tmod_eq_emod_of_nonneg h0]; omega
  · omega
set_option maxRecDepth 100000 in
set_option maxHeartbeats 8000000 in
theorem start13_any {Dk : World → Nat → (Nat → Prop) → DkT → Prop} (OPS : DkOps Dk) (n : Int) (w : World) : Calls Try.prog 8 #[.int .i64 n] w fun r w' => ∃ sn g P vs, 1 ≤ sn ∧ sn ≤ 8 ∧ r = .returned (.tuple #[.pointer (some ⟨g, 0, none⟩), .agg (rdC (zeroD sn) vs (.slice none 0 0)).toArray]) ∧ Dk w' g P (zeroD sn) ∧ RdS P w' (zeroD sn) vs (.slice none 0 0) ∧ Below w.heap.size w w' ∧ ∀ k, P k → w.heap.size ≤ k := by
  obtain ⟨m, hm, hm8⟩ := start_n n
  obtain ⟨sn, HSE⟩ : ∃ s, Hid (s = m + 1) := ⟨_, rfl⟩
  obtain ⟨tn, HTN⟩ : ∃ s, Hid (s = 64 * sn) := ⟨_, rfl⟩
  have HSN : Hid (1 ≤ sn ∧ sn ≤ 8) := by rw [HSE.out]; exact ⟨by omega, by omega⟩
  have f1 : IntKind.i64.wrap (m : Int) = (m : Int) := by rw [IntKind.wrap_i64]; omega
  have f2 : IntKind.i64.wrap (1 + (m : Int)) = (sn : Int) := by rw [IntKind.wrap_i64]; have h := HSE.out; omega
  have f3 : IntKind.i64.wrap (64 * (sn : Int)) = (tn : Int) := by rw [IntKind.wrap_i64]; have h := HSN.out; have h2 := HTN.out; omega
  have HBW : Hid (Below w.heap.size w w) := Below.refl _ _
  clear hm8
  go_enter Try.func8, Try.ntmps8
  have tk0 : Hid True := trivial
  have tk1 : Hid True := trivial
  have tk2 : Hid True := trivial
  have tk3 : Hid True := trivial
  have tk4 : Hid True := trivial
  have tk5 : Hid True := trivial
  go_upto_region 6 with (first
    | (clear tk0; with_reducible refine wpSeq_allocRd ?_ ?_ ?_
       · rfl
       · rfl
       intro g3 y1 nn
       have GE_g3 : Hid (w.heap.size ≤ g3) := Nat.le_trans HBW.out.size nn.ge
       replace HBW : Hid (Below w.heap.size w y1) := HBW.out.trans (nn.below.mono HBW.out.size)
       have H3 : Hid (Blk y1 g3 [.slice none 0 0, .slice none 0 0, .int .i64 0, .bool false] 27) := nn.blk
       clear nn)
    | (clear tk1; go_at_call 19; refine (OPS.new y1 sn HSN.out.1 (by have h := HSN.out; omega)).mono ?_; rintro e0 y2 ⟨g, P, rfl, hdk, hbz, hpw⟩
       have HDK : Hid (Dk y2 g P (zeroD sn)) := hdk
       have HPW : Hid (∀ k, P k → w.heap.size ≤ k) := fun k hk => Nat.le_trans HBW.out.size (hpw k hk)
       have NP_g3 : Hid (¬ P g3) := fun h => absurd (hpw g3 h) (by have h2 := H3.out.lt; omega)
       replace H3 : Hid (Blk y2 g3 [.slice none 0 0, .slice none 0 0, .int .i64 0, .bool false] 27) := H3.out.below hbz H3.out.lt
       replace HBW : Hid (Below w.heap.size w y2) := HBW.out.trans (hbz.mono HBW.out.size)
       clear hdk hpw hbz)
    | (clear tk2; with_reducible refine wpSeq_make (.tmp 20) (.tmp 20) tn tn (Nat.le_refl _) ?_ ?_ ?_ ?_ ?_ ?_
       · have h := HTN.out; have h2 := HSN.out; omega
       · rfl
       · rfl
       · rfl
       · rfl
       intro gm y3 z hz hge hzb hzl
       have hz2 : z = (zeroD sn).safe := by rw [hz, HTN.out]; rfl
       rw [hz2] at hzb
       have HRB : Hid (Reads y3 (.slice (some ⟨gm, 0, none⟩) tn tn) (zeroD sn).safe) := hzb.reads (by rw [HTN.out]; exact List.length_replicate.symm) (by rw [HTN.out]; exact Nat.le_of_eq List.length_replicate)
       replace H3 : Hid (Blk y3 g3 [.slice none 0 0, .slice none 0 0, .int .i64 0, .bool false] 27) := H3.out.below hzl H3.out.lt
       replace HDK : Hid (Dk y3 g P (zeroD sn)) := OPS.same HDK.out hzl.size (fun k hk => hzl.block k (OPS.lt HDK.out k hk))
       replace HBW : Hid (Below w.heap.size w y3) := HBW.out.trans (hzl.mono HBW.out.size)
       clear hz hge hzb hzl hz2)
    | (clear tk3; go_at_call 18; refine (rdLoad_any (Two P g3 g3) (.slice (some ⟨gm, 0, none⟩) tn tn) (zeroD sn).safe sn y3 HRB.out List.length_replicate HSN.out.1 (by have h := HSN.out; omega) (fun k hk => by rcases hk with hk | rfl | rfl; exact OPS.lt HDK.out k hk; exact H3.out.lt; exact H3.out.lt)).mono ?_; rintro e0 y4 ⟨vs, rfl, hrs, hbz⟩
       obtain ⟨ad, cs, aw, cw, hvs, hvw⟩ := hrs.form
       clear hvw
       have hl : (loadD (zeroD sn).safe).safe.length = tn := by rw [HTN.out]; exact List.length_replicate
       rw [hl] at hvs
       subst hvs
       replace H3 : Hid (Blk y4 g3 [.slice none 0 0, .slice none 0 0, .int .i64 0, .bool false] 27) := H3.out.below hbz H3.out.lt
       replace HRB : Hid (Reads y4 (.slice (some ⟨gm, 0, none⟩) tn tn) (zeroD sn).safe) := HRB.out.below hbz
       replace HDK : Hid (Dk y4 g P (zeroD sn)) := OPS.same HDK.out hbz.size (fun k hk => hbz.block k (OPS.lt HDK.out k hk))
       replace HBW : Hid (Below w.heap.size w y4) := HBW.out.trans (hbz.mono HBW.out.size)
       have HRS : Hid (RdS (Two P g3 g3) y4 (zeroD sn) (.slice ad tn cs) (.slice none 0 0)) := hrs
       clear hrs hbz hl HRB)
    | (clear tk4; with_reducible refine wpSeq_allocRd ?_ ?_ ?_
       · rfl
       · rfl
       intro g6 y5 nn
       have HL3 : Hid (g3 < g6) := Nat.lt_of_lt_of_le H3.out.lt nn.ge)
    | (clear tk5; with_reducible refine wpSeq_storeRow 27 (.tmp 6) (.tmp 23) g6 [.slice none 0 0, .slice none 0 0, .int .i64 0, .bool false] [.slice ad tn cs, .slice none 0 0, .int .i64 (-1), .bool false] ?_ ?_ ?_ ?_ ?_ ?_ ?_ ?_ ?_
       · exact nn.blk
       · rfl
       · exact info_rd _ _ _ _
       · exact one_rd _ _ _ _ _ _ _ _
       · rfl
       · rfl
       · rfl
       · rfl
       intro y6 hs
       have hbz := nn.below.trans (hs.only.below nn.ge nn.below.size)
       replace H3 : Hid (Blk y6 g3 [.slice none 0 0, .slice none 0 0, .int .i64 0, .bool false] 27) := H3.out.below hbz H3.out.lt
       replace HDK : Hid (Dk y6 g P (zeroD sn)) := OPS.same HDK.out hbz.size (fun k hk => hbz.block k (OPS.lt HDK.out k hk))
       replace HRS : Hid (RdS (Two P g3 g3) y6 (zeroD sn) (.slice ad tn cs) (.slice none 0 0)) := HRS.out.below hbz
       replace HBW : Hid (Below w.heap.size w y6) := HBW.out.trans (hbz.mono HBW.out.size)
       have NE36 : Hid (g3 ≠ g6) := by have h1 := HL3.out; show _ ≠ _; omega
       have H6 : Hid (Blk y6 g6 [.slice ad tn cs, .slice none 0 0, .int .i64 (-1), .bool false] 27) := hs.blk
       clear nn hs hbz))
  refine wp_region_held_drew (S := Only g3 (World.drew y6)) (by kernel_rfl) (Only.refl _ _) ?_
  intro hS
  replace H3 : Hid (Blk (World.drew y6) g3 [.slice none 0 0, .slice none 0 0, .int .i64 0, .bool false] 27) := H3.out.drew
  replace H6 : Hid (Blk (World.drew y6) g6 [.slice ad tn cs, .slice none 0 0, .int .i64 (-1), .bool false] 27) := H6.out.drew
  replace HBW : Hid (Below w.heap.size w (World.drew y6)) := HBW.out.drew
  replace HDK : Hid (Dk (World.drew y6) g P (zeroD sn)) := OPS.same HDK.out (Nat.le_refl _) (fun _ _ => rfl)
  replace HRS : Hid (RdS (Two P g3 g3) (World.drew y6) (zeroD sn) (.slice ad tn cs) (.slice none 0 0)) := HRS.out.go (mut_drew _ _) (fun _ _ h => h)
  change wpAnyH _ _ _ _ _ _ _ _ (World.drew y6)
  generalize World.drew y6 = y0 at *
  try simp only [Act.put, List.setIfInBounds_toArray, List.set_cons_zero, List.set_cons_succ]
  refine wpAnyH_take (i := 0) (v := .pointer (some ⟨g, 0, none⟩)) rfl (by kernel_rfl) (by kernel_rfl) (by kernel_rfl) (fun _ _ _ h => h) (Or.inl ⟨by rfl, fun wx hx => by simp [go_sem]⟩) hS ?_
  simp only [Act.put, List.getElem_toArray, List.getElem_cons_zero, List.setIfInBounds_toArray, List.set_cons_zero, List.set_cons_succ]
  refine wpAnyH_take (i := 1) (v := .agg [.slice ad tn cs, .slice none 0 0, .int .i64 (-1), .bool false].toArray) rfl (by kernel_rfl) (by kernel_rfl) (by kernel_rfl) (fun _ _ _ h => h) (Or.inl ⟨by rfl, fun wx hx => by exact load_run 27 _ rfl g6 0 rfl [.slice ad tn cs, .slice none 0 0, .int .i64 (-1), .bool false] _ (H6.out.only hx (Ne.symm NE36.out)).range Try.underlying27 rfl (info_rd _ _ _ _)⟩) hS ?_
  simp only [Act.put, List.getElem_toArray, List.getElem_cons_succ, List.getElem_cons_zero, List.setIfInBounds_toArray, List.set_cons_zero, List.set_cons_succ]
  refine wpAnyH_take (i := 2) (v := .pointer (some ⟨g, 0, none⟩)) rfl (by kernel_rfl) (by kernel_rfl) (by kernel_rfl) (fun _ _ _ h => h) (Or.inl ⟨by rfl, fun wx hx => by simp [go_sem]⟩) hS ?_
  simp only [Act.put, List.getElem_toArray, List.getElem_cons_succ, List.getElem_cons_zero, List.setIfInBounds_toArray, List.set_cons_zero, List.set_cons_succ]
  refine wpAnyH_storeRow 3 27 (.tmp 3) (.tmp 29) g3 [.slice none 0 0, .slice none 0 0, .int .i64 0, .bool false] [.slice ad tn cs, .slice none 0 0, .int .i64 (-1), .bool false] H3.out rfl (info_rd _ _ _ _) (one_rd _ _ _ _ _ _ _ _) (by kernel_rfl) rfl (by rfl) rfl rfl rfl ?_
  intro yE hs
  refine ⟨hs.only, ?_⟩
  simp only [Act.put, List.getElem_toArray, List.getElem_cons_succ, List.getElem_cons_zero]
  refine wpAnyH_done (by kernel_rfl) ?_ _
  go_wp2
  exact bodyPost_ret (results_tmp_row (by rfl) _ _ g3 _ rfl (var_rd hs.blk)) rfl ⟨sn, g, P, .slice ad tn cs, HSN.out.1, HSN.out.2, rfl, OPS.same HDK.out hs.only.size (fun k hk => hs.only.block k (fun e => NP_g3.out (e ▸ hk)) (OPS.lt HDK.out k hk)), HRS.out.go (hs.only.mut (Or.inr (Or.inl rfl))) (fun _ _ h => Or.inl h), HBW.out.trans (hs.only.below GE_g3.out HBW.out.size), HPW.out⟩
end Go.Proofs.Ytdllnedmhhajnaa

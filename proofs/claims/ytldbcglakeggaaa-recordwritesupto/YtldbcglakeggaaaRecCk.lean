/- RecordChecks, walked. -/
import Derived.Test.YtldbcglakeggaaaRecSp
namespace Go.Proofs.Ytldbcglakeggaaa
open Go.RowKit
theorem Over.blkO {w0 wx : World} {g : Nat} {cs : List Value} {t : TypeId} (h : Over w0 wx) (hb : Blk w0 g cs t) : Blk wx g cs t := hb.below h hb.lt
theorem below_cellO {w0 wx : World} {p : Addr} {v : Value} (h : Over w0 wx) (hc : w0.cell? p = some v) : wx.cell? p = some v := by
  rw [Below.cell h (block_lt_of_cell hc)]; exact hc
theorem rfcheck_b (nm ky : List (BitVec 8)) (vk : Value) (w : World) (hk : Reads w vk ky) :
    Calls Try.prog 10 #[.string (strB nm), vk] w fun e w' => e = .returned (.int .i64 (chk nm ky)) ∧ Below w.heap.size w w' := by
  refine (rfcheck_any nm ky vk w hk).mono ?_
  rintro e w' ⟨h1, k, rfl⟩
  exact ⟨h1, rfl, rfl, rfl, Nat.le_refl _, fun _ _ => rfl⟩
set_option maxRecDepth 100000 in
set_option maxHeartbeats 4000000 in
theorem checks_law (nm ky : List (BitVec 8)) (vk : Value) (sr : Nat) (vs : Value) (ds : List (List (BitVec 8))) (en : Int) (ix va : List (BitVec 8)) (hx : ix.length = 32) (hv : va.length = 32) (w : World) (hk : Reads w vk ky) (hd : ReadsD w vs ds) :
    Calls Try.prog 3 #[.agg (bindV nm vk sr).toArray, .agg (prfV vs en ix va).toArray] w fun e w' => e = .returned (.bool true) ∧ Below w.heap.size w w' := by
  have HLX : Hid (ix.length = 32 ∧ va.length = 32) := ⟨hx, hv⟩
  have HIP : Hid ((Try.prog.info? 30).map (·.size) = some (prfV vs en ix va).length) := by show _ = _; rw [prfV_len hx hv]; kernel_rfl
  have HKW : Hid (Reads w vk ky) := hk
  have HDW : Hid (ReadsD w vs ds) := hd
  clear hx hv hk hd
  obtain ⟨ps, HPS⟩ : ∃ ps, Hid (ps = prfV vs en ix va) := ⟨_, rfl⟩
  obtain ⟨bs, HBS⟩ : ∃ bs, Hid (bs = bindV nm vk sr) := ⟨_, rfl⟩
  rw [← HPS.out, ← HBS.out]
  rw [← HPS.out] at HIP
  have HIB : Hid ((Try.prog.info? 25).map (·.size) = some bs.length) := by show _ = _; rw [HBS.out]; kernel_rfl
  have HC1 : Hid (∀ w, Reads w vk ky → Calls Try.prog 9 #[.agg bs.toArray] w fun e w' => e = .returned (.int .i64 (chk nm ky)) ∧ Below w.heap.size w w') := fun w h => by rw [HBS.out]; exact rcheck_any nm ky vk sr w h
  have HC2 : Hid (∀ w, ReadsD w vs ds → Calls Try.prog 11 #[.agg ps.toArray] w fun e w' => e = .returned (.bool (rightB ds.length en ix va)) ∧ Below w.heap.size w w') := fun w h => by rw [HPS.out]; exact rright_any vs ds en ix va HLX.out.1 HLX.out.2 w h
  have HC3 : Hid (∀ w, ReadsD w vs ds → Calls Try.prog 12 #[.agg ps.toArray] w fun e w' => e = .returned (.bool (rightB ds.length en ix va)) ∧ Below w.heap.size w w') := fun w h => by rw [HPS.out]; exact rfright_any vs ds en ix va HLX.out.1 HLX.out.2 w h
  go_enter Try.func3, Try.ntmps3
  go_wp2_with (first
    | (with_reducible refine wpSeq_box 25 (.tmp 0) ?_ bs ?_ ?_ (w.alloc (.cells bs.toArray 25)) ?_ ?_
       · rfl
       · rfl
       · rfl
       · rfl
       have n1 : Blk (w.alloc (.cells bs.toArray 25)) w.heap.size bs 25 := Blk.new w bs _
       have b1 := below_alloc w (.cells bs.toArray 25)
       generalize w.alloc (.cells bs.toArray 25) = w1 at *
       generalize hg0 : w.heap.size = g0 at *)
    | (with_reducible refine wpSeq_box 30 (.tmp 1) ?_ ps ?_ ?_ (w1.alloc (.cells ps.toArray 30)) ?_ ?_
       · rfl
       · rfl
       · rfl
       · rfl
       have n2 : Blk (w1.alloc (.cells ps.toArray 30)) w1.heap.size ps 30 := Blk.new w1 ps _
       have b2 := below_alloc w1 (.cells ps.toArray 30)
       generalize w1.alloc (.cells ps.toArray 30) = w2 at *
       generalize hg1 : w1.heap.size = g1 at *))
  have HBW : Hid (Below w.heap.size w w2) := by rw [hg0]; exact b1.trans (b2.mono (by rw [← hg0, ← hg1]; rw [← hg0] at b1; exact b1.size))
  have H0 : Hid (Blk w2 g0 bs 25) := n1.below b2 (by rw [← hg1]; exact n1.lt)
  have H1 : Hid (Blk w2 g1 ps 30) := n2
  have HK : Hid (Reads w2.drew vk ky) := HKW.out.below HBW.out.drew
  have HD : Hid (ReadsD w2.drew vs ds) := HDW.out.below HBW.out.drew
  have C0 : Hid (w2.drew.cell? ⟨g0, 0, none⟩ = some (.string (strB nm))) := by show _ = _; rw [H0.out.drew.cell, HBS.out]; rfl
  have C1 : Hid (w2.drew.cell? ⟨g0, 1, none⟩ = some vk) := by show _ = _; rw [H0.out.drew.cell, HBS.out]; rfl
  clear n1 n2 b1 b2 hg0 hg1 HKW HDW
  refine wp_region_held_drew (S := Over w2.drew) (by kernel_rfl) (Over.refl _) ?_
  intro hS
  refine wpAnyH_take (i := 0) (v := .agg bs.toArray) rfl (by kernel_rfl) (by kernel_rfl) (by kernel_rfl) (fun _ _ _ h => h) (Or.inl ⟨by rfl, fun wx hx => by exact load_run 25 _ rfl g0 0 rfl bs _ (hx.blkO H0.out.drew).range Try.underlying25 rfl HIB.out⟩) hS ?_
  simp only [Act.put, List.getElem_toArray, List.getElem_cons_zero, List.setIfInBounds_toArray, List.set_cons_zero, List.set_cons_succ]
  refine wpAnyH_take (i := 2) (v := .pointer (some ⟨g0, 0, none⟩)) rfl (by kernel_rfl) (by kernel_rfl) (by kernel_rfl) (fun _ _ _ h => h) (Or.inl ⟨by rfl, fun wx hx => by simp [go_sem]⟩) hS ?_
  simp only [Act.put, List.getElem_toArray, List.getElem_cons_succ, List.getElem_cons_zero, List.setIfInBounds_toArray, List.set_cons_zero, List.set_cons_succ]
  refine wpAnyH_take (i := 3) (v := .string (strB nm)) rfl (by kernel_rfl) (by kernel_rfl) (by kernel_rfl) (fun _ _ _ h => h) (Or.inl ⟨by rfl, fun wx hx => by (have hc := below_cellO hx C0.out; simp [go_sem, hc])⟩) hS ?_
  simp only [Act.put, List.getElem_toArray, List.getElem_cons_succ, List.getElem_cons_zero, List.setIfInBounds_toArray, List.set_cons_zero, List.set_cons_succ]
  refine wpAnyH_take (i := 4) (v := .pointer (some ⟨g0, 1, none⟩)) rfl (by kernel_rfl) (by kernel_rfl) (by kernel_rfl) (fun _ _ _ h => h) (Or.inl ⟨by rfl, fun wx hx => by simp [go_sem]⟩) hS ?_
  simp only [Act.put, List.getElem_toArray, List.getElem_cons_succ, List.getElem_cons_zero, List.setIfInBounds_toArray, List.set_cons_zero, List.set_cons_succ]
  refine wpAnyH_take (i := 5) (v := vk) rfl (by kernel_rfl) (by kernel_rfl) (by kernel_rfl) (fun _ _ _ h => h) (Or.inl ⟨by rfl, fun wx hx => by (have hc := below_cellO hx C1.out; simp [go_sem, hc])⟩) hS ?_
  simp only [Act.put, List.getElem_toArray, List.getElem_cons_succ, List.getElem_cons_zero, List.setIfInBounds_toArray, List.set_cons_zero, List.set_cons_succ]
  refine wpAnyH_enter 1 (by kernel_rfl) rfl (by rfl) (f := 9) (args := #[.agg bs.toArray]) (by simp [go_sem]) (HC1.out _ (HK.out.below hS)) ?_
  rintro e wy ⟨rfl, hbq⟩
  refine ⟨_, rfl, hS.more hbq, ?_⟩
  replace hS := hS.more hbq
  clear hbq
  simp only [Act.put, List.getElem_toArray, List.getElem_cons_succ, List.getElem_cons_zero, List.setIfInBounds_toArray, List.set_cons_zero, List.set_cons_succ]
  refine wpAnyH_enter 6 (by kernel_rfl) rfl (by rfl) (f := 10) (args := #[.string (strB nm), vk]) (by simp [go_sem]) (rfcheck_b nm ky vk _ (HK.out.below hS)) ?_
  rintro e wy ⟨rfl, hbq⟩
  refine ⟨_, rfl, hS.more hbq, ?_⟩
  replace hS := hS.more hbq
  clear hbq
  simp only [Act.put, List.getElem_toArray, List.getElem_cons_succ, List.getElem_cons_zero, List.setIfInBounds_toArray, List.set_cons_zero, List.set_cons_succ]
  refine wpAnyH_take (i := 7) (v := .bool true) rfl (by kernel_rfl) (by kernel_rfl) (by kernel_rfl) (fun _ _ _ h => h) (Or.inl ⟨by rfl, fun wx hx => by simp [go_sem]⟩) hS ?_
  simp only [Act.put, List.getElem_toArray, List.getElem_cons_succ, List.getElem_cons_zero, List.setIfInBounds_toArray, List.set_cons_zero, List.set_cons_succ]
  refine wpAnyH_take (i := 8) (v := .bool true) rfl (by kernel_rfl) (by kernel_rfl) (by kernel_rfl) (fun _ _ _ h => h) (Or.inl ⟨by rfl, fun wx hx => by simp [go_sem]⟩) hS ?_
  simp only [Act.put, List.getElem_toArray, List.getElem_cons_succ, List.getElem_cons_zero, List.setIfInBounds_toArray, List.set_cons_zero, List.set_cons_succ]
  refine wpAnyH_take (i := 9) (v := .agg ps.toArray) rfl (by kernel_rfl) (by kernel_rfl) (by kernel_rfl) (fun _ _ _ h => h) (Or.inl ⟨by rfl, fun wx hx => by exact load_run 30 _ rfl g1 0 rfl ps _ (hx.blkO H1.out.drew).range Try.underlying30 rfl HIP.out⟩) hS ?_
  simp only [Act.put, List.getElem_toArray, List.getElem_cons_succ, List.getElem_cons_zero, List.setIfInBounds_toArray, List.set_cons_zero, List.set_cons_succ]
  refine wpAnyH_take (i := 11) (v := .agg ps.toArray) rfl (by kernel_rfl) (by kernel_rfl) (by kernel_rfl) (fun _ _ _ h => h) (Or.inl ⟨by rfl, fun wx hx => by exact load_run 30 _ rfl g1 0 rfl ps _ (hx.blkO H1.out.drew).range Try.underlying30 rfl HIP.out⟩) hS ?_
  simp only [Act.put, List.getElem_toArray, List.getElem_cons_succ, List.getElem_cons_zero, List.setIfInBounds_toArray, List.set_cons_zero, List.set_cons_succ]
  refine wpAnyH_enter 10 (by kernel_rfl) rfl (by rfl) (f := 11) (args := #[.agg ps.toArray]) (by simp [go_sem]) (HC2.out _ (HD.out.below hS)) ?_
  rintro e wy ⟨rfl, hbq⟩
  refine ⟨_, rfl, hS.more hbq, ?_⟩
  replace hS := hS.more hbq
  clear hbq
  simp only [Act.put, List.getElem_toArray, List.getElem_cons_succ, List.getElem_cons_zero, List.setIfInBounds_toArray, List.set_cons_zero, List.set_cons_succ]
  refine wpAnyH_enter 12 (by kernel_rfl) rfl (by rfl) (f := 12) (args := #[.agg ps.toArray]) (by simp [go_sem]) (HC3.out _ (HD.out.below hS)) ?_
  rintro e wy ⟨rfl, hbq⟩
  refine ⟨_, rfl, hS.more hbq, ?_⟩
  replace hS := hS.more hbq
  clear hbq
  simp only [Act.put, List.getElem_toArray, List.getElem_cons_succ, List.getElem_cons_zero, List.setIfInBounds_toArray, List.set_cons_zero, List.set_cons_succ]
  refine wpAnyH_take (i := 13) (v := .bool true) rfl (by kernel_rfl) (by kernel_rfl) (by kernel_rfl) (fun _ _ _ h => h) (Or.inl ⟨by rfl, fun wx hx => by simp [go_sem]⟩) hS ?_
  simp only [Act.put, List.getElem_toArray, List.getElem_cons_succ, List.getElem_cons_zero, List.setIfInBounds_toArray, List.set_cons_zero, List.set_cons_succ]
  refine wpAnyH_take (i := 14) (v := .bool true) rfl (by kernel_rfl) (by kernel_rfl) (by kernel_rfl) (fun _ _ _ h => h) (Or.inl ⟨by rfl, fun wx hx => by simp [go_sem]⟩) hS ?_
  simp only [Act.put, List.getElem_toArray, List.getElem_cons_succ, List.getElem_cons_zero, List.setIfInBounds_toArray, List.set_cons_zero, List.set_cons_succ]
  refine wpAnyH_take (i := 15) (v := .bool true) rfl (by kernel_rfl) (by kernel_rfl) (by kernel_rfl) (fun _ _ _ h => h) (Or.inl ⟨by rfl, fun wx hx => by simp [go_sem]⟩) hS ?_
  simp only [Act.put, List.getElem_toArray, List.getElem_cons_succ, List.getElem_cons_zero, List.setIfInBounds_toArray, List.set_cons_zero, List.set_cons_succ]
  refine wpAnyH_enter 16 (by kernel_rfl) rfl (by rfl) (f := 13) (args := #[]) (by simp [go_sem]) (rworks_any _) ?_
  rintro e wy ⟨rfl, hbq⟩
  refine ⟨_, rfl, hS.more hbq, ?_⟩
  replace hS := hS.more hbq
  clear hbq
  simp only [Act.put, List.getElem_toArray, List.getElem_cons_succ, List.getElem_cons_zero, List.setIfInBounds_toArray, List.set_cons_zero, List.set_cons_succ]
  refine wpAnyH_take (i := 17) (v := .bool true) rfl (by kernel_rfl) (by kernel_rfl) (by kernel_rfl) (fun _ _ _ h => h) (Or.inl ⟨by rfl, fun wx hx => by simp [go_sem]⟩) hS ?_
  simp only [Act.put, List.getElem_toArray, List.getElem_cons_succ, List.getElem_cons_zero, List.setIfInBounds_toArray, List.set_cons_zero, List.set_cons_succ]
  refine wpAnyH_take (i := 18) (v := .bool true) rfl (by kernel_rfl) (by kernel_rfl) (by kernel_rfl) (fun _ _ _ h => h) (Or.inl ⟨by rfl, fun wx hx => by simp [go_sem]⟩) hS ?_
  simp only [Act.put, List.getElem_toArray, List.getElem_cons_succ, List.getElem_cons_zero, List.setIfInBounds_toArray, List.set_cons_zero, List.set_cons_succ]
  refine wpAnyH_done (by kernel_rfl) ?_ _
  replace HBW : Hid (Below w.heap.size w wy) := HBW.out.drew.trans (Below.mono hS HBW.out.size)
  go_wp2
  go_ret
  exact ⟨rfl, HBW.out⟩
end Go.Proofs.Ytldbcglakeggaaa

/- Regions that draw their order: two that may come up; what is read in a world that keeps the blocks of old. -/
import Derived.Test.YtaleeaocmomjlaaDoorTagged
import Derived.Test.YtaleeaocmomjlaaDoorAnyH
namespace Go.Proofs.YtaleeaocmomjlaaDoor
open Go.RowKit
theorem wpOp_vl {P : Program} {ops : Array Oper} {Q : Exit → Act → World → Prop} {K : Act → World → Prop} {a : Act} {w : World} (i : Nat) {oi : Oper} (v : Value) (w' : World) (hi : ops[i]? = some oi) (hw : Region.wanted oi (yielded ops a.tmps) = true)
    (he : (execOp a.eval oi).run P w = .ok (.value v) w') (h : K (a.put oi.dst v) w') : wpOp P ops Q i K a w := by
  unfold wpOp
  rw [hi]
  simp only [hw, if_true]
  left
  unfold Oper.wp
  rw [he, Oper.upon_value]
  exact h
theorem wpOp_en {P : Program} {ops : Array Oper} {Q : Exit → Act → World → Prop} {K : Act → World → Prop} {a : Act} {w : World} (i : Nat) {oi : Oper} {f : FuncId} {args : Array Value} {R : Ending → World → Prop} (hi : ops[i]? = some oi) (hw : Region.wanted oi (yielded ops a.tmps) = true)
    (he : (execOp a.eval oi).run P w = .ok (.enter f args) w) (hc : Calls P f args w R) (h : ∀ e w', R e w' → ∃ v, e = .returned v ∧ K (a.put oi.dst v) w') : wpOp P ops Q i K a w := by
  unfold wpOp
  rw [hi]
  simp only [hw, if_true]
  left
  unfold Oper.wp
  rw [he, Oper.upon_enter]
  refine hc.mono ?_
  intro e w' hR
  obtain ⟨v, rfl, hv⟩ := h e w' hR
  exact hv
theorem wpAny_pair {P : Program} {md : Region.Mode} {ops : Array Oper} {Q : Exit → Act → World → Prop} {fuel : Nat} {listed : Array Bool} {a : Act} {w : World} (i j : Nat) (hr : Region.ready md ops listed = [i, j])
    (h1 : wpOp P ops Q i (wpAny P md ops Q fuel (listed.setIfInBounds i true)) a w) (h2 : wpOp P ops Q j (wpAny P md ops Q fuel (listed.setIfInBounds j true)) a w) : wpAny P md ops Q (fuel + 1) listed a w := by
  refine wpAny_all hr (by simp) (fun k hk => ?_)
  rcases List.mem_cons.1 hk with rfl | hk
  · exact h1
  · obtain rfl : k = j := by simpa using hk
    exact h2
theorem wpAnyH_pair {P : Program} {md : Region.Mode} {ops : Array Oper} {Q : Exit → Act → World → Prop} {S : World → Prop} {fuel : Nat} {listed : Array Bool} {a : Act} {w : World} (i j : Nat) (hr : Region.ready md ops listed = [i, j])
    (h1 : wpOp P ops Q i (fun a' w' => S w' ∧ wpAnyH P md ops Q S fuel (listed.setIfInBounds i true) a' w') a w) (h2 : wpOp P ops Q j (fun a' w' => S w' ∧ wpAnyH P md ops Q S fuel (listed.setIfInBounds j true) a' w') a w) : wpAnyH P md ops Q S (fuel + 1) listed a w := by
  refine wpAnyH_all hr (by simp) (fun k hk => ?_)
  rcases List.mem_cons.1 hk with rfl | hk
  · exact h1
  · obtain rfl : k = j := by simpa using hk
    exact h2
/-- the world wx keeps the blocks of w0 -/
def Over (w0 wx : World) : Prop := Below w0.heap.size w0 wx
theorem Over.out {w0 wx : World} (h : Over w0 wx) : Below w0.heap.size w0 wx := h
theorem Over.refl (w : World) : Over w w := Below.refl _ _
theorem Over.more {w0 wx wy : World} (h : Over w0 wx) (hb : Below wx.heap.size wx wy) : Over w0 wy := Below.trans h (hb.mono (Below.size h))
theorem Over.after {w w0 wx : World} (h : Over w0 wx) (hb : Below w.heap.size w w0) : Below w.heap.size w wx := hb.trans (Below.mono h hb.size)
theorem fl1 (a : List (BitVec 8)) : [a].flatten.length = a.length := by simp
theorem fl2 (a b : List (BitVec 8)) : [a, b].flatten.length = a.length + b.length := by simp
theorem fl3 (a b c : List (BitVec 8)) : [a, b, c].flatten.length = a.length + (b.length + c.length) := by simp
theorem fl4 (a b c d : List (BitVec 8)) : [a, b, c, d].flatten.length = a.length + (b.length + (c.length + d.length)) := by simp
theorem fl5 (a b c d e : List (BitVec 8)) : [a, b, c, d, e].flatten.length = a.length + (b.length + (c.length + (d.length + e.length))) := by simp
theorem below_cell {w0 wx : World} {p : Addr} {v : Value} (h : Over w0 wx) (hc : w0.cell? p = some v) : wx.cell? p = some v := by
  rw [Below.cell h (block_lt_of_cell hc)]; exact hc
theorem slice_dig_at (g o : Nat) (w : World) : (Instr.sliceAt 23 (.pointer (some ⟨g, o, none⟩)) none none none).run Tryd.prog w = .ok (.slice (some ⟨g, o, none⟩) 32 32) w := by kernel_rfl
theorem readsL_five {w : World} {va vb vc vd ve : Value} {la lb lc ld le : List (BitVec 8)} (ha : Reads w va la) (hb : Reads w vb lb) (hc : Reads w vc lc) (hd : Reads w vd ld) (he : Reads w ve le) :
    ReadsL (w.alloc (.cells #[va, vb, vc, vd, ve] 24)) (.slice (some ⟨w.heap.size, 0, none⟩) 5 5) [la, lb, lc, ld, le] := by
  have hbl : Below w.heap.size w (w.alloc (.cells #[va, vb, vc, vd, ve] 24)) := (Below.refl _ _).alloc (Nat.le_refl _) _
  refine ⟨_, _, rfl, Nat.le_refl _, (fun h => by cases h), fun _ => ⟨w.heap.size, 0, rfl, fun j hj => ?_⟩⟩
  match j, hj with
  | 0, _ => exact ⟨va, by rw [World.cell?_alloc_mark]; rfl, ha.below hbl⟩
  | 1, _ => exact ⟨vb, by rw [World.cell?_alloc_mark]; rfl, hb.below hbl⟩
  | 2, _ => exact ⟨vc, by rw [World.cell?_alloc_mark]; rfl, hc.below hbl⟩
  | 3, _ => exact ⟨vd, by rw [World.cell?_alloc_mark]; rfl, hd.below hbl⟩
  | 4, _ => exact ⟨ve, by rw [World.cell?_alloc_mark]; rfl, he.below hbl⟩
/-- a part of a block, as a slice of it reads -/
theorem Blk.reads_mid {w : World} {g o : Nat} {cs : List Value} {bs : List (BitVec 8)} {t : TypeId} (h : Blk w g cs t) {n c : Nat} (hn : n = bs.length) (hc : bs.length ≤ c) (hm : ∀ j, j < bs.length → cs[o + j]? = some (.int .u8 ((bs.getD j 0).toNat : Int))) : Reads w (.slice (some ⟨g, o, none⟩) n c) bs := by
  subst hn
  exact ⟨_, _, rfl, hc, (fun h => by cases h), fun _ => ⟨g, o, rfl, fun j hj => by rw [h.cell, hm j hj]⟩⟩
set_option maxHeartbeats 400000 in
theorem rsign_any (c : BitVec 8) (v : Value) (ls : List (List (BitVec 8))) (w : World) (hR : ReadsL w v ls) (hl : ls.flatten.length < 140737488355328) (hn : ls.length < 4611686018427387904) :
    Calls Tryd.prog 35 #[.int .u8 (c.toNat : Int), v] w fun e w' => ∃ v', e = .returned v' ∧ Reads w' v' (c :: ls.flatten) ∧ Below w.heap.size w w' := by
  have HR : Hid (ReadsL w v ls) := hR
  clear hR
  go_enter Tryd.func35, Tryd.ntmps35
  go_wp2_with fail
  have rC := reads_val w _ c rfl
  have b0 := below_alloc w (.cells #[.int .u8 (c.toNat : Int)] 5)
  refine (rjoin_any _ ls _ (HR.out.below b0) (by omega) hn).mono ?_
  rintro e w1 ⟨v1, rfl, r1, b1⟩
  replace rC := rC.below b1
  obtain ⟨fl, HFL⟩ : ∃ x, Hid (x = ls.flatten) := ⟨_, rfl⟩
  rw [← HFL.out] at r1 hl
  have HB1 : Hid (Below w.heap.size w w1) := b0.trans (b1.mono b0.size)
  clear b0 b1
  obtain ⟨a1, c1, rfl, _, _, _⟩ := id r1
  have HL : Hid (ReadsL (w1.alloc (.cells #[.slice (some ⟨w.heap.size, 0, none⟩) 1 1, .slice a1 fl.length c1] 24)) (.slice (some ⟨w1.heap.size, 0, none⟩) 2 2) [[c], fl]) := readsL_two rC r1
  have HE : Hid ([[c], fl].flatten = c :: fl) := by simp [Hid]
  clear rC r1
  go_wp2_with fail
  refine (rjoin_any _ _ _ HL.out (by rw [HE.out, List.length_cons]; omega) (by simp)).mono ?_
  rintro e w2 ⟨v2, rfl, r2, b2⟩
  rw [HE.out] at r2
  have b3 := (below_alloc w1 (.cells #[.slice (some ⟨w.heap.size, 0, none⟩) 1 1, .slice a1 fl.length c1] 24)).trans (b2.mono (by simp))
  have HB2 : Hid (Below w.heap.size w w2) := HB1.out.trans (b3.mono HB1.out.size)
  have HV : Hid (Reads w2 v2 (c :: ls.flatten)) := by rw [← HFL.out]; exact r2
  clear r2 b2 b3 HL
  go_wp2
  go_ret
  exact ⟨_, rfl, HV.out, HB2.out⟩
end Go.Proofs.YtaleeaocmomjlaaDoor

/- Texts that the proof leans on, one behind the other: The walks of journal's next, Append and Restart, as they landed (layer 14). The walk of journal's Restart, as it landed (layer 14). Slices of texts that stay whatever blocks of P become; blazonref14.Append and Restart with them (layer 14). .. -/
import Derived.Test.YtfleaipdoiiiiaaDoorMwc
/- The walks of journal's next, Append and Restart, as they landed (layer 14). -/
namespace Go.Proofs.YtfleaipdoiiiiaaDoor
open Go.RowKit
set_option maxRecDepth 100000
/-- the next generation's number -/
def gN (gen : Nat) : Nat := (gen + 1) % 18446744073709551616
theorem gN_eq {gen : Nat} (h : gen + 1 < 18446744073709551616) : gN gen = gen + 1 := Nat.mod_eq_of_lt h
theorem gN_lt (gen : Nat) : gN gen < 18446744073709551616 := Nat.mod_lt _ (by decide)
set_option maxRecDepth 100000 in
set_option maxHeartbeats 8000000 in
theorem jNext_any {w : World} {gd lg : Nat} {P : Nat → Prop} {D : DkT} (hs k gen u : Nat) (vr v : Value) (l : List Bs) (hK : KOk w) (hdk : DkIs w gd P D) (hwt : D.wait = []) (hlb : Blk w lg (lgC gd hs 0 k gen vr u) 91) (hnp : ¬ P lg) (hk1 : k ≤ 1) (hs1 : 1 ≤ hs) (hs2 : hs ≤ 50) (hfit : 1 + secL l ≤ hs) (hst : Sta (Un P (fun x => x = lg)) w (fun W => ReadsL W v l)) :
    Calls Tryd.prog 56 #[.pointer (some ⟨lg, 0, none⟩), v] w fun e w' => e = .returned (.int .i64 (runJ D (anewS hs (1 - k) (gN gen) l)).2) ∧ ∃ P', DkIs w' gd P' (runJ D (anewS hs (1 - k) (gN gen) l)).1 ∧ ((runJ D (anewS hs (1 - k) (gN gen) l)).2 = 0 → Blk w' lg (lgC gd hs 0 (1 - k) (gN gen) v (1 + secL l)) 91) ∧ Mut (Un P (fun x => x = lg)) w w' ∧ Grew w P P' := by
  obtain ⟨k1, HK1⟩ : ∃ m, Hid (m = 1 - k) := ⟨_, rfl⟩
  obtain ⟨g1, HG1⟩ : ∃ m, Hid (m = gN gen) := ⟨_, rfl⟩
  have f1 : IntKind.i64.wrap (1 - (k : Int)) = (k1 : Int) := by rw [IntKind.wrap_i64]; have := HK1.out; omega
  have f2 : IntKind.u64.wrap ((gen : Int) + 1) = (g1 : Int) := by rw [IntKind.wrap_u64, HG1.out, gN]; omega
  rw [← HK1.out, ← HG1.out]
  obtain ⟨xX, HXX⟩ : ∃ x, Hid (x = (runJ D (anewS hs k1 g1 l)).2) := ⟨_, rfl⟩
  have HC : Hid (∀ W, Below w.heap.size w W → Calls Tryd.prog 55 #[.pointer (some ⟨lg, 0, none⟩), .int .i64 (k1 : Int), .int .u64 (g1 : Int), v] W fun e w' => e = .returned (.int .i64 xX) ∧ ∃ P', DkIs w' gd P' (runJ D (anewS hs k1 g1 l)).1 ∧ (xX = 0 → Blk w' lg (lgC gd hs 0 k1 g1 v (1 + secL l)) 91) ∧ Mut (Un P (fun x => x = lg)) w w' ∧ Grew w P P') := fun W hW => by
    rw [HXX.out]
    refine (jBegin_any (w := W) hs k gen u k1 g1 vr v l (hK.below hW hK.lt) (hdk.same14 (fun x hx => hW.block x (hdk.lt14 x hx))) hwt (hlb.below hW hlb.lt) hnp (by rw [HK1.out]; omega) (by rw [HG1.out]; exact gN_lt gen) hs1 hs2 hfit (hst.below hW)).mono ?_
    rintro e w' ⟨h1, P', h2, h3, h4, h5⟩
    exact ⟨h1, P', h2, h3, (mut_below hW _).trans (fun _ _ h => h) h4, fun x hx => (h5 x hx).imp id (fun h => Nat.le_trans hW.size h)⟩
  rw [← HXX.out]
  obtain ⟨ad, n, c, hv⟩ : ∃ a n c, v = .slice a n c := by obtain ⟨a, c, hv, _⟩ := hst.now; exact ⟨_, _, _, hv⟩
  have HV : Hid (v = .slice ad n c) := hv
  have c4 : w.drew.cell? ⟨lg, 4, none⟩ = some (.int .i64 (k : Int)) := hlb.cell 4
  have c5 : w.drew.cell? ⟨lg, 5, none⟩ = some (.int .u64 (gen : Int)) := hlb.cell 5
  have HBD : Hid (Below w.heap.size w w.drew) := (Below.refl _ _).drew
  clear hK hdk hwt hlb hnp hk1 hs1 hs2 hfit hst hv
  go_enter Tryd.func56, Tryd.ntmps56
  go_upto_region 1 with fail
  refine wp_region_held_drew (S := fun _ => True) (by kernel_rfl) trivial ?_
  intro _
  refine wpAnyH_take (i := 0) (v := .pointer (some ⟨lg, 0, none⟩)) rfl (by kernel_rfl) (by kernel_rfl) (by kernel_rfl) (fun _ _ _ h => h) (Or.inl ⟨by rfl, fun wx hx => by simp [go_sem]⟩) trivial ?_
  simp only [Act.put, List.getElem_toArray, List.getElem_cons_zero, List.setIfInBounds_toArray, List.set_cons_zero, List.set_cons_succ]
  refine wpAnyH_take (i := 1) (v := .pointer (some ⟨lg, 0, none⟩)) rfl (by kernel_rfl) (by kernel_rfl) (by kernel_rfl) (fun _ _ _ h => h) (Or.inl ⟨by rfl, fun wx hx => by simp [go_sem]⟩) trivial ?_
  simp only [Act.put, List.getElem_toArray, List.getElem_cons_succ, List.getElem_cons_zero, List.setIfInBounds_toArray, List.set_cons_zero, List.set_cons_succ]
  refine wpAnyH_take (i := 2) (v := .pointer (some ⟨lg, 0, none⟩)) rfl (by kernel_rfl) (by kernel_rfl) (by kernel_rfl) (fun _ _ _ h => h) (Or.inl ⟨by rfl, fun wx hx => by simp [go_sem]⟩) trivial ?_
  simp only [Act.put, List.getElem_toArray, List.getElem_cons_succ, List.getElem_cons_zero, List.setIfInBounds_toArray, List.set_cons_zero, List.set_cons_succ]
  refine wpAnyH_take (i := 3) (v := .pointer (some ⟨lg, 4, none⟩)) rfl (by kernel_rfl) (by kernel_rfl) (by kernel_rfl) (fun _ _ _ h => h) (Or.inl ⟨by rfl, fun wx hx => by simp [go_sem]⟩) trivial ?_
  simp only [Act.put, List.getElem_toArray, List.getElem_cons_succ, List.getElem_cons_zero, List.setIfInBounds_toArray, List.set_cons_zero, List.set_cons_succ]
  refine wpAnyH_take (i := 4) (v := .pointer (some ⟨lg, 4, none⟩)) rfl (by kernel_rfl) (by kernel_rfl) (by kernel_rfl) (fun _ _ _ h => h) (Or.inl ⟨by rfl, fun wx hx => by simp [go_sem]⟩) trivial ?_
  simp only [Act.put, List.getElem_toArray, List.getElem_cons_succ, List.getElem_cons_zero, List.setIfInBounds_toArray, List.set_cons_zero, List.set_cons_succ]
  refine wpAnyH_take (i := 7) (v := .pointer (some ⟨lg, 0, none⟩)) rfl (by kernel_rfl) (by kernel_rfl) (by kernel_rfl) (fun _ _ _ h => h) (Or.inl ⟨by rfl, fun wx hx => by simp [go_sem]⟩) trivial ?_
  simp only [Act.put, List.getElem_toArray, List.getElem_cons_succ, List.getElem_cons_zero, List.setIfInBounds_toArray, List.set_cons_zero, List.set_cons_succ]
  refine wpAnyH_take (i := 8) (v := .pointer (some ⟨lg, 0, none⟩)) rfl (by kernel_rfl) (by kernel_rfl) (by kernel_rfl) (fun _ _ _ h => h) (Or.inl ⟨by rfl, fun wx hx => by simp [go_sem]⟩) trivial ?_
  simp only [Act.put, List.getElem_toArray, List.getElem_cons_succ, List.getElem_cons_zero, List.setIfInBounds_toArray, List.set_cons_zero, List.set_cons_succ]
  refine wpAnyH_take (i := 9) (v := .pointer (some ⟨lg, 4, none⟩)) rfl (by kernel_rfl) (by kernel_rfl) (by kernel_rfl) (fun _ _ _ h => h) (Or.inl ⟨by rfl, fun wx hx => by simp [go_sem]⟩) trivial ?_
  simp only [Act.put, List.getElem_toArray, List.getElem_cons_succ, List.getElem_cons_zero, List.setIfInBounds_toArray, List.set_cons_zero, List.set_cons_succ]
  refine wpAnyH_take (i := 10) (v := .pointer (some ⟨lg, 5, none⟩)) rfl (by kernel_rfl) (by kernel_rfl) (by kernel_rfl) (fun _ _ _ h => h) (Or.inl ⟨by rfl, fun wx hx => by simp [go_sem]⟩) trivial ?_
  simp only [Act.put, List.getElem_toArray, List.getElem_cons_succ, List.getElem_cons_zero, List.setIfInBounds_toArray, List.set_cons_zero, List.set_cons_succ]
  refine wpAnyH_take (i := 13) (v := v) rfl (by kernel_rfl) (by kernel_rfl) (by kernel_rfl) (fun _ _ _ h => h) (Or.inl ⟨by rfl, fun wx hx => by simp [go_sem]⟩) trivial ?_
  simp only [Act.put, List.getElem_toArray, List.getElem_cons_succ, List.getElem_cons_zero, List.setIfInBounds_toArray, List.set_cons_zero, List.set_cons_succ]
  refine wpAnyH_pair 5 11 (by kernel_rfl) ?_ ?_
  · refine wpOp_vl 5 (.int .i64 (k : Int)) w.drew (by rfl) (by rfl) (by simp [go_sem, c4]) ⟨trivial, ?_⟩
    simp only [Act.put, List.getElem_toArray, List.getElem_cons_succ, List.getElem_cons_zero, List.setIfInBounds_toArray, List.set_cons_zero, List.set_cons_succ]
    refine wpAnyH_take (i := 6) (v := .int .i64 (k1 : Int)) rfl (by kernel_rfl) (by kernel_rfl) (by kernel_rfl) (fun _ _ _ h => h) (Or.inl ⟨by rfl, fun wx hx => by simp [go_sem, f1]⟩) trivial ?_
    simp only [Act.put, List.getElem_toArray, List.getElem_cons_succ, List.getElem_cons_zero, List.setIfInBounds_toArray, List.set_cons_zero, List.set_cons_succ]
    refine wpAnyH_step 11 (.int .u64 (gen : Int)) w.drew (by kernel_rfl) rfl (by rfl) (by simp [go_sem, c5]) trivial ?_
    simp only [Act.put, List.getElem_toArray, List.getElem_cons_succ, List.getElem_cons_zero, List.setIfInBounds_toArray, List.set_cons_zero, List.set_cons_succ]
    refine wpAnyH_take (i := 12) (v := .int .u64 (g1 : Int)) rfl (by kernel_rfl) (by kernel_rfl) (by kernel_rfl) (fun _ _ _ h => h) (Or.inl ⟨by rfl, fun wx hx => by simp [go_sem, f2]⟩) trivial ?_
    simp only [Act.put, List.getElem_toArray, List.getElem_cons_succ, List.getElem_cons_zero, List.setIfInBounds_toArray, List.set_cons_zero, List.set_cons_succ]
    refine wpAnyH_enter 14 (by kernel_rfl) rfl (by rfl) (f := 55) (args := #[.pointer (some ⟨lg, 0, none⟩), .int .i64 (k1 : Int), .int .u64 (g1 : Int), v]) (by simp [go_sem]) (HC.out _ HBD.out) ?_
    rintro e0 y1 ⟨rfl, h1⟩
    refine ⟨_, rfl, trivial, ?_⟩
    simp only [Act.put, List.getElem_toArray, List.getElem_cons_succ, List.getElem_cons_zero, List.setIfInBounds_toArray, List.set_cons_zero, List.set_cons_succ]
    refine wpAnyH_take (i := 15) (v := .int .i64 xX) rfl (by kernel_rfl) (by kernel_rfl) (by kernel_rfl) (fun _ _ _ h => h) (Or.inl ⟨by rfl, fun wx hx => by simp [go_sem]⟩) trivial ?_
    simp only [Act.put, List.getElem_toArray, List.getElem_cons_succ, List.getElem_cons_zero, List.setIfInBounds_toArray, List.set_cons_zero, List.set_cons_succ]
    refine wpAnyH_done (by kernel_rfl) ?_ _
    go_wp2
    go_ret
    exact ⟨rfl, h1⟩
  · refine wpOp_vl 11 (.int .u64 (gen : Int)) w.drew (by rfl) (by rfl) (by simp [go_sem, c5]) ⟨trivial, ?_⟩
    simp only [Act.put, List.getElem_toArray, List.getElem_cons_succ, List.getElem_cons_zero, List.setIfInBounds_toArray, List.set_cons_zero, List.set_cons_succ]
    refine wpAnyH_take (i := 12) (v := .int .u64 (g1 : Int)) rfl (by kernel_rfl) (by kernel_rfl) (by kernel_rfl) (fun _ _ _ h => h) (Or.inl ⟨by rfl, fun wx hx => by simp [go_sem, f2]⟩) trivial ?_
    simp only [Act.put, List.getElem_toArray, List.getElem_cons_succ, List.getElem_cons_zero, List.setIfInBounds_toArray, List.set_cons_zero, List.set_cons_succ]
    refine wpAnyH_step 5 (.int .i64 (k : Int)) w.drew (by kernel_rfl) rfl (by rfl) (by simp [go_sem, c4]) trivial ?_
    simp only [Act.put, List.getElem_toArray, List.getElem_cons_succ, List.getElem_cons_zero, List.setIfInBounds_toArray, List.set_cons_zero, List.set_cons_succ]
    refine wpAnyH_take (i := 6) (v := .int .i64 (k1 : Int)) rfl (by kernel_rfl) (by kernel_rfl) (by kernel_rfl) (fun _ _ _ h => h) (Or.inl ⟨by rfl, fun wx hx => by simp [go_sem, f1]⟩) trivial ?_
    simp only [Act.put, List.getElem_toArray, List.getElem_cons_succ, List.getElem_cons_zero, List.setIfInBounds_toArray, List.set_cons_zero, List.set_cons_succ]
    refine wpAnyH_enter 14 (by kernel_rfl) rfl (by rfl) (f := 55) (args := #[.pointer (some ⟨lg, 0, none⟩), .int .i64 (k1 : Int), .int .u64 (g1 : Int), v]) (by simp [go_sem]) (HC.out _ HBD.out) ?_
    rintro e0 y1 ⟨rfl, h1⟩
    refine ⟨_, rfl, trivial, ?_⟩
    simp only [Act.put, List.getElem_toArray, List.getElem_cons_succ, List.getElem_cons_zero, List.setIfInBounds_toArray, List.set_cons_zero, List.set_cons_succ]
    refine wpAnyH_take (i := 15) (v := .int .i64 xX) rfl (by kernel_rfl) (by kernel_rfl) (by kernel_rfl) (fun _ _ _ h => h) (Or.inl ⟨by rfl, fun wx hx => by simp [go_sem]⟩) trivial ?_
    simp only [Act.put, List.getElem_toArray, List.getElem_cons_succ, List.getElem_cons_zero, List.setIfInBounds_toArray, List.set_cons_zero, List.set_cons_succ]
    refine wpAnyH_done (by kernel_rfl) ?_ _
    go_wp2
    go_ret
    exact ⟨rfl, h1⟩
/-- a log in memory: its cells, its records' row and texts -/
structure LgM (w : World) (lg gd n : Nat) (vr : Value) (us : List Value) (J : JnT) : Prop where
  lb : Blk w lg (lgC gd (n / 2) 0 J.k J.gen vr (1 + secL J.l)) 91
  tx : TxJ 0 vr us J.l w
def lgQ (lg : Nat) (vr : Value) (us : List Value) : Nat → Prop := fun k => k = lg ∨ vr.ownBlock = some k ∨ ∃ u ∈ us, u.ownBlock = some k
/-- the log J of the disk of n sectors at block gd lies at block lg, in blocks of Q alone -/
def LgJ (w : World) (lg : Nat) (Q : Nat → Prop) (gd n : Nat) (J : JnT) : Prop := ∃ vr us, LgM w lg gd n vr us J ∧ Q = lgQ lg vr us
theorem LgM.lt {w : World} {lg gd n : Nat} {vr : Value} {us : List Value} {J : JnT} (h : LgM w lg gd n vr us J) : ∀ k, lgQ lg vr us k → k < w.heap.size := fun k hk => by
  rcases hk with rfl | hk | ⟨u, hu, hk⟩
  · exact h.lb.lt
  · exact (h.tx.own.lt k hk).2
  · obtain ⟨i, hi, rfl⟩ := List.getElem_of_mem hu
    exact ((h.tx.good i _ (List.getElem?_eq_getElem hi)).ltJ k hk).2
theorem TxJ.sameQ {base : Nat} {v : Value} {us : List Value} {xs : List Bs} {w w' : World} (h : TxJ base v us xs w) (hs : w.heap.size ≤ w'.heap.size) (hv : ∀ k, v.ownBlock = some k → w'.heap[k]? = w.heap[k]?) (hu : ∀ u ∈ us, ∀ k, u.ownBlock = some k → w'.heap[k]? = w.heap[k]?) : TxJ base v us xs w' :=
  ⟨h.own.same hv, h.len, fun j u hj => (h.good j u hj).sameJ (hu u (List.mem_of_getElem? hj)), Nat.le_trans h.ge hs⟩
theorem LgM.same {w w' : World} {lg gd n : Nat} {vr : Value} {us : List Value} {J : JnT} (h : LgM w lg gd n vr us J) (hs : w.heap.size ≤ w'.heap.size) (hq : ∀ k, lgQ lg vr us k → w'.heap[k]? = w.heap[k]?) : LgM w' lg gd n vr us J :=
  ⟨blk_same h.lb (hq lg (Or.inl rfl)), h.tx.sameQ hs (fun k hk => hq k (Or.inr (Or.inl hk))) (fun u hu k hk => hq k (Or.inr (Or.inr ⟨u, hu, hk⟩)))⟩
theorem ownB_ne_lg {w : World} {base lg : Nat} {u : Value} {t : Bs} {cs : List Value} (h : OwnB w base u t) (hb : Blk w lg cs 91) : u.ownBlock ≠ some lg := fun e => by
  rcases h with ⟨_, ⟨rfl, _⟩ | ⟨g2, cap2, cur2, rfl, _, hh2, _⟩⟩
  · cases e
  have e2 : g2 = lg := by simpa [Value.ownBlock] using e
  unfold Blk at hb
  rw [← e2, hh2] at hb
  simp only [Option.some.injEq, Obj.cells.injEq] at hb
  exact absurd hb.2.1 (by decide)
theorem ownX_ne_lg {w : World} {base lg : Nat} {v : Value} {us : List Value} {cs : List Value} (h : OwnX w base v us) (hb : Blk w lg cs 91) : v.ownBlock ≠ some lg := fun e => by
  rcases h with ⟨_, ⟨rfl, _⟩ | ⟨g2, cap2, cur2, rfl, _, hh2, _⟩⟩
  · cases e
  have e2 : g2 = lg := by simpa [Value.ownBlock] using e
  unfold Blk at hb
  rw [← e2, hh2] at hb
  simp only [Option.some.injEq, Obj.cells.injEq] at hb
  exact absurd hb.2.1 (by decide)
theorem DkIs.typ {w : World} {g : Nat} {P : Nat → Prop} {D : DkT} (h : DkIs w g P D) : ∀ k, P k → ∃ cs t, w.heap[k]? = some (.cells cs t (0, 0)) ∧ t ≠ 22 ∧ t ≠ 5 ∧ t ≠ 91 := by
  obtain ⟨gs, vw, fu, lf, hm, rfl⟩ := h
  intro k hk
  rcases hk with rfl | rfl | hk
  · exact ⟨_, _, hm.me, by decide, by decide, by decide⟩
  · exact ⟨_, _, hm.sf, by decide, by decide, by decide⟩
  · rcases hm.wt with ⟨_, ⟨e, _⟩ | ⟨g2, cap2, cur2, e, _, hh2, _⟩⟩
    · rw [e] at hk; cases hk
    · rw [e] at hk
      have e2 : g2 = k := by simpa [Value.ownBlock] using hk
      rw [← e2]
      exact ⟨_, _, hh2, by decide, by decide, by decide⟩
/-- a disk and a log are apart by the types of their blocks -/
theorem pk_ap {w : World} {gd lg n : Nat} {P : Nat → Prop} {D : DkT} {vr : Value} {us : List Value} {J : JnT} (hd : DkIs w gd P D) (hm : LgM w lg gd n vr us J) : ∀ z, lgQ lg vr us z → ¬ P z := fun z hz hp => by
  obtain ⟨cs, t, h1, h2, h3, h4⟩ := hd.typ z hp
  rcases hz with rfl | hz | ⟨u, hu, hz⟩
  · have hb := hm.lb
    unfold Blk at hb
    rw [h1] at hb
    simp only [Option.some.injEq, Obj.cells.injEq] at hb
    exact h4 hb.2.1
  · rcases hm.tx.own with ⟨_, ⟨rfl, _⟩ | ⟨g2, cap2, cur2, rfl, _, hh2, _⟩⟩
    · cases hz
    have e2 : g2 = z := by simpa [Value.ownBlock] using hz
    rw [e2, h1] at hh2
    simp only [Option.some.injEq, Obj.cells.injEq] at hh2
    exact h2 hh2.2.1
  · obtain ⟨i, hi, rfl⟩ := List.getElem_of_mem hu
    rcases hm.tx.good i _ (List.getElem?_eq_getElem hi) with ⟨_, ⟨e, _⟩ | ⟨g2, cap2, cur2, e, _, hh2, _⟩⟩
    · rw [e] at hz; cases hz
    rw [e] at hz
    have e2 : g2 = z := by simpa [Value.ownBlock] using hz
    rw [e2, h1] at hh2
    simp only [Option.some.injEq, Obj.cells.injEq] at hh2
    exact h3 hh2.2.1
theorem run_err : ∀ (L : List (Option (Nat × Bs))) (D : DkT), okD D → (∀ p, some p ∈ L → p.1 < sizeD D ∧ p.2.length = 64) → (runJ D L).2 = 0 ∨ (runJ D L).2 = 14
  | [], _, _, _ => Or.inl rfl
  | some p :: L, D, hd, h => by
    have hp := h p (List.mem_cons_self ..)
    have hh : ¬ (hasD D (p.1 : Int) = false) := by rw [hasD_not]; exact fun e => e ⟨by omega, by omega⟩
    have e : putX13 D (p.1 : Int) p.2 = 0 ∨ putX13 D (p.1 : Int) p.2 = 14 := by
      unfold putX13
      by_cases h1 : D.down = true
      · rw [if_pos h1]; exact Or.inr rfl
      rw [if_neg h1, if_neg hh, if_neg (by rw [hp.2]; decide)]
      by_cases h2 : D.left = 0
      · rw [if_pos h2]; exact Or.inr rfl
      · rw [if_neg h2]; exact Or.inl rfl
    rw [runJ]
    by_cases h1 : putX13 D (p.1 : Int) p.2 = 0
    · rw [if_pos h1]
      exact run_err L _ (hd.put _ _) (fun q hq => by rw [show sizeD (putD13 D (p.1 : Int) p.2) = sizeD D by rw [sizeD, size_put]; rfl]; exact h q (List.mem_cons_of_mem _ hq))
    · rw [if_neg h1]; exact e
  | none :: L, D, hd, h => by
    have e : syncX13 D = 0 ∨ syncX13 D = 14 := by
      unfold syncX13
      split
      · exact Or.inr rfl
      split
      · exact Or.inr rfl
      · exact Or.inl rfl
    rw [runJ]
    by_cases h1 : syncX13 D = 0
    · rw [if_pos h1]
      exact run_err L _ hd.sync (fun q hq => by rw [size_sync hd]; exact h q (List.mem_cons_of_mem _ hq))
    · rw [if_neg h1]; exact e
theorem room_iff {hs u n : Nat} (h0 : 0 < n) (h1 : n ≤ 1048576) (hu : u ≤ hs) (hh : hs < 10000) : min 1048576 (64 * (hs - u) - 57) < n ↔ hs < u + secR n := by
  unfold secR
  omega
theorem Sta.weak {P Q : Nat → Prop} {w : World} {X : World → Prop} (h : Sta P w X) (hq : ∀ k, k < w.heap.size → Q k → P k) : Sta Q w X := fun w' m => h w' ⟨m.os, m.tape, m.output, m.size, fun k hk hn => m.block k hk (fun h2 => hn (hq k hk h2))⟩
theorem lg_set {w : World} {lg gd hs k gen u : Nat} {fl : Int} {vr : Value} (v : Value) (h : Blk w lg (lgC gd hs fl k gen vr u) 91) : Blk (w.setCell ⟨lg, 6, none⟩ v) lg (lgC gd hs fl k gen v u) 91 := h.set 6 v
theorem lg_setU {w : World} {lg gd hs k gen u : Nat} {fl : Int} {vr : Value} (u' : Nat) (h : Blk w lg (lgC gd hs fl k gen vr u) 91) : Blk (w.setCell ⟨lg, 7, none⟩ (.int .i64 (u' : Int))) lg (lgC gd hs fl k gen vr u') 91 := h.set 7 _
set_option maxRecDepth 100000 in
set_option maxHeartbeats 8000000 in
theorem jAppend_any {w : World} {gd lg : Nat} {P Q : Nat → Prop} {D : DkT} {J : JnT} (v : Value) (x : Bs) (hK : KOk w) (hp : Pk LgJ w gd lg P Q D J) (hok : okJ D J) (hxl : x.length ≤ 100000) (hst : Sta (Un P Q) w (fun W => Reads W v x)) :
    Calls Tryd.prog 38 #[.pointer (some ⟨lg, 0, none⟩), v] w fun e w' => e = .returned (.int .i64 (appX J D x)) ∧ ∃ P' Q', DkIs w' gd P' (appD J D x) ∧ Mut (Un P Q) w w' ∧ Grew w (Un P Q) (Un P' Q') ∧ (appX J D x ≠ 14 → Pk LgJ w' gd lg P' Q' (appD J D x) (appJ J D x)) := by
  obtain ⟨vr, us, hm, hQ⟩ := id hp.lg
  obtain ⟨nx, HNX⟩ : ∃ m, Hid (m = x.length) := ⟨_, rfl⟩
  obtain ⟨ax, cx, hv⟩ : ∃ a c, v = .slice a nx c := by obtain ⟨a, c, hv, _⟩ := hst.now; rw [← HNX.out] at hv; exact ⟨a, c, hv⟩
  subst hv
  obtain ⟨hs, HHS⟩ : ∃ m, Hid (m = sizeD D / 2) := ⟨_, rfl⟩
  obtain ⟨u, HU⟩ : ∃ m, Hid (m = 1 + secL J.l) := ⟨_, rfl⟩
  obtain ⟨k, HKK⟩ : ∃ m, Hid (m = J.k) := ⟨_, rfl⟩
  obtain ⟨gen, HGN⟩ : ∃ m, Hid (m = J.gen) := ⟨_, rfl⟩
  obtain ⟨kn, HKN⟩ : ∃ m, Hid (m = J.l.length) := ⟨_, rfl⟩
  obtain ⟨xa, xc, hvr⟩ := hm.tx.form
  rw [← HKN.out] at hvr
  subst hvr
  have hlb := hm.lb
  rw [← HHS.out, ← HU.out, ← HKK.out, ← HGN.out] at hlb
  have HLB : Hid (Blk w lg (lgC gd hs 0 k gen (.slice xa kn xc) u) 91) := hlb
  have HTX : Hid (TxJ 0 (.slice xa kn xc) us J.l w) := hm.tx
  have HDK : Hid (DkIs w gd P D) := hp.dk
  have HQQ : Hid (Q = lgQ lg (.slice xa kn xc) us) := hQ
  have HAP : Hid (∀ k, Q k → ¬ P k) := hp.ap
  have HK : Hid (KOk w) := hK
  have HRD : Hid (Sta (Un P Q) w (fun W => Reads W (.slice ax nx cx) x)) := hst
  have HPP : Hid (Pk LgJ w gd lg P Q D J) := hp
  have hfit := hok.fit
  have hsl := sizeL_ge J.l
  rw [sizeL_eq] at hsl
  have hhd : hsD D = hs := HHS.out.symm
  rw [hhd, ← HU.out] at hfit
  have HBD : Hid (u ≤ hs ∧ hs ≤ 50 ∧ k ≤ 1 ∧ gen < 18446744073709551616 ∧ kn < 1000 ∧ nx ≤ 100000 ∧ 4 ≤ hs ∧ D.wait = [] ∧ sizeD D ≤ 100) := ⟨hfit, by have h1 := HHS.out; have h2 := hok.hi; omega, by rw [HKK.out]; exact hok.k1, by have h1 := hok.g2; rw [HGN.out]; omega, by have h1 := HKN.out; have h2 := HU.out; have h3 := hok.hi; have h4 := HHS.out; omega, by rw [HNX.out]; exact hxl, by have h1 := HHS.out; have h2 := hok.lo; omega, hok.wt, hok.hi⟩
  have HCK : Hid (∀ W, Below w.heap.size w W → Calls Tryd.prog 20 #[.slice ax nx cx] W fun e w' => e = .returned (.int .i64 (chkX x)) ∧ w' = W) := fun W hW => jCheck_any _ x W (hst.now.below hW)
  have HEE : Hid (appE J D x = if chkX x = 1 then 1 else if hs < u + secR nx then 13 else 0) := by show _ = _; rw [appE, hhd, HU.out, HNX.out]
  clear hK hok hxl hst hm hQ hlb hfit hhd hp hsl
  obtain ⟨cc, HCC⟩ : ∃ z, Hid (z = chkX x) := ⟨_, rfl⟩
  rw [← HCC.out] at HCK HEE
  have HCO : Hid (cc = 0 ∨ cc = 1) := by rw [HCC.out]; exact chk_or x
  by_cases hc1 : cc = 1
  case pos =>
    subst hc1
    have hE : appE J D x = 1 := by rw [HEE.out, if_pos rfl]
    have hX : appX J D x = 1 := by rw [appX, if_neg (by rw [hE]; decide), hE]
    have hD : appD J D x = D := by rw [appD, if_neg (by rw [hE]; decide)]
    have hJ : appJ J D x = J := by rw [appJ, if_neg (by rw [hE]; decide)]
    rw [hX, hD, hJ]
    clear hE hX hD hJ
    go_enter Tryd.func38, Tryd.ntmps38
    have tk0 : Hid True := trivial
    go_wp2_with (first
      | (clear tk0; go_at_call 20; refine (HCK.out _ (Below.refl _ _)).mono ?_; rintro e0 y1 ⟨rfl, hy1⟩; subst hy1))
    go_ret
    refine ⟨rfl, P, Q, HPP.out.dk, Mut.refl _ _, Grew.refl _ _, ?_⟩
    first | exact fun _ => HPP.out | exact HPP.out
  obtain rfl : cc = 0 := HCO.out.elim id (fun h => absurd h hc1)
  have HNN : Hid (0 < nx ∧ nx ≤ 1048576) := by
    have h := HCC.out.symm
    unfold chkX at h
    by_cases h3 : x.length = 0 ∨ 1048576 < x.length
    · rw [if_pos h3] at h; cases h
    · rw [← HNX.out] at h3
      exact ⟨by omega, by omega⟩
  obtain ⟨rm, HRM⟩ : ∃ m, Hid (m = min 1048576 (64 * (hs - u) - 57)) := ⟨_, rfl⟩
  have HRO : Hid (∀ W, Blk W lg (lgC gd hs 0 k gen (.slice xa kn xc) u) 91 → Calls Tryd.prog 32 #[.pointer (some ⟨lg, 0, none⟩)] W fun e w' => e = .returned (.int .i64 (rm : Int)) ∧ Below W.heap.size W w') := fun W hW => by
    rw [HRM.out]
    exact jRoom_any hW HBD.out.1 (by have := HBD.out; omega)
  have HRI : Hid (rm < nx ↔ hs < u + secR nx) := by rw [HRM.out]; exact room_iff HNN.out.1 HNN.out.2 HBD.out.1 (by have := HBD.out; omega)
  by_cases hno : hs < u + secR nx
  case pos =>
    have hE : appE J D x = 13 := by rw [HEE.out, if_neg (by decide), if_pos hno]
    have hX : appX J D x = 13 := by rw [appX, if_neg (by rw [hE]; decide), hE]
    have hD : appD J D x = D := by rw [appD, if_neg (by rw [hE]; decide)]
    have hJ : appJ J D x = J := by rw [appJ, if_neg (by rw [hE]; decide)]
    rw [hX, hD, hJ]
    have q1 : (rm : Int) < (nx : Int) := by have := HRI.out.2 hno; omega
    clear hE hX hD hJ hno hc1
    go_enter Tryd.func38, Tryd.ntmps38
    have tk0 : Hid True := trivial
    have tk1 : Hid True := trivial
    go_wp2_with (first
      | (clear tk0; go_at_call 20; refine (HCK.out _ (Below.refl _ _)).mono ?_; rintro e0 y1 ⟨rfl, hy1⟩; subst hy1)
      | (clear tk1; go_at_call 32; refine (HRO.out _ HLB.out).mono ?_; rintro e0 y2 ⟨rfl, hz⟩
         have HBW : Hid (Below y1.heap.size y1 y2) := hz
         clear hz))
    go_ret
    have hpk : Pk LgJ y2 gd lg P Q D J := ⟨HPP.out.dk.same14 (fun x hx => HBW.out.block x (HPP.out.dk.lt14 x hx)), by
      obtain ⟨vr, us, hm, hQ⟩ := HPP.out.lg
      exact ⟨vr, us, hm.same HBW.out.size (fun x hx => HBW.out.block x (hm.lt x hx)), hQ⟩, HPP.out.ap⟩
    refine ⟨rfl, P, Q, hpk.dk, mut_below HBW.out _, Grew.refl _ _, ?_⟩
    first | exact fun _ => hpk | exact hpk
  case neg =>
    have hE : appE J D x = 0 := by rw [HEE.out, if_neg (by decide), if_neg hno]
    have q1 : ¬ ((rm : Int) < (nx : Int)) := by have := (not_congr HRI.out).2 hno; omega
    obtain ⟨sx, HSX⟩ : ∃ m, Hid (m = secR nx) := ⟨_, rfl⟩
    obtain ⟨at_, HAT⟩ : ∃ m, Hid (m = k * hs + u) := ⟨_, rfl⟩
    obtain ⟨kh, HKH⟩ : ∃ m, Hid (m = k * hs) := ⟨_, rfl⟩
    obtain ⟨rb, HRB⟩ : ∃ r, Hid (r = recB gen kn x) := ⟨_, rfl⟩
    obtain ⟨rl, HRL⟩ : ∃ m, Hid (m = rb.length) := ⟨_, rfl⟩
    have HRL2 : Hid (rl = 64 * sx) := by show _ = _; rw [HRL.out, HRB.out, len_recB, HSX.out, HNX.out]
    have hkh : kh ≤ hs := by rw [HKH.out]; rcases Nat.le_one_iff_eq_zero_or_eq_one.1 HBD.out.2.2.1 with e | e <;> rw [e] <;> omega
    have HSB : Hid (u + sx ≤ hs ∧ at_ ≤ 100 ∧ at_ = kh + u ∧ kh ≤ 50) := ⟨by rw [HSX.out]; omega, by have h1 := HBD.out; have h2 := HAT.out; have h3 := HKH.out; omega, by rw [HAT.out, HKH.out], by have := HBD.out; omega⟩
    have HSG : Hid (appS (hsD D) J.k J.gen J.l x = (secsOf at_ sx rb).map some ++ [none]) := by
      show _ = _
      rw [appS, show hsD D = hs from HHS.out.symm, ← HKK.out, ← HGN.out, ← HKN.out, ← HU.out, ← HAT.out, ← HNX.out, ← HSX.out, ← HRB.out]
    obtain ⟨DX, xX, HX⟩ : ∃ D2 z, Hid (runJ D ((secsOf at_ sx rb).map some ++ [none]) = (D2, z)) := ⟨(runJ D ((secsOf at_ sx rb).map some ++ [none])).1, (runJ D ((secsOf at_ sx rb).map some ++ [none])).2, rfl⟩
    have hX : appX J D x = xX := by rw [appX, if_pos hE, HSG.out, HX.out]
    have hD : appD J D x = DX := by rw [appD, if_pos hE, HSG.out, HX.out]
    have hJ : appJ J D x = ⟨J.k, J.gen, J.l ++ [x]⟩ := by rw [appJ, if_pos hE]
    have HOKD : Hid (okD D) := by obtain ⟨_, _, _, _, hm, _⟩ := HDK.out; exact hm.ok
    have HER : Hid ((xX = 0 ∨ xX = 14) ∧ sizeD DX = sizeD D) := by
      have h1 := run_err ((secsOf at_ sx rb).map some ++ [none]) D HOKD.out (fun p hp => by
        rw [List.mem_append] at hp
        rcases hp with hp | hp
        · rw [List.mem_map] at hp
          obtain ⟨q, hq, e⟩ := hp
          cases e
          exact secs_mem (n := sizeD D) sx at_ rb (by rw [← HRL.out, HRL2.out]) (by have h2 := HSB.out; have h3 := HHS.out; have h4 := HKH.out; have h5 := hkh; omega) p hq
        · simp at hp)
      have h2 := (run_size ((secsOf at_ sx rb).map some ++ [none]) D HOKD.out).1
      rw [HX.out] at h1 h2
      exact ⟨h1, h2⟩
    rw [hX, hD, hJ]
    have f1 : IntKind.u64.wrap (kn : Int) = (kn : Int) := uJ (by have := HBD.out; omega)
    have f2 : IntKind.i64.wrap ((k : Int) * (hs : Int)) = (kh : Int) := mJ HKH.out (by have := HBD.out; omega)
    have f3 : IntKind.i64.wrap ((kh : Int) + (u : Int)) = (at_ : Int) := aJ HSB.out.2.2.1 (by have := HSB.out; omega)
    obtain ⟨u2, HU2⟩ : ∃ m, Hid (m = u + sx) := ⟨_, rfl⟩
    have f4 : IntKind.i64.wrap ((u : Int) + (sx : Int)) = (u2 : Int) := aJ HU2.out (by have h1 := HU2.out; have h2 := HSB.out; have h3 := HBD.out; omega)
    have HLT : Hid (∀ k, Un P Q k → k < w.heap.size) := fun k hk => hk.elim (HDK.out.lt14 k) (fun h => by
      obtain ⟨vr, us, hm, hQ⟩ := HPP.out.lg
      rw [hQ] at h
      exact hm.lt k h)
    have HQL : Hid (Q lg) := by rw [HQQ.out]; exact Or.inl rfl
    have HUN : Hid (∀ k, Un P (fun z => z = lg) k → Un P Q k) := fun k hk => hk.elim Or.inl (fun e => Or.inr (by rw [e]; exact HQL.out))
    have HNP : Hid (¬ P lg) := HAP.out lg HQL.out
    clear hE hX hD hJ hno hc1 hkh HEE HRI
    go_enter Tryd.func38, Tryd.ntmps38
    have tk0 : Hid True := trivial
    have tk1 : Hid True := trivial
    go_upto_region 6 with (first
      | (clear tk0; go_at_call 20; refine (HCK.out _ (Below.refl _ _)).mono ?_; rintro e0 y1 ⟨rfl, hy1⟩; subst hy1)
      | (clear tk1; go_at_call 32; refine (HRO.out _ HLB.out).mono ?_; rintro e0 y2 ⟨rfl, hz⟩
         have HBW : Hid (Below y1.heap.size y1 y2) := hz
         clear hz))
    have HD2 : Hid (Below y1.heap.size y1 y2.drew) := HBW.out.drew
    have HL2 : Hid (Blk y2.drew lg (lgC gd hs 0 k gen (.slice xa kn xc) u) 91) := HLB.out.below HD2.out HLB.out.lt
    refine wp_region_held_drew (S := fun wx => Blk wx lg (lgC gd hs 0 k gen (.slice xa kn xc) u) 91) (by kernel_rfl) HL2.out ?_
    intro hS
    refine wpAnyH_take (i := 0) (v := .pointer (some ⟨lg, 0, none⟩)) rfl (by kernel_rfl) (by kernel_rfl) (by kernel_rfl) (fun _ _ _ h => h) (Or.inl ⟨by rfl, fun wx hx => by simp [go_sem]⟩) hS ?_
    simp only [Act.put, List.getElem_toArray, List.getElem_cons_zero, List.setIfInBounds_toArray, List.set_cons_zero, List.set_cons_succ]
    refine wpAnyH_take (i := 1) (v := .pointer (some ⟨lg, 0, none⟩)) rfl (by kernel_rfl) (by kernel_rfl) (by kernel_rfl) (fun _ _ _ h => h) (Or.inl ⟨by rfl, fun wx hx => by simp [go_sem]⟩) hS ?_
    simp only [Act.put, List.getElem_toArray, List.getElem_cons_succ, List.getElem_cons_zero, List.setIfInBounds_toArray, List.set_cons_zero, List.set_cons_succ]
    refine wpAnyH_take (i := 2) (v := .pointer (some ⟨lg, 4, none⟩)) rfl (by kernel_rfl) (by kernel_rfl) (by kernel_rfl) (fun _ _ _ h => h) (Or.inl ⟨by rfl, fun wx hx => by simp [go_sem]⟩) hS ?_
    simp only [Act.put, List.getElem_toArray, List.getElem_cons_succ, List.getElem_cons_zero, List.setIfInBounds_toArray, List.set_cons_zero, List.set_cons_succ]
    refine wpAnyH_take (i := 3) (v := .pointer (some ⟨lg, 5, none⟩)) rfl (by kernel_rfl) (by kernel_rfl) (by kernel_rfl) (fun _ _ _ h => h) (Or.inl ⟨by rfl, fun wx hx => by simp [go_sem]⟩) hS ?_
    simp only [Act.put, List.getElem_toArray, List.getElem_cons_succ, List.getElem_cons_zero, List.setIfInBounds_toArray, List.set_cons_zero, List.set_cons_succ]
    refine wpAnyH_take (i := 4) (v := .int .u64 (gen : Int)) rfl (by kernel_rfl) (by kernel_rfl) (by kernel_rfl) (fun _ _ _ h => h) (Or.inl ⟨by rfl, fun wx hx => by (have c0 : wx.cell? ⟨lg, 5, none⟩ = some (.int .u64 (gen : Int)) := hx.cell 5; simp [go_sem, c0])⟩) hS ?_
    simp only [Act.put, List.getElem_toArray, List.getElem_cons_succ, List.getElem_cons_zero, List.setIfInBounds_toArray, List.set_cons_zero, List.set_cons_succ]
    refine wpAnyH_take (i := 5) (v := .pointer (some ⟨lg, 0, none⟩)) rfl (by kernel_rfl) (by kernel_rfl) (by kernel_rfl) (fun _ _ _ h => h) (Or.inl ⟨by rfl, fun wx hx => by simp [go_sem]⟩) hS ?_
    simp only [Act.put, List.getElem_toArray, List.getElem_cons_succ, List.getElem_cons_zero, List.setIfInBounds_toArray, List.set_cons_zero, List.set_cons_succ]
    refine wpAnyH_take (i := 6) (v := .pointer (some ⟨lg, 0, none⟩)) rfl (by kernel_rfl) (by kernel_rfl) (by kernel_rfl) (fun _ _ _ h => h) (Or.inl ⟨by rfl, fun wx hx => by simp [go_sem]⟩) hS ?_
    simp only [Act.put, List.getElem_toArray, List.getElem_cons_succ, List.getElem_cons_zero, List.setIfInBounds_toArray, List.set_cons_zero, List.set_cons_succ]
    refine wpAnyH_take (i := 7) (v := .pointer (some ⟨lg, 4, none⟩)) rfl (by kernel_rfl) (by kernel_rfl) (by kernel_rfl) (fun _ _ _ h => h) (Or.inl ⟨by rfl, fun wx hx => by simp [go_sem]⟩) hS ?_
    simp only [Act.put, List.getElem_toArray, List.getElem_cons_succ, List.getElem_cons_zero, List.setIfInBounds_toArray, List.set_cons_zero, List.set_cons_succ]
    refine wpAnyH_take (i := 8) (v := .pointer (some ⟨lg, 6, none⟩)) rfl (by kernel_rfl) (by kernel_rfl) (by kernel_rfl) (fun _ _ _ h => h) (Or.inl ⟨by rfl, fun wx hx => by simp [go_sem]⟩) hS ?_
    simp only [Act.put, List.getElem_toArray, List.getElem_cons_succ, List.getElem_cons_zero, List.setIfInBounds_toArray, List.set_cons_zero, List.set_cons_succ]
    refine wpAnyH_take (i := 9) (v := .slice xa kn xc) rfl (by kernel_rfl) (by kernel_rfl) (by kernel_rfl) (fun _ _ _ h => h) (Or.inl ⟨by rfl, fun wx hx => by (have c0 : wx.cell? ⟨lg, 6, none⟩ = some (.slice xa kn xc) := hx.cell 6; simp [go_sem, c0])⟩) hS ?_
    simp only [Act.put, List.getElem_toArray, List.getElem_cons_succ, List.getElem_cons_zero, List.setIfInBounds_toArray, List.set_cons_zero, List.set_cons_succ]
    refine wpAnyH_take (i := 10) (v := .int .i64 (kn : Int)) rfl (by kernel_rfl) (by kernel_rfl) (by kernel_rfl) (fun _ _ _ h => h) (Or.inl ⟨by rfl, fun wx hx => by simp [go_sem]⟩) hS ?_
    simp only [Act.put, List.getElem_toArray, List.getElem_cons_succ, List.getElem_cons_zero, List.setIfInBounds_toArray, List.set_cons_zero, List.set_cons_succ]
    refine wpAnyH_take (i := 11) (v := .int .u64 (kn : Int)) rfl (by kernel_rfl) (by kernel_rfl) (by kernel_rfl) (fun _ _ _ h => h) (Or.inl ⟨by rfl, fun wx hx => by simp [go_sem, f1]⟩) hS ?_
    simp only [Act.put, List.getElem_toArray, List.getElem_cons_succ, List.getElem_cons_zero, List.setIfInBounds_toArray, List.set_cons_zero, List.set_cons_succ]
    refine wpAnyH_take (i := 12) (v := .slice ax nx cx) rfl (by kernel_rfl) (by kernel_rfl) (by kernel_rfl) (fun _ _ _ h => h) (Or.inl ⟨by rfl, fun wx hx => by simp [go_sem]⟩) hS ?_
    simp only [Act.put, List.getElem_toArray, List.getElem_cons_succ, List.getElem_cons_zero, List.setIfInBounds_toArray, List.set_cons_zero, List.set_cons_succ]
    refine wpAnyH_enter 13 (by kernel_rfl) rfl (by rfl) (f := 16) (args := #[.int .u64 (gen : Int), .int .u64 (kn : Int), .slice ax nx cx]) (by simp [go_sem]) (jRecord_own gen kn HBD.out.2.2.2.1 (by have := HBD.out; omega) _ x (by rw [← HNX.out]; have := HBD.out; omega) _ (HK.out.below HD2.out HK.out.lt) (HRD.out.now.below HD2.out)) ?_
    rintro e0 y3 ⟨v3, rfl, ho3, hz3⟩
    rw [← HRB.out] at ho3
    obtain ⟨a3, c3, hv3⟩ := ownB_form ho3
    rw [← HRL.out] at hv3
    subst hv3
    replace hS : Blk y3 lg (lgC gd hs 0 k gen (.slice xa kn xc) u) 91 := HL2.out.below hz3 HL2.out.lt
    refine ⟨_, rfl, hS, ?_⟩
    simp only [Act.put, List.getElem_toArray, List.getElem_cons_succ, List.getElem_cons_zero, List.setIfInBounds_toArray, List.set_cons_zero, List.set_cons_succ]
    refine wpAnyH_take (i := 14) (v := .slice a3 rl c3) rfl (by kernel_rfl) (by kernel_rfl) (by kernel_rfl) (fun _ _ _ h => h) (Or.inl ⟨by rfl, fun wx hx => by simp [go_sem]⟩) hS ?_
    simp only [Act.put, List.getElem_toArray, List.getElem_cons_succ, List.getElem_cons_zero, List.setIfInBounds_toArray, List.set_cons_zero, List.set_cons_succ]
    refine wpAnyH_done (by kernel_rfl) ?_ _
    have HB3 : Hid (Below y1.heap.size y1 y3) := HD2.out.trans (hz3.mono HD2.out.size)
    have HO3 : Hid (Sta (Un P Q) y3 (fun W => Reads W (.slice a3 rl c3) rb)) := (ho3.st (P := Un P Q) (fun z hz => Nat.lt_of_lt_of_le (HLT.out z hz) HD2.out.size))
    clear hS ho3 hz3 HL2 HD2 HBW
    go_upto_region 7 with fail
    have HD4 : Hid (Below y1.heap.size y1 y3.drew) := HB3.out.drew
    have HL4 : Hid (Blk y3.drew lg (lgC gd hs 0 k gen (.slice xa kn xc) u) 91) := HLB.out.below HD4.out HLB.out.lt
    have HPC : Hid (Calls Tryd.prog 63 #[.pointer (some ⟨lg, 0, none⟩), .int .i64 (at_ : Int), .slice a3 rl c3] y3.drew fun e w' => e = .returned (.int .i64 xX) ∧ ∃ P', DkIs w' gd P' DX ∧ Blk w' lg (lgC gd hs xX k gen (.slice xa kn xc) u) 91 ∧ Mut (Un P (fun z => z = lg)) y3.drew w' ∧ Grew y3.drew P P') := by
      have h1 := jPut_any (w := y3.drew) (gd := gd) (lg := lg) (P := P) (D := D) hs k gen u at_ sx (.slice xa kn xc) (.slice a3 rl c3) rb (HDK.out.same14 (fun z hz => HD4.out.block z (HDK.out.lt14 z hz))) HL4.out HNP.out (by rw [← HRL.out, HRL2.out]) (by have h2 := HSB.out; have h3 := HBD.out; omega) HSB.out.2.1 (by rw [HBD.out.2.2.2.2.2.2.2.1]; show 0 + sx ≤ 200; have h2 := HSB.out; have h3 := HBD.out; omega) ((HO3.out.below ((Below.refl _ _).drew)).weak (fun z _ h => HUN.out z h))
      rw [HX.out] at h1
      exact h1
    refine wp_region_held_drew (S := fun wx => wx.cell? ⟨lg, 4, none⟩ = some (.int .i64 (k : Int)) ∧ wx.cell? ⟨lg, 2, none⟩ = some (.int .i64 (hs : Int)) ∧ wx.cell? ⟨lg, 7, none⟩ = some (.int .i64 (u : Int))) (by kernel_rfl) ⟨HL4.out.cell 4, HL4.out.cell 2, HL4.out.cell 7⟩ ?_
    intro hS
    refine wpAnyH_take (i := 0) (v := .pointer (some ⟨lg, 0, none⟩)) rfl (by kernel_rfl) (by kernel_rfl) (by kernel_rfl) (fun _ _ _ h => h) (Or.inl ⟨by rfl, fun wx hx => by simp [go_sem]⟩) hS ?_
    simp only [Act.put, List.getElem_toArray, List.getElem_cons_zero, List.setIfInBounds_toArray, List.set_cons_zero, List.set_cons_succ]
    refine wpAnyH_take (i := 1) (v := .pointer (some ⟨lg, 0, none⟩)) rfl (by kernel_rfl) (by kernel_rfl) (by kernel_rfl) (fun _ _ _ h => h) (Or.inl ⟨by rfl, fun wx hx => by simp [go_sem]⟩) hS ?_
    simp only [Act.put, List.getElem_toArray, List.getElem_cons_succ, List.getElem_cons_zero, List.setIfInBounds_toArray, List.set_cons_zero, List.set_cons_succ]
    refine wpAnyH_take (i := 2) (v := .pointer (some ⟨lg, 0, none⟩)) rfl (by kernel_rfl) (by kernel_rfl) (by kernel_rfl) (fun _ _ _ h => h) (Or.inl ⟨by rfl, fun wx hx => by simp [go_sem]⟩) hS ?_
    simp only [Act.put, List.getElem_toArray, List.getElem_cons_succ, List.getElem_cons_zero, List.setIfInBounds_toArray, List.set_cons_zero, List.set_cons_succ]
    refine wpAnyH_take (i := 3) (v := .pointer (some ⟨lg, 4, none⟩)) rfl (by kernel_rfl) (by kernel_rfl) (by kernel_rfl) (fun _ _ _ h => h) (Or.inl ⟨by rfl, fun wx hx => by simp [go_sem]⟩) hS ?_
    simp only [Act.put, List.getElem_toArray, List.getElem_cons_succ, List.getElem_cons_zero, List.setIfInBounds_toArray, List.set_cons_zero, List.set_cons_succ]
    refine wpAnyH_take (i := 4) (v := .pointer (some ⟨lg, 4, none⟩)) rfl (by kernel_rfl) (by kernel_rfl) (by kernel_rfl) (fun _ _ _ h => h) (Or.inl ⟨by rfl, fun wx hx => by simp [go_sem]⟩) hS ?_
    simp only [Act.put, List.getElem_toArray, List.getElem_cons_succ, List.getElem_cons_zero, List.setIfInBounds_toArray, List.set_cons_zero, List.set_cons_succ]
    refine wpAnyH_take (i := 5) (v := .int .i64 (k : Int)) rfl (by kernel_rfl) (by kernel_rfl) (by kernel_rfl) (fun _ _ _ h => h) (Or.inl ⟨by rfl, fun wx hx => by simp [go_sem, hx.1]⟩) hS ?_
    simp only [Act.put, List.getElem_toArray, List.getElem_cons_succ, List.getElem_cons_zero, List.setIfInBounds_toArray, List.set_cons_zero, List.set_cons_succ]
    refine wpAnyH_take (i := 6) (v := .pointer (some ⟨lg, 0, none⟩)) rfl (by kernel_rfl) (by kernel_rfl) (by kernel_rfl) (fun _ _ _ h => h) (Or.inl ⟨by rfl, fun wx hx => by simp [go_sem]⟩) hS ?_
    simp only [Act.put, List.getElem_toArray, List.getElem_cons_succ, List.getElem_cons_zero, List.setIfInBounds_toArray, List.set_cons_zero, List.set_cons_succ]
    refine wpAnyH_take (i := 7) (v := .pointer (some ⟨lg, 0, none⟩)) rfl (by kernel_rfl) (by kernel_rfl) (by kernel_rfl) (fun _ _ _ h => h) (Or.inl ⟨by rfl, fun wx hx => by simp [go_sem]⟩) hS ?_
    simp only [Act.put, List.getElem_toArray, List.getElem_cons_succ, List.getElem_cons_zero, List.setIfInBounds_toArray, List.set_cons_zero, List.set_cons_succ]
    refine wpAnyH_take (i := 8) (v := .pointer (some ⟨lg, 2, none⟩)) rfl (by kernel_rfl) (by kernel_rfl) (by kernel_rfl) (fun _ _ _ h => h) (Or.inl ⟨by rfl, fun wx hx => by simp [go_sem]⟩) hS ?_
    simp only [Act.put, List.getElem_toArray, List.getElem_cons_succ, List.getElem_cons_zero, List.setIfInBounds_toArray, List.set_cons_zero, List.set_cons_succ]
    refine wpAnyH_take (i := 9) (v := .int .i64 (hs : Int)) rfl (by kernel_rfl) (by kernel_rfl) (by kernel_rfl) (fun _ _ _ h => h) (Or.inl ⟨by rfl, fun wx hx => by simp [go_sem, hx.2.1]⟩) hS ?_
    simp only [Act.put, List.getElem_toArray, List.getElem_cons_succ, List.getElem_cons_zero, List.setIfInBounds_toArray, List.set_cons_zero, List.set_cons_succ]
    refine wpAnyH_take (i := 10) (v := .int .i64 (kh : Int)) rfl (by kernel_rfl) (by kernel_rfl) (by kernel_rfl) (fun _ _ _ h => h) (Or.inl ⟨by rfl, fun wx hx => by simp [go_sem, f2]⟩) hS ?_
    simp only [Act.put, List.getElem_toArray, List.getElem_cons_succ, List.getElem_cons_zero, List.setIfInBounds_toArray, List.set_cons_zero, List.set_cons_succ]
    refine wpAnyH_take (i := 11) (v := .pointer (some ⟨lg, 0, none⟩)) rfl (by kernel_rfl) (by kernel_rfl) (by kernel_rfl) (fun _ _ _ h => h) (Or.inl ⟨by rfl, fun wx hx => by simp [go_sem]⟩) hS ?_
    simp only [Act.put, List.getElem_toArray, List.getElem_cons_succ, List.getElem_cons_zero, List.setIfInBounds_toArray, List.set_cons_zero, List.set_cons_succ]
    refine wpAnyH_take (i := 12) (v := .pointer (some ⟨lg, 0, none⟩)) rfl (by kernel_rfl) (by kernel_rfl) (by kernel_rfl) (fun _ _ _ h => h) (Or.inl ⟨by rfl, fun wx hx => by simp [go_sem]⟩) hS ?_
    simp only [Act.put, List.getElem_toArray, List.getElem_cons_succ, List.getElem_cons_zero, List.setIfInBounds_toArray, List.set_cons_zero, List.set_cons_succ]
    refine wpAnyH_take (i := 13) (v := .pointer (some ⟨lg, 4, none⟩)) rfl (by kernel_rfl) (by kernel_rfl) (by kernel_rfl) (fun _ _ _ h => h) (Or.inl ⟨by rfl, fun wx hx => by simp [go_sem]⟩) hS ?_
    simp only [Act.put, List.getElem_toArray, List.getElem_cons_succ, List.getElem_cons_zero, List.setIfInBounds_toArray, List.set_cons_zero, List.set_cons_succ]
    refine wpAnyH_take (i := 14) (v := .pointer (some ⟨lg, 7, none⟩)) rfl (by kernel_rfl) (by kernel_rfl) (by kernel_rfl) (fun _ _ _ h => h) (Or.inl ⟨by rfl, fun wx hx => by simp [go_sem]⟩) hS ?_
    simp only [Act.put, List.getElem_toArray, List.getElem_cons_succ, List.getElem_cons_zero, List.setIfInBounds_toArray, List.set_cons_zero, List.set_cons_succ]
    refine wpAnyH_take (i := 15) (v := .int .i64 (u : Int)) rfl (by kernel_rfl) (by kernel_rfl) (by kernel_rfl) (fun _ _ _ h => h) (Or.inl ⟨by rfl, fun wx hx => by simp [go_sem, hx.2.2]⟩) hS ?_
    simp only [Act.put, List.getElem_toArray, List.getElem_cons_succ, List.getElem_cons_zero, List.setIfInBounds_toArray, List.set_cons_zero, List.set_cons_succ]
    refine wpAnyH_take (i := 16) (v := .int .i64 (at_ : Int)) rfl (by kernel_rfl) (by kernel_rfl) (by kernel_rfl) (fun _ _ _ h => h) (Or.inl ⟨by rfl, fun wx hx => by simp [go_sem, f3]⟩) hS ?_
    simp only [Act.put, List.getElem_toArray, List.getElem_cons_succ, List.getElem_cons_zero, List.setIfInBounds_toArray, List.set_cons_zero, List.set_cons_succ]
    refine wpAnyH_take (i := 17) (v := .slice a3 rl c3) rfl (by kernel_rfl) (by kernel_rfl) (by kernel_rfl) (fun _ _ _ h => h) (Or.inl ⟨by rfl, fun wx hx => by simp [go_sem]⟩) hS ?_
    simp only [Act.put, List.getElem_toArray, List.getElem_cons_succ, List.getElem_cons_zero, List.setIfInBounds_toArray, List.set_cons_zero, List.set_cons_succ]
    refine wpAnyH_enter 18 (by kernel_rfl) rfl (by rfl) (f := 63) (args := #[.pointer (some ⟨lg, 0, none⟩), .int .i64 (at_ : Int), .slice a3 rl c3]) (by simp [go_sem]) HPC.out ?_
    rintro e0 y5 ⟨rfl, P5, hd5, hl5, hm5, hg5⟩
    replace hS : y5.cell? ⟨lg, 4, none⟩ = some (.int .i64 (k : Int)) ∧ y5.cell? ⟨lg, 2, none⟩ = some (.int .i64 (hs : Int)) ∧ y5.cell? ⟨lg, 7, none⟩ = some (.int .i64 (u : Int)) := ⟨hl5.cell 4, hl5.cell 2, hl5.cell 7⟩
    refine ⟨_, rfl, hS, ?_⟩
    simp only [Act.put, List.getElem_toArray, List.getElem_cons_succ, List.getElem_cons_zero, List.setIfInBounds_toArray, List.set_cons_zero, List.set_cons_succ]
    refine wpAnyH_take (i := 19) (v := .int .i64 xX) rfl (by kernel_rfl) (by kernel_rfl) (by kernel_rfl) (fun _ _ _ h => h) (Or.inl ⟨by rfl, fun wx hx => by simp [go_sem]⟩) hS ?_
    simp only [Act.put, List.getElem_toArray, List.getElem_cons_succ, List.getElem_cons_zero, List.setIfInBounds_toArray, List.set_cons_zero, List.set_cons_succ]
    refine wpAnyH_done (by kernel_rfl) ?_ _
    have HM5 : Hid (Mut (Un P Q) y1 y5) := (mut_below HD4.out _).trans (fun _ _ h => h) ((Mut.refl (Un P Q) y3.drew).trans (fun z _ h => HUN.out z h) hm5)
    have HMP : Hid (∀ z, z < y3.drew.heap.size → ¬ Un P (fun z => z = lg) z → y5.heap[z]? = y3.drew.heap[z]?) := hm5.block
    have HG5 : Hid (∀ z, P5 z → P z ∨ y1.heap.size ≤ z) := fun z hz => (hg5 z hz).imp id (fun h => Nat.le_trans HD4.out.size h)
    have HD5 : Hid (DkIs y5 gd P5 DX) := hd5
    have HL5 : Hid (Blk y5 lg (lgC gd hs xX k gen (.slice xa kn xc) u) 91) := hl5
    clear hS hd5 hl5 hm5 hg5 HPC HL4
    by_cases hx0 : xX = 0
    case neg =>
      have hx14 : xX = 14 := HER.out.1.elim (fun h => absurd h hx0) id
      have q2 : (xX != 0) = true := by rw [bne_iff_ne]; exact hx0
      go_wp2
      go_ret
      refine ⟨rfl, P5, fun _ => False, HD5.out, HM5.out, fun z hz => hz.elim (fun h => (HG5.out z h).imp Or.inl id) (fun h => h.elim), fun h => absurd hx14 h⟩
    case pos =>
      subst hx0
      go_upto_region 10 with fail
      have HQO : Hid (∀ z, lgQ lg (.slice xa kn xc) us z → Q z) := by rw [HQQ.out]; exact fun z h => h
      have hbl : ∀ z, Q z → z ≠ lg → y5.heap[z]? = y1.heap[z]? := fun z hq hne => by
        have h1 : z < y1.heap.size := HLT.out z (Or.inr hq)
        rw [HMP.out z (Nat.lt_of_lt_of_le h1 HD4.out.size) (fun h => h.elim (HAP.out z hq) hne), HD4.out.block z h1]
      have HT5 : Hid (TxJ 0 (.slice xa kn xc) us J.l y5) := HTX.out.sameQ HM5.out.size (fun z hz => hbl z (HQO.out z (Or.inr (Or.inl hz))) (fun e => ownX_ne_lg HTX.out.own HLB.out (e ▸ hz))) (fun uu huu z hz => hbl z (HQO.out z (Or.inr (Or.inr ⟨uu, huu, hz⟩))) (fun e => by
        obtain ⟨i, hi, rfl⟩ := List.getElem_of_mem huu
        exact ownB_ne_lg (HTX.out.good i _ (List.getElem?_eq_getElem hi)) HLB.out (e ▸ hz)))
      have HX5 : Hid (Reads y5 (.slice ax nx cx) x) := HRD.out y5 HM5.out
      clear hbl HMP HD4
      have HD6 : Hid (Below y5.heap.size y5 y5.drew) := (Below.refl _ _).drew
      replace HX5 : Hid (Reads y5.drew (.slice ax nx cx) x) := HX5.out.below HD6.out
      have HT6 : Hid (TxJ 0 (.slice xa kn xc) us J.l y5.drew) := HT5.out.next HD6.out
      have HL6 : Hid (Blk y5.drew lg (lgC gd hs 0 k gen (.slice xa kn xc) u) 91) := HL5.out.drew
      have c6 : y5.drew.cell? ⟨lg, 6, none⟩ = some (.slice xa kn xc) := HL6.out.cell 6
      refine wp_region_held_drew (S := fun _ => True) (by kernel_rfl) trivial ?_
      intro _
      refine wpAnyH_take (i := 0) (v := .pointer (some ⟨lg, 0, none⟩)) rfl (by kernel_rfl) (by kernel_rfl) (by kernel_rfl) (fun _ _ _ h => h) (Or.inl ⟨by rfl, fun wx hx => by simp [go_sem]⟩) trivial ?_
      simp only [Act.put, List.getElem_toArray, List.getElem_cons_zero, List.setIfInBounds_toArray, List.set_cons_zero, List.set_cons_succ]
      refine wpAnyH_take (i := 1) (v := .pointer (some ⟨lg, 0, none⟩)) rfl (by kernel_rfl) (by kernel_rfl) (by kernel_rfl) (fun _ _ _ h => h) (Or.inl ⟨by rfl, fun wx hx => by simp [go_sem]⟩) trivial ?_
      simp only [Act.put, List.getElem_toArray, List.getElem_cons_succ, List.getElem_cons_zero, List.setIfInBounds_toArray, List.set_cons_zero, List.set_cons_succ]
      refine wpAnyH_take (i := 2) (v := .pointer (some ⟨lg, 0, none⟩)) rfl (by kernel_rfl) (by kernel_rfl) (by kernel_rfl) (fun _ _ _ h => h) (Or.inl ⟨by rfl, fun wx hx => by simp [go_sem]⟩) trivial ?_
      simp only [Act.put, List.getElem_toArray, List.getElem_cons_succ, List.getElem_cons_zero, List.setIfInBounds_toArray, List.set_cons_zero, List.set_cons_succ]
      refine wpAnyH_take (i := 3) (v := .pointer (some ⟨lg, 4, none⟩)) rfl (by kernel_rfl) (by kernel_rfl) (by kernel_rfl) (fun _ _ _ h => h) (Or.inl ⟨by rfl, fun wx hx => by simp [go_sem]⟩) trivial ?_
      simp only [Act.put, List.getElem_toArray, List.getElem_cons_succ, List.getElem_cons_zero, List.setIfInBounds_toArray, List.set_cons_zero, List.set_cons_succ]
      refine wpAnyH_take (i := 4) (v := .pointer (some ⟨lg, 6, none⟩)) rfl (by kernel_rfl) (by kernel_rfl) (by kernel_rfl) (fun _ _ _ h => h) (Or.inl ⟨by rfl, fun wx hx => by simp [go_sem]⟩) trivial ?_
      simp only [Act.put, List.getElem_toArray, List.getElem_cons_succ, List.getElem_cons_zero, List.setIfInBounds_toArray, List.set_cons_zero, List.set_cons_succ]
      refine wpAnyH_take (i := 6) (v := .slice ax nx cx) rfl (by kernel_rfl) (by kernel_rfl) (by kernel_rfl) (fun _ _ _ h => h) (Or.inl ⟨by rfl, fun wx hx => by simp [go_sem]⟩) trivial ?_
      simp only [Act.put, List.getElem_toArray, List.getElem_cons_succ, List.getElem_cons_zero, List.setIfInBounds_toArray, List.set_cons_zero, List.set_cons_succ]
      refine wpAnyH_readCB 5 7 8 (.slice xa kn xc) (f := 64) (args := #[.slice ax nx cx]) (by kernel_rfl) rfl rfl rfl (by rfl) (by rfl) (fun _ => by rfl) (fun _ _ => by rfl) (by rfl) (fun _ => by rfl) (fun _ => by rfl) (by simp [go_sem, c6]) (by simp [go_sem]) (by simp [go_sem]) (bclone_any _ x _ HX5.out (by rw [← HNX.out]; have h1 := HBD.out; omega)) (by kernel_rfl) (by kernel_rfl) (by kernel_rfl) (by kernel_rfl) (fun _ => by rfl) (fun _ _ => by rfl) (by rfl) (by rfl) trivial ?_
      rintro e0 y6 ⟨vc, rfl, ho6, hz6⟩
      obtain ⟨ac, cc, hvc⟩ := ownB_form ho6
      rw [← HNX.out] at hvc
      subst hvc
      have hl6 : Blk y6 lg (lgC gd hs 0 k gen (.slice xa kn xc) u) 91 := HL6.out.below hz6 HL6.out.lt
      have hz7 := below_alloc y6 (.cells #[Value.slice ac nx cc] 22)
      have hl7 : Blk (y6.alloc (.cells #[Value.slice ac nx cc] 22)) lg (lgC gd hs 0 k gen (.slice xa kn xc) u) 91 := hl6.below hz7 hl6.lt
      have c6b : y6.cell? ⟨lg, 6, none⟩ = some (.slice xa kn xc) := hl6.cell 6
      have c6c : (y6.alloc (.cells #[Value.slice ac nx cc] 22)).cell? ⟨lg, 6, none⟩ = some (.slice xa kn xc) := hl7.cell 6
      refine ⟨_, rfl, trivial, by simp [go_sem, c6b], .slice (some ⟨y6.heap.size, 0, none⟩) 1 1, y6.alloc (.cells #[Value.slice ac nx cc] 22), build_x1 _ _ (.tmp 61) ac nx cc rfl rfl _, build_x1 _ _ (.tmp 61) ac nx cc rfl rfl _, trivial, by simp [go_sem, c6c], ?_⟩
      simp only [Act.put, List.getElem_toArray, List.getElem_cons_succ, List.getElem_cons_zero, List.setIfInBounds_toArray, List.set_cons_zero, List.set_cons_succ]
      have HT7 : Hid (TxJ 0 (.slice xa kn xc) us J.l y6) := HT6.out.next hz6
      have HOW : Hid (OwnB y6 y5.drew.heap.size (.slice ac nx cc) x) := ho6
      refine wpAnyH_appX 9 (.tmp 59) (.tmp 62) 0 (.slice xa kn xc) (.slice ac nx cc) us y6.heap.size (HT7.out.next hz7).own ((Blk.new y6 [Value.slice ac nx cc] 22).cell 0) rfl (by have h1 := HT7.out.len; have h2 := HKN.out; have h3 := HBD.out; omega) (Nat.zero_le _) (by kernel_rfl) rfl (by rfl) rfl rfl rfl ?_
      intro v8 y8 ho8 hg8 ha8
      refine ⟨trivial, ?_⟩
      simp only [Act.put, List.getElem_toArray, List.getElem_cons_succ, List.getElem_cons_zero, List.setIfInBounds_toArray, List.set_cons_zero, List.set_cons_succ]
      obtain ⟨HT8, _⟩ := HT7.out.grow (ownB_lower HOW.out (Nat.zero_le _)) ho8 hg8
      obtain ⟨a8, c8, hv8⟩ := HT8.form
      obtain ⟨kn1, HKN1⟩ : ∃ m, Hid (m = kn + 1) := ⟨_, rfl⟩
      have hkl : (J.l ++ [x]).length = kn1 := by rw [List.length_append, ← HKN.out, HKN1.out]; rfl
      rw [hkl] at hv8
      subst hv8
      have hrow : (Value.slice xa kn xc).ownBlock ≠ some lg := ownX_ne_lg (HT7.out.next hz7).own hl7
      have hl8 : Blk y8 lg (lgC gd hs 0 k gen (.slice xa kn xc) u) 91 := hl7.grownJ hg8 hrow
      have hb58 : ∀ z, z < y5.heap.size → (Value.slice xa kn xc).ownBlock ≠ some z → y8.heap[z]? = y5.heap[z]? := fun z hz hne => by
        have h1 : z < y6.heap.size := Nat.lt_of_lt_of_le hz hz6.size
        have h2 : z < (y6.alloc (.cells #[Value.slice ac nx cc] 22)).heap.size := Nat.lt_of_lt_of_le h1 hz7.size
        rw [hg8.block z h2 (Ne.symm hne), hz7.block z h1, hz6.block z hz]
        rfl
      have HS8 : Hid (y5.heap.size ≤ y8.heap.size) := Nat.le_trans hz6.size (Nat.le_trans hz7.size hg8.size)
      have HRQ : Hid (∀ z, (Value.slice xa kn xc).ownBlock = some z → Q z ∧ z < y1.heap.size) := fun z hz => ⟨HQO.out z (Or.inr (Or.inl hz)), HLT.out z (Or.inr (HQO.out z (Or.inr (Or.inl hz))))⟩
      have HM8 : Hid (Mut (Un P Q) y1 y8) := by
        have ho := hg8.os.trans (hz7.os.trans (hz6.os.trans rfl))
        refine ⟨(hg8.os.trans (hz7.os.trans hz6.os)).trans HM5.out.os, (hg8.tape.trans (hz7.tape.trans hz6.tape)).trans HM5.out.tape, (hg8.output.trans (hz7.output.trans hz6.output)).trans HM5.out.output, Nat.le_trans HM5.out.size HS8.out, fun z hz hn => ?_⟩
        rw [hb58 z (Nat.lt_of_lt_of_le hz HM5.out.size) (fun e => hn (Or.inr (HRQ.out z e).1))]
        exact HM5.out.block z hz hn
      have HD8 : Hid (DkIs y8 gd P5 DX) := HD5.out.same14 (fun z hz => hb58 z (HD5.out.lt14 z hz) (fun e => (HG5.out z hz).elim (fun h => HAP.out z (HRQ.out z e).1 h) (fun h => absurd (HRQ.out z e).2 (by omega))))
      have HQ8 : Hid (∀ z, lgQ lg (.slice a8 kn1 c8) (us ++ [.slice ac nx cc]) z → Q z ∨ y1.heap.size ≤ z) := fun z hz => by
        rcases hz with rfl | hz | ⟨uu, huu, hz⟩
        · exact Or.inl HQL.out
        · rcases ha8 with h | h
          · rw [h] at hz; exact Or.inl (HRQ.out z hz).1
          · rw [h] at hz
            cases hz
            exact Or.inr (Nat.le_trans HM5.out.size (Nat.le_trans hz6.size hz7.size))
        · rcases List.mem_append.1 huu with huu | huu
          · exact Or.inl (HQO.out z (Or.inr (Or.inr ⟨uu, huu, hz⟩)))
          · simp at huu
            subst huu
            exact Or.inr (Nat.le_trans HM5.out.size (HOW.out.ltJ z hz).1)
      have HT8' : Hid (TxJ 0 (.slice a8 kn1 c8) (us ++ [.slice ac nx cc]) (J.l ++ [x]) y8) := HT8
      have HL8 : Hid (Blk y8 lg (lgC gd hs 0 k gen (.slice xa kn xc) u) 91) := hl8
      clear HT8 hl8 hb58 hrow hkl ho8 hg8 ha8 hz6 hz7 hl6 hl7 c6 c6b c6c ho6 HOW HT7 HT6 HT5 HL6 HX5 HRQ HQO
      refine wpAnyH_take (i := 10) (v := .pointer (some ⟨lg, 0, none⟩)) rfl (by kernel_rfl) (by kernel_rfl) (by kernel_rfl) (fun _ _ _ h => h) (Or.inl ⟨by rfl, fun wx hx => by simp [go_sem]⟩) trivial ?_
      simp only [Act.put, List.getElem_toArray, List.getElem_cons_succ, List.getElem_cons_zero, List.setIfInBounds_toArray, List.set_cons_zero, List.set_cons_succ]
      refine wpAnyH_take (i := 11) (v := .pointer (some ⟨lg, 4, none⟩)) rfl (by kernel_rfl) (by kernel_rfl) (by kernel_rfl) (fun _ _ _ h => h) (Or.inl ⟨by rfl, fun wx hx => by simp [go_sem]⟩) trivial ?_
      simp only [Act.put, List.getElem_toArray, List.getElem_cons_succ, List.getElem_cons_zero, List.setIfInBounds_toArray, List.set_cons_zero, List.set_cons_succ]
      refine wpAnyH_take (i := 12) (v := .pointer (some ⟨lg, 6, none⟩)) rfl (by kernel_rfl) (by kernel_rfl) (by kernel_rfl) (fun _ _ _ h => h) (Or.inl ⟨by rfl, fun wx hx => by simp [go_sem]⟩) trivial ?_
      simp only [Act.put, List.getElem_toArray, List.getElem_cons_succ, List.getElem_cons_zero, List.setIfInBounds_toArray, List.set_cons_zero, List.set_cons_succ]
      have c68 : y8.cell? ⟨lg, 6, none⟩ = some (.slice xa kn xc) := HL8.out.cell 6
      have d68 : y8.frozen? ⟨lg, 6, none⟩ = false := HL8.out.frozen 6
      refine wpAnyH_skip 13 (y8.setCell ⟨lg, 6, none⟩ (.slice a8 kn1 c8)) (by kernel_rfl) rfl (by rfl) (by simp [go_sem, c68, d68]) trivial ?_
      simp only [Act.put]
      refine wpAnyH_done (by kernel_rfl) ?_ _
      obtain ⟨y9, HY9⟩ : ∃ y, Hid (y = y8.setCell ⟨lg, 6, none⟩ (.slice a8 kn1 c8)) := ⟨_, rfl⟩
      rw [← HY9.out]
      have ho9 : Only lg y8 y9 := by rw [HY9.out]; exact Only.setCell (Only.refl _ _) _ _
      have HL9 : Hid (Blk y9 lg (lgC gd hs 0 k gen (.slice a8 kn1 c8) u) 91) := by rw [HY9.out]; exact lg_set _ HL8.out
      have HT9 : Hid (TxJ 0 (.slice a8 kn1 c8) (us ++ [.slice ac nx cc]) (J.l ++ [x]) y9) := HT8'.out.onlyT ho9 HL8.out (by decide) (by decide)
      have HM9 : Hid (Mut (Un P Q) y1 y9) := HM8.out.trans (fun _ _ h => h) (ho9.mut (Or.inr HQL.out))
      have HN5 : Hid (¬ P5 lg) := fun h => (HG5.out lg h).elim HNP.out (fun h2 => absurd h2 (by have := HLB.out.lt; omega))
      have HD9 : Hid (DkIs y9 gd P5 DX) := HD8.out.same14 (fun z hz => ho9.block z (fun e => HN5.out (e ▸ hz)) (HD8.out.lt14 z hz))
      clear HY9 ho9 HL8 HT8' HM8 HD8 c68 d68
      go_upto_region 11 with fail
      have HL10 : Hid (Blk y9.drew lg (lgC gd hs 0 k gen (.slice a8 kn1 c8) u) 91) := HL9.out.drew
      have c7 : y9.drew.cell? ⟨lg, 7, none⟩ = some (.int .i64 (u : Int)) := HL10.out.cell 7
      have d7 : y9.drew.frozen? ⟨lg, 7, none⟩ = false := HL10.out.frozen 7
      have HSC : Hid (∀ W, Calls Tryd.prog 65 #[.int .i64 (rl : Int)] W fun e w' => e = .returned (.int .i64 (sx : Int)) ∧ w' = W) := fun W => by
        have h1 := jSectors_any rl (by have h2 := HRL2.out; have h3 := HSB.out; have h4 := HBD.out; omega) W
        have e : (rl + 63) / 64 = sx := by have h2 := HRL2.out; omega
        rw [e] at h1
        exact h1
      refine wp_region_held_drew (S := fun _ => True) (by kernel_rfl) trivial ?_
      intro _
      refine wpAnyH_take (i := 0) (v := .pointer (some ⟨lg, 0, none⟩)) rfl (by kernel_rfl) (by kernel_rfl) (by kernel_rfl) (fun _ _ _ h => h) (Or.inl ⟨by rfl, fun wx hx => by simp [go_sem]⟩) trivial ?_
      simp only [Act.put, List.getElem_toArray, List.getElem_cons_zero, List.setIfInBounds_toArray]
      refine wpAnyH_take (i := 1) (v := .pointer (some ⟨lg, 0, none⟩)) rfl (by kernel_rfl) (by kernel_rfl) (by kernel_rfl) (fun _ _ _ h => h) (Or.inl ⟨by rfl, fun wx hx => by simp [go_sem]⟩) trivial ?_
      simp only [Act.put, List.getElem_toArray, List.getElem_cons_succ, List.getElem_cons_zero, List.setIfInBounds_toArray, List.set_cons_zero, List.set_cons_succ]
      refine wpAnyH_take (i := 2) (v := .pointer (some ⟨lg, 4, none⟩)) rfl (by kernel_rfl) (by kernel_rfl) (by kernel_rfl) (fun _ _ _ h => h) (Or.inl ⟨by rfl, fun wx hx => by simp [go_sem]⟩) trivial ?_
      simp only [Act.put, List.getElem_toArray, List.getElem_cons_succ, List.getElem_cons_zero, List.setIfInBounds_toArray, List.set_cons_zero, List.set_cons_succ]
      refine wpAnyH_take (i := 3) (v := .pointer (some ⟨lg, 7, none⟩)) rfl (by kernel_rfl) (by kernel_rfl) (by kernel_rfl) (fun _ _ _ h => h) (Or.inl ⟨by rfl, fun wx hx => by simp [go_sem]⟩) trivial ?_
      simp only [Act.put, List.getElem_toArray, List.getElem_cons_succ, List.getElem_cons_zero, List.setIfInBounds_toArray, List.set_cons_zero, List.set_cons_succ]
      refine wpAnyH_take (i := 5) (v := .slice a3 rl c3) rfl (by kernel_rfl) (by kernel_rfl) (by kernel_rfl) (fun _ _ _ h => h) (Or.inl ⟨by rfl, fun wx hx => by simp [go_sem]⟩) trivial ?_
      simp only [Act.put, List.getElem_toArray, List.getElem_cons_succ, List.getElem_cons_zero, List.setIfInBounds_toArray, List.set_cons_zero, List.set_cons_succ]
      refine wpAnyH_take (i := 6) (v := .int .i64 (rl : Int)) rfl (by kernel_rfl) (by kernel_rfl) (by kernel_rfl) (fun _ _ _ h => h) (Or.inl ⟨by rfl, fun wx hx => by simp [go_sem]⟩) trivial ?_
      simp only [Act.put, List.getElem_toArray, List.getElem_cons_succ, List.getElem_cons_zero, List.setIfInBounds_toArray, List.set_cons_zero, List.set_cons_succ]
      refine wpAnyH_readC 4 7 (.int .i64 (u : Int)) (f := 65) (args := #[.int .i64 (rl : Int)]) (by kernel_rfl) rfl rfl (by rfl) (by rfl) (fun _ => by rfl) (by rfl) (by simp [go_sem, c7]) (by simp [go_sem]) (by simp [go_sem]) (HSC.out _) (by kernel_rfl) (by kernel_rfl) (fun _ => by rfl) (by rfl) trivial ?_
      rintro e0 y10 ⟨rfl, hy10⟩
      subst hy10
      refine ⟨_, rfl, trivial, by simp [go_sem, c7], ?_⟩
      simp only [Act.put, List.getElem_toArray, List.getElem_cons_succ, List.getElem_cons_zero, List.setIfInBounds_toArray, List.set_cons_zero, List.set_cons_succ]
      refine wpAnyH_take (i := 8) (v := .int .i64 (u2 : Int)) rfl (by kernel_rfl) (by kernel_rfl) (by kernel_rfl) (fun _ _ _ h => h) (Or.inl ⟨by rfl, fun wx hx => by simp [go_sem, f4]⟩) trivial ?_
      simp only [Act.put, List.getElem_toArray, List.getElem_cons_succ, List.getElem_cons_zero, List.setIfInBounds_toArray, List.set_cons_zero, List.set_cons_succ]
      refine wpAnyH_take (i := 9) (v := .pointer (some ⟨lg, 0, none⟩)) rfl (by kernel_rfl) (by kernel_rfl) (by kernel_rfl) (fun _ _ _ h => h) (Or.inl ⟨by rfl, fun wx hx => by simp [go_sem]⟩) trivial ?_
      simp only [Act.put, List.getElem_toArray, List.getElem_cons_succ, List.getElem_cons_zero, List.setIfInBounds_toArray, List.set_cons_zero, List.set_cons_succ]
      refine wpAnyH_take (i := 10) (v := .pointer (some ⟨lg, 4, none⟩)) rfl (by kernel_rfl) (by kernel_rfl) (by kernel_rfl) (fun _ _ _ h => h) (Or.inl ⟨by rfl, fun wx hx => by simp [go_sem]⟩) trivial ?_
      simp only [Act.put, List.getElem_toArray, List.getElem_cons_succ, List.getElem_cons_zero, List.setIfInBounds_toArray, List.set_cons_zero, List.set_cons_succ]
      refine wpAnyH_take (i := 11) (v := .pointer (some ⟨lg, 7, none⟩)) rfl (by kernel_rfl) (by kernel_rfl) (by kernel_rfl) (fun _ _ _ h => h) (Or.inl ⟨by rfl, fun wx hx => by simp [go_sem]⟩) trivial ?_
      simp only [Act.put, List.getElem_toArray, List.getElem_cons_succ, List.getElem_cons_zero, List.setIfInBounds_toArray, List.set_cons_zero, List.set_cons_succ]
      refine wpAnyH_skip 12 (y9.drew.setCell ⟨lg, 7, none⟩ (.int .i64 (u2 : Int))) (by kernel_rfl) rfl (by rfl) (by simp [go_sem, c7, d7]) trivial ?_
      simp only [Act.put]
      refine wpAnyH_done (by kernel_rfl) ?_ _
      obtain ⟨y11, HY11⟩ : ∃ y, Hid (y = y9.drew.setCell ⟨lg, 7, none⟩ (.int .i64 (u2 : Int))) := ⟨_, rfl⟩
      rw [← HY11.out]
      have ho11 : Only lg y9.drew y11 := by rw [HY11.out]; exact Only.setCell (Only.refl _ _) _ _
      have HL11 : Hid (Blk y11 lg (lgC gd hs 0 k gen (.slice a8 kn1 c8) u2) 91) := by rw [HY11.out]; exact lg_setU _ HL10.out
      have HT11 : Hid (TxJ 0 (.slice a8 kn1 c8) (us ++ [.slice ac nx cc]) (J.l ++ [x]) y11) := (HT9.out.next ((Below.refl _ _).drew)).onlyT ho11 HL10.out (by decide) (by decide)
      have HM11 : Hid (Mut (Un P Q) y1 y11) := HM9.out.drew.trans (fun _ _ h => h) (ho11.mut (Or.inr HQL.out))
      have HD11 : Hid (DkIs y11 gd P5 DX) := (HD9.out.same14 (w' := y9.drew) (fun _ _ => rfl)).same14 (fun z hz => ho11.block z (fun e => HN5.out (e ▸ hz)) (HD9.out.lt14 z hz))
      clear HY11 ho11 c7 d7
      go_wp2
      go_ret
      have hlm : LgM y11 lg gd (sizeD DX) (.slice a8 kn1 c8) (us ++ [.slice ac nx cc]) ⟨J.k, J.gen, J.l ++ [x]⟩ := ⟨by
        show Blk y11 lg (lgC gd (sizeD DX / 2) 0 J.k J.gen (.slice a8 kn1 c8) (1 + secL (J.l ++ [x]))) 91
        rw [HER.out.2, ← HHS.out, ← HKK.out, ← HGN.out, secL_snoc, ← HNX.out, ← HSX.out, ← Nat.add_assoc, ← HU.out, ← HU2.out]
        exact HL11.out, HT11.out⟩
      have hpk : Pk LgJ y11 gd lg P5 (lgQ lg (.slice a8 kn1 c8) (us ++ [.slice ac nx cc])) DX ⟨J.k, J.gen, J.l ++ [x]⟩ := ⟨HD11.out, ⟨_, _, hlm, rfl⟩, pk_ap HD11.out hlm⟩
      have hgw : Grew y1 (Un P Q) (Un P5 (lgQ lg (.slice a8 kn1 c8) (us ++ [.slice ac nx cc]))) := fun z hz => hz.elim (fun h => (HG5.out z h).imp Or.inl id) (fun h => (HQ8.out z h).imp Or.inr id)
      first
        | exact ⟨rfl, P5, _, HD11.out, HM11.out, hgw, fun _ => hpk⟩
        | exact ⟨rfl, P5, _, HD11.out, HM11.out, hgw, hpk⟩
        | exact ⟨rfl, P5, HD11.out, HM11.out, _, hgw, hpk⟩
        | trace_state
end Go.Proofs.YtfleaipdoiiiiaaDoor
/- The walk of journal's Restart, as it landed (layer 14). -/
namespace Go.Proofs.YtfleaipdoiiiiaaDoor
open Go.RowKit
set_option maxRecDepth 100000
/-- texts that lie in no block of R stay, whatever R becomes -/
theorem TxJ.stN {base : Nat} {v : Value} {us : List Value} {xs : List Bs} {w : World} (h : TxJ base v us xs w) {R : Nat → Prop} (hv : ∀ z, v.ownBlock = some z → ¬ R z) (hu : ∀ u ∈ us, ∀ z, u.ownBlock = some z → ¬ R z) : Sta R w (fun W => ReadsL W v xs) := fun W m =>
  (h.sameQ m.size (fun z hz => m.block z (h.own.lt z hz).2 (hv z hz)) (fun u huu z hz => m.block z (by
    obtain ⟨i, hi, rfl⟩ := List.getElem_of_mem huu
    exact ((h.good i _ (List.getElem?_eq_getElem hi)).ltJ z hz).2) (hu u huu z hz))).readsL
theorem TxJ.ge_all {base : Nat} {v : Value} {us : List Value} {xs : List Bs} {w : World} (h : TxJ base v us xs w) : (∀ z, v.ownBlock = some z → base ≤ z ∧ z < w.heap.size) ∧ ∀ u ∈ us, ∀ z, u.ownBlock = some z → base ≤ z ∧ z < w.heap.size := ⟨h.own.lt, fun u huu z hz => by
  obtain ⟨i, hi, rfl⟩ := List.getElem_of_mem huu
  exact (h.good i _ (List.getElem?_eq_getElem hi)).ltJ z hz⟩
theorem TxJ.lower {base B : Nat} {v : Value} {us : List Value} {xs : List Bs} {w : World} (h : TxJ base v us xs w) (hB : B ≤ base) : TxJ B v us xs w := by
  refine ⟨?_, h.len, fun j u hj => ownB_lower (h.good j u hj) hB, Nat.le_trans hB h.ge⟩
  rcases h.own with ⟨h1, ⟨rfl, h2⟩ | ⟨g, cap, cur, rfl, hg, r⟩⟩
  · exact ⟨h1, Or.inl ⟨rfl, h2⟩⟩
  · exact ⟨h1, Or.inr ⟨g, cap, cur, rfl, Nat.le_trans hB hg, r⟩⟩
theorem anew_mem {hs k gen n : Nat} {l : List Bs} (hk : k ≤ 1) (hf : 1 + secL l ≤ hs) (hn : 2 * hs ≤ n) : ∀ p, some p ∈ anewS hs k gen l → p.1 < n ∧ p.2.length = 64 := fun p hp => by
  have hks : k * hs ≤ hs := by rcases Nat.le_one_iff_eq_zero_or_eq_one.1 hk with e | e <;> rw [e] <;> omega
  unfold anewS at hp
  simp only [List.mem_append, List.mem_map, List.mem_cons, List.not_mem_nil, or_false, reduceCtorEq, false_or, Option.some.injEq, exists_eq_right] at hp
  rcases hp with hp | hp | hp
  · exact secs_mem hs (k * hs) _ (List.length_replicate) (by omega) p hp
  · exact secs_mem (secL l) (k * hs + 1) _ (by rw [len_recsB, sizeL_eq]) (by omega) p hp
  · exact secs_mem 1 (k * hs) _ (len_headB gen) (by omega) p hp
set_option maxRecDepth 100000 in
set_option maxHeartbeats 8000000 in
theorem jRestart_any {w : World} {gd lg : Nat} {P Q : Nat → Prop} {D : DkT} {J : JnT} (v : Value) (m : List Bs) (hK : KOk w) (hp : Pk LgJ w gd lg P Q D J) (hok : okJ D J) (hml : m.length ≤ 100000) (hmx : ∀ x ∈ m, x.length ≤ 100000) (hst : Sta (Un P Q) w (fun W => ReadsL W v m)) :
    Calls Tryd.prog 59 #[.pointer (some ⟨lg, 0, none⟩), v] w fun e w' => e = .returned (.int .i64 (rstX J D m)) ∧ ∃ P' Q', DkIs w' gd P' (rstD J D m) ∧ Mut (Un P Q) w w' ∧ Grew w (Un P Q) (Un P' Q') ∧ (rstX J D m ≠ 14 → Pk LgJ w' gd lg P' Q' (rstD J D m) (rstJ J D m)) := by
  obtain ⟨vr, us, hm, hQ⟩ := id hp.lg
  obtain ⟨n, HN⟩ : ∃ n, Hid (n = m.length) := ⟨_, rfl⟩
  obtain ⟨ad, c, hv⟩ : ∃ a c, v = .slice a n c := by obtain ⟨a, c, hv, _⟩ := hst.now; rw [← HN.out] at hv; exact ⟨a, c, hv⟩
  subst hv
  obtain ⟨hs, HHS⟩ : ∃ m, Hid (m = sizeD D / 2) := ⟨_, rfl⟩
  obtain ⟨u, HU⟩ : ∃ m, Hid (m = 1 + secL J.l) := ⟨_, rfl⟩
  obtain ⟨k, HKK⟩ : ∃ m, Hid (m = J.k) := ⟨_, rfl⟩
  obtain ⟨gen, HGN⟩ : ∃ m, Hid (m = J.gen) := ⟨_, rfl⟩
  have hlb := hm.lb
  rw [← HHS.out, ← HU.out, ← HKK.out, ← HGN.out] at hlb
  have HLB : Hid (Blk w lg (lgC gd hs 0 k gen vr u) 91) := hlb
  have HDK : Hid (DkIs w gd P D) := hp.dk
  have HAP : Hid (∀ k, Q k → ¬ P k) := hp.ap
  have HK : Hid (KOk w) := hK
  have HRL : Hid (ReadsL w (.slice ad n c) m) := hst.now
  have HPP : Hid (Pk LgJ w gd lg P Q D J) := hp
  have HQL : Hid (Q lg) := by rw [hQ]; exact Or.inl rfl
  have HLT : Hid (∀ k, Un P Q k → k < w.heap.size) := fun k hk => hk.elim (hp.dk.lt14 k) (fun h => by rw [hQ] at h; exact hm.lt k h)
  have HBD : Hid (hs ≤ 50 ∧ k ≤ 1 ∧ gen + 1 < 18446744073709551616 ∧ n ≤ 100000 ∧ 4 ≤ hs ∧ D.wait = [] ∧ 2 * hs ≤ sizeD D ∧ 1 ≤ hs) := ⟨by have h1 := HHS.out; have h2 := hok.hi; omega, by rw [HKK.out]; exact hok.k1, by have h1 := hok.g2; rw [HGN.out]; omega, by rw [HN.out]; exact hml, by have h1 := HHS.out; have h2 := hok.lo; omega, hok.wt, by have h1 := HHS.out; omega, by have h1 := HHS.out; have h2 := hok.lo; omega⟩
  have HMX : Hid (∀ x ∈ m, x.length ≤ 100000000) := fun x hx => Nat.le_trans (hmx x hx) (by decide)
  have HEE : Hid (rstE D m = if ∃ x ∈ m, chkX x = 1 then 1 else if hs < 1 + secL m then 13 else 0) := by show _ = _; rw [rstE, show hsD D = hs from HHS.out.symm]
  have c2 : w.cell? ⟨lg, 2, none⟩ = some (.int .i64 (hs : Int)) := hlb.cell 2
  clear hK hok hml hmx hst hm hQ hlb hp
  obtain ⟨X, HX⟩ : ∃ z, Hid (z = rstX J D m) := ⟨_, rfl⟩
  obtain ⟨DX, HDX⟩ : ∃ z, Hid (z = rstD J D m) := ⟨_, rfl⟩
  obtain ⟨JX, HJX⟩ : ∃ z, Hid (z = rstJ J D m) := ⟨_, rfl⟩
  rw [← HX.out, ← HDX.out, ← HJX.out]
  have HBAD : Hid (∀ e : Int, e ≠ 0 → rstE D m = e → X = e ∧ DX = D ∧ JX = J) := fun e he h => by
    rw [HX.out, HDX.out, HJX.out, rstX, rstD, rstJ, h, if_neg he, if_neg he, if_neg he]
    exact ⟨rfl, rfl, rfl⟩
  go_enter Tryd.func59, Tryd.ntmps59
  go_wp2
  go_loopw [10] (fun i wr => ∃ kk : Nat, kk ≤ n ∧ i = .int .i64 (kk : Int) ∧ Hid (∀ j, j < kk → chkX (m.getD j []) = 0) ∧ wr = w) (fun i _ => n - (intOf i).toNat)
  case atStart => exact ⟨0, Nat.zero_le _, rfl, (fun j hj => absurd hj (by omega)), rfl⟩
  case round =>
    obtain ⟨kk, hk, rfl, HOK, rfl⟩ := hrel
    by_cases hlt : kk < n
    case pos =>
      have hlk : (kk : Int) < (n : Int) := by omega
      have k0 : (0 : Int) ≤ (kk : Int) := by omega
      have g1 : IntKind.i64.wrap ((kk : Int) + 1) = (kk : Int) + 1 := by rw [IntKind.wrap_i64]; have := HBD.out; omega
      have hkl : kk < m.length := by rw [← HN.out]; exact hlt
      obtain ⟨b, off, vj, rfl, hc, hrj⟩ := HRL.out.atJ hkl
      obtain ⟨x, HXX⟩ : ∃ x, Hid (x = m.getD kk []) := ⟨_, rfl⟩
      rw [← HXX.out] at hrj
      obtain ⟨aj, nj, cj, hvj⟩ := hrj.form
      subst hvj
      obtain ⟨cc, HCC⟩ : ∃ z, Hid (z = chkX x) := ⟨_, rfl⟩
      have HCK : Hid (Calls Tryd.prog 20 #[.slice aj nj cj] wr fun e w' => e = .returned (.int .i64 cc) ∧ w' = wr) := by rw [HCC.out]; exact jCheck_any _ x wr hrj
      have HMM : Hid (x ∈ m) := by show _ ∈ _; rw [HXX.out, List.getD_eq_getElem?_getD, List.getElem?_eq_getElem hkl]; exact List.getElem_mem hkl
      clear hkl hrj
      by_cases hc1 : cc = 1
      · subst hc1
        obtain ⟨e1, e2, e3⟩ := HBAD.out 1 (by decide) (by rw [HEE.out, if_pos ⟨x, HMM.out, HCC.out.symm⟩])
        have HE3 : Hid (X = 1 ∧ DX = D ∧ JX = J) := ⟨e1, e2, e3⟩
        clear e1 e2 e3
        have tk0 : Hid True := trivial
        go_wp2_with (first
          | (clear tk0; go_at_call 20; refine HCK.out.mono ?_; rintro e0 y1 ⟨rfl, hy1⟩; subst hy1))
        go_ret
        rw [HE3.out.1, HE3.out.2.1, HE3.out.2.2]
        first
          | exact ⟨rfl, P, Q, HPP.out.dk, Mut.refl _ _, Grew.refl _ _, fun _ => HPP.out⟩
          | exact ⟨rfl, P, Q, HPP.out.dk, Mut.refl _ _, Grew.refl _ _, HPP.out⟩
          | exact ⟨rfl, P, HPP.out.dk, Mut.refl _ _, Q, Grew.refl _ _, HPP.out⟩
      · obtain rfl : cc = 0 := (by rw [HCC.out]; exact chk_or x : cc = 0 ∨ cc = 1).elim id (fun h => absurd h hc1)
        have HOK2 : Hid (∀ j, j < kk + 1 → chkX (m.getD j []) = 0) := fun j hj => by
          by_cases e : j = kk
          · rw [e, ← HXX.out, ← HCC.out]
          · exact HOK.out j (by omega)
        have tk0 : Hid True := trivial
        go_wp2_with (first
          | (clear tk0; go_at_call 20; refine HCK.out.mono ?_; rintro e0 y1 ⟨rfl, hy1⟩; subst hy1))
        go_roundw
        case rel => exact ⟨kk + 1, by omega, by simp, HOK2, by first | rfl | trivial⟩
        case measure => simp [intOf]; omega
    case neg =>
      have hlk : ¬ ((kk : Int) < (n : Int)) := by omega
      have HNC : Hid (¬ ∃ x ∈ m, chkX x = 1) := fun ⟨x, hx, h⟩ => by
        obtain ⟨i, hi, rfl⟩ := List.getElem_of_mem hx
        have h1 := HOK.out i (by have := HN.out; omega)
        rw [List.getD_eq_getElem?_getD, List.getElem?_eq_getElem hi] at h1
        simp only [Option.getD_some] at h1
        rw [h1] at h
        cases h
      obtain ⟨ok, HFO⟩ : ∃ o, Hid (o = decide (1 + secL m ≤ hs)) := ⟨_, rfl⟩
      have HFT : Hid (Calls Tryd.prog 76 #[.slice ad n c, .int .i64 (hs : Int)] wr fun e w' => e = .returned (.bool ok) ∧ w' = wr) := by rw [HFO.out]; exact jFit_any _ m hs HBD.out.2.2.2.2.2.2.2 (by have := HBD.out; omega) (by rw [← HN.out]; have := HBD.out; omega) HMX.out wr HRL.out
      cases ok with
      | false =>
        have hno : hs < 1 + secL m := by have := of_decide_eq_false HFO.out.symm; omega
        obtain ⟨e1, e2, e3⟩ := HBAD.out 13 (by decide) (by rw [HEE.out, if_neg HNC.out, if_pos hno])
        have HE3 : Hid (X = 13 ∧ DX = D ∧ JX = J) := ⟨e1, e2, e3⟩
        clear e1 e2 e3 hno
        have tk0 : Hid True := trivial
        go_wp2_with (first
          | (clear tk0; go_at_call 76; refine HFT.out.mono ?_; rintro e0 y1 ⟨rfl, hy1⟩; subst hy1))
        go_ret
        rw [HE3.out.1, HE3.out.2.1, HE3.out.2.2]
        first
          | exact ⟨rfl, P, Q, HPP.out.dk, Mut.refl _ _, Grew.refl _ _, fun _ => HPP.out⟩
          | exact ⟨rfl, P, Q, HPP.out.dk, Mut.refl _ _, Grew.refl _ _, HPP.out⟩
          | exact ⟨rfl, P, HPP.out.dk, Mut.refl _ _, Q, Grew.refl _ _, HPP.out⟩
      | true =>
        have hfit : 1 + secL m ≤ hs := of_decide_eq_true HFO.out.symm
        have hE : rstE D m = 0 := by rw [HEE.out, if_neg HNC.out, if_neg (by omega)]
        have hgn : gN gen = gen + 1 := gN_eq HBD.out.2.2.1
        have HSL : Hid (anewS (hsD D) (1 - J.k) (J.gen + 1) m = anewS hs (1 - k) (gN gen) m) := by show _ = _; rw [hgn, show hsD D = hs from HHS.out.symm, ← HKK.out, ← HGN.out]
        have HXE : Hid (X = (runJ D (anewS hs (1 - k) (gN gen) m)).2 ∧ DX = (runJ D (anewS hs (1 - k) (gN gen) m)).1 ∧ JX = ⟨1 - k, gN gen, m⟩) := by
          rw [HX.out, HDX.out, HJX.out, rstX, rstD, rstJ, if_pos hE, if_pos hE, if_pos hE, HSL.out, hgn, ← HKK.out, ← HGN.out]
          exact ⟨rfl, rfl, rfl⟩
        have HOKD : Hid (okD D) := by obtain ⟨_, _, _, _, hm, _⟩ := HDK.out; exact hm.ok
        have HER : Hid ((X = 0 ∨ X = 14) ∧ sizeD DX = sizeD D) := by
          rw [HXE.out.1, HXE.out.2.1]
          exact ⟨run_err _ D HOKD.out (anew_mem (by omega) hfit HBD.out.2.2.2.2.2.2.1), (run_size _ D HOKD.out).1⟩
        have HNX : Hid (∀ W v', Below wr.heap.size wr W → Sta (Un P (fun z => z = lg)) W (fun Y => ReadsL Y v' m) → Calls Tryd.prog 56 #[.pointer (some ⟨lg, 0, none⟩), v'] W fun e w' => e = .returned (.int .i64 X) ∧ ∃ P', DkIs w' gd P' DX ∧ (X = 0 → Blk w' lg (lgC gd hs 0 (1 - k) (gN gen) v' (1 + secL m)) 91) ∧ Mut (Un P (fun z => z = lg)) W w' ∧ Grew W P P') := fun W v' hW hs' => by
          rw [HXE.out.1, HXE.out.2.1]
          exact jNext_any (w := W) hs k gen u vr v' m (HK.out.below hW HK.out.lt) (HDK.out.same14 (fun z hz => hW.block z (HDK.out.lt14 z hz))) HBD.out.2.2.2.2.2.1 (HLB.out.below hW HLB.out.lt) (HAP.out lg HQL.out) HBD.out.2.1 HBD.out.2.2.2.2.2.2.2 HBD.out.1 hfit hs'
        clear hE hgn hfit HBAD HEE
        have tk0 : Hid True := trivial
        have tk1 : Hid True := trivial
        have tk2 : Hid True := trivial
        go_wp2_with (first
          | (clear tk0; go_at_call 76; refine HFT.out.mono ?_; rintro e0 y1 ⟨rfl, hy1⟩; subst hy1)
          | (clear tk1; go_at_call 57; refine (jCopies_any _ m (by rw [← HN.out]; exact HBD.out.2.2.2.1) HMX.out _ HRL.out).mono ?_; rintro e0 y2 ⟨v2, us2, rfl, htx, hz⟩
             have HTX : Hid (TxJ y1.heap.size v2 us2 m y2) := htx
             have HBW : Hid (Below y1.heap.size y1 y2) := hz
             clear htx hz)
          | (clear tk2; go_at_call 56; refine (HNX.out _ _ HBW.out (HTX.out.stN (R := Un P (fun z => z = lg)) (fun z hz h => absurd (HLT.out z (h.elim Or.inl (fun e => Or.inr (by rw [e]; exact HQL.out)))) (by have := (HTX.out.ge_all.1 z hz).1; omega)) (fun uu huu z hz h => absurd (HLT.out z (h.elim Or.inl (fun e => Or.inr (by rw [e]; exact HQL.out)))) (by have := (HTX.out.ge_all.2 uu huu z hz).1; omega)))).mono ?_; rintro e0 y3 ⟨rfl, P3, hd3, hl3, hm3, hg3⟩
             have HR3 : Hid (DkIs y3 gd P3 DX ∧ (X = 0 → Blk y3 lg (lgC gd hs 0 (1 - k) (gN gen) v2 (1 + secL m)) 91) ∧ Mut (Un P (fun z => z = lg)) y2 y3 ∧ Grew y2 P P3) := ⟨hd3, hl3, hm3, hg3⟩
             clear hd3 hl3 hm3 hg3))
        go_ret
        have hm3 : Mut (Un P Q) y1 y3 := (mut_below HBW.out _).trans (fun _ _ h => h) ((Mut.refl (Un P Q) y2).trans (fun z _ h => h.elim Or.inl (fun e => Or.inr (by rw [e]; exact HQL.out))) HR3.out.2.2.1)
        have hg3 : ∀ z, P3 z → P z ∨ y1.heap.size ≤ z := fun z hz => (HR3.out.2.2.2 z hz).imp id (fun h => Nat.le_trans HBW.out.size h)
        by_cases hx0 : X = 0
        · have hnot : ∀ z, y1.heap.size ≤ z → ¬ Un P (fun z => z = lg) z := fun z hz h => absurd (HLT.out z (h.elim Or.inl (fun e => Or.inr (by rw [e]; exact HQL.out)))) (by omega)
          have htx3 : TxJ 0 v2 us2 m y3 := (HTX.out.lower (Nat.zero_le _)).sameQ HR3.out.2.2.1.size (fun z hz => HR3.out.2.2.1.block z (HTX.out.ge_all.1 z hz).2 (hnot z (HTX.out.ge_all.1 z hz).1)) (fun uu huu z hz => HR3.out.2.2.1.block z (HTX.out.ge_all.2 uu huu z hz).2 (hnot z (HTX.out.ge_all.2 uu huu z hz).1))
          have hlm : LgM y3 lg gd (sizeD DX) v2 us2 JX := by
            rw [HXE.out.2.2]
            exact ⟨by rw [HER.out.2, ← HHS.out]; exact HR3.out.2.1 hx0, htx3⟩
          have hpk : Pk LgJ y3 gd lg P3 (lgQ lg v2 us2) DX JX := ⟨HR3.out.1, ⟨_, _, hlm, rfl⟩, pk_ap HR3.out.1 hlm⟩
          have hgw : Grew y1 (Un P Q) (Un P3 (lgQ lg v2 us2)) := fun z hz => hz.elim (fun h => (hg3 z h).imp Or.inl id) (fun h => by
            rcases h with rfl | h | ⟨uu, huu, h⟩
            · exact Or.inl (Or.inr HQL.out)
            · exact Or.inr (HTX.out.ge_all.1 z h).1
            · exact Or.inr (HTX.out.ge_all.2 uu huu z h).1)
          exact ⟨rfl, P3, lgQ lg v2 us2, HR3.out.1, hm3, hgw, fun _ => hpk⟩
        · have hx14 : X = 14 := HER.out.1.elim (fun h => absurd h hx0) id
          exact ⟨rfl, P3, fun _ => False, HR3.out.1, hm3, fun z hz => hz.elim (fun h => (hg3 z h).imp Or.inl id) (fun h => h.elim), fun h => absurd hx14 h⟩
end Go.Proofs.YtfleaipdoiiiiaaDoor
/- Slices of texts that stay whatever blocks of P become; blazonref14.Append and Restart with them (layer 14). -/
namespace Go.Proofs.YtfleaipdoiiiiaaDoor
open Go.RowKit
set_option maxRecDepth 100000
/-- a slice of texts, whatever blocks of P become -/
def StaL (P : Nat → Prop) (w : World) (v : Value) (l : List Bs) : Prop :=
  ∃ ad cap, v = .slice ad l.length cap ∧ l.length ≤ cap ∧ (ad = none → cap = 0) ∧ (0 < l.length → ∃ b off, ad = some ⟨b, off, none⟩ ∧ ¬ P b ∧ ∀ j, j < l.length → ∃ vj, w.cell? ⟨b, off + j, none⟩ = some vj ∧ Sta P w (fun W => Reads W vj (l.getD j [])))
theorem StaL.now {P : Nat → Prop} {w : World} {v : Value} {l : List Bs} (h : StaL P w v l) : ReadsL w v l := by
  obtain ⟨ad, cap, h1, h2, h3, h4⟩ := h
  refine ⟨ad, cap, h1, h2, h3, fun hp => ?_⟩
  obtain ⟨b, off, h5, _, h6⟩ := h4 hp
  refine ⟨b, off, h5, fun j hj => ?_⟩
  obtain ⟨vj, h7, h9⟩ := h6 j hj
  exact ⟨vj, h7, h9.now⟩
theorem StaL.go {P P' : Nat → Prop} {w w' : World} {v : Value} {l : List Bs} (h : StaL P w v l) (m : Mut P w w') (hP : ∀ k, k < w.heap.size → P' k → P k) : StaL P' w' v l := by
  obtain ⟨ad, cap, h1, h2, h3, h4⟩ := h
  refine ⟨ad, cap, h1, h2, h3, fun hp => ?_⟩
  obtain ⟨b, off, h5, hnb, h6⟩ := h4 hp
  obtain ⟨_, h0, _⟩ := h6 0 hp
  refine ⟨b, off, h5, fun hb => hnb (hP b (block_lt_of_cell h0) hb), fun j hj => ?_⟩
  obtain ⟨vj, h7, h9⟩ := h6 j hj
  exact ⟨vj, m.cell hnb h7, h9.go m hP⟩
theorem StaL.below {P : Nat → Prop} {w w' : World} {v : Value} {l : List Bs} (h : StaL P w v l) (hb : Below w.heap.size w w') : StaL P w' v l := h.go (mut_below hb P) (fun _ _ h => h)
theorem StaL.nil (P : Nat → Prop) (w : World) : StaL P w (.slice none 0 0) [] := ⟨none, 0, rfl, Nat.le_refl _, fun _ => rfl, fun h => by simp at h⟩
theorem StaL.sta {P : Nat → Prop} {w : World} {v : Value} {l : List Bs} (h : StaL P w v l) : Sta P w (fun W => ReadsL W v l) := fun _ m => (h.go m (fun _ _ h => h)).now
theorem OwnX.staL {P : Nat → Prop} {W : World} {base : Nat} {v : Value} {us : List Value} {xs : List Bs} (h : OwnX W base v us) (hP : ∀ k, P k → k < base) (hlen : us.length = xs.length) (hg : ∀ j u, us[j]? = some u → Sta P W (fun X => Reads X u (xs.getD j []))) : StaL P W v xs := by
  obtain ⟨h1, h2⟩ := id h
  rcases h2 with ⟨rfl, h0⟩ | ⟨g, cap, cur, rfl, hg2, hh, hc, hm, hs, ht⟩
  · have : xs = [] := List.eq_nil_of_length_eq_zero (by rw [← hlen]; exact h0)
    subst this
    exact StaL.nil _ _
  · refine ⟨_, cap, by rw [hlen], by rw [← hlen]; exact hc, (fun e => by cases e), fun _ => ⟨g, 0, rfl, fun hp => absurd (hP g hp) (by omega), fun j hj => ?_⟩⟩
    have hj2 : j < us.length := by rw [hlen]; exact hj
    refine ⟨us[j], ?_, hg j _ (List.getElem?_eq_getElem hj2)⟩
    rw [cell_of_row W g (0 + j) cur _ (0, 0) hh, Nat.zero_add]
    rw [Nat.mul_one] at ht
    have := List.getElem?_eq_getElem hj2
    conv at this => lhs; rw [← ht]
    rw [List.getElem?_take_of_lt hj2] at this
    simpa using this
theorem rowsXs (P : Nat → Prop) (w : World) (b : Nat) : ∀ (l : List Bs) (off : Nat), (∀ j, j < l.length → ∃ vj, w.cell? ⟨b, off + j, none⟩ = some vj ∧ Sta P w (fun W => Reads W vj (l.getD j []))) → ∃ us : List Value, us.length = l.length ∧ (∀ j u, us[j]? = some u → w.cell? ⟨b, off + j, none⟩ = some u ∧ Sta P w (fun W => Reads W u (l.getD j [])))
  | [], off, _ => ⟨[], rfl, fun j u hj => by simp at hj⟩
  | x :: l, off, h => by
    obtain ⟨v0, h0, r0⟩ := h 0 (by simp)
    obtain ⟨us, hl, hu⟩ := rowsXs P w b l (off + 1) (fun j hj => by
      obtain ⟨v, h1, h2⟩ := h (j + 1) (by simpa using hj)
      exact ⟨v, by rw [show off + 1 + j = off + (j + 1) by omega]; exact h1, h2⟩)
    refine ⟨v0 :: us, by rw [List.length_cons, List.length_cons, hl], fun j u hj => ?_⟩
    cases j with
    | zero => simp at hj; subst hj; exact ⟨h0, r0⟩
    | succ j =>
      rw [List.getElem?_cons_succ] at hj
      obtain ⟨h1, h2⟩ := hu j u hj
      exact ⟨by rw [show off + (j + 1) = off + 1 + j by omega]; exact h1, h2⟩
/-- all texts of a slice behind nothing -/
theorem wpSeq_appXt {ops : Array Oper} {Q : Exit → Act → World → Prop} {rest : List Oper} {o : Oper} {a : Act} {w : World} (P : Nat → Prop) (s x : Operand) (base : Nat) (l : List Bs) (ad : Option Addr) (n c : Nat) (hr : StaL P w (.slice ad n c) l) (hl : l.length < 1000000) (hbase : base ≤ w.heap.size)
    (ho : o.op = .call { callee := .builtin .append, args := #[s, x], argTypes := #[25, 25] }) (hs : a.eval s = .slice none 0 0) (hx : a.eval x = .slice ad n c) (hgd : o.guard = none)
    (h : ∀ v' w' us, us.length = l.length → (∀ j u, us[j]? = some u → Sta P w (fun W => Reads W u (l.getD j []))) → OwnX w' base v' us → Below w.heap.size w w' → wpList Tryd.prog ops Q rest (a.put o.dst v') w') : wpList Tryd.prog ops Q (o :: rest) a w := by
  obtain ⟨i0, hi, hz0, hz1, hz2⟩ := info_parts Tryd.infobsJ
  obtain ⟨ad', c', hv, hc, hn, hat⟩ := id hr
  simp only [Value.slice.injEq] at hv
  obtain ⟨rfl, rfl, rfl⟩ := hv
  cases ad with
  | none =>
    have h0 : l = [] := List.eq_nil_of_length_eq_zero (by have := hn rfl; omega)
    subst h0
    have hc0 := hn rfl
    subst hc0
    exact wpList_append_own_none hgd s x 25 ho base 22 i0 1 Tryd.underlying25 hi (.slice none 0 0) 0 [] hs (World.ownsRow_nil _ _ _ _) hx (h (.slice none 0 0) w [] rfl (fun j u hj => by simp at hj) (OwnX.nil _ _) (Below.refl _ _))
  | some ad =>
    obtain ⟨us, hul, hu⟩ : ∃ us : List Value, us.length = l.length ∧ ∀ j u, us[j]? = some u → w.cell? (ad.add j) = some u ∧ Sta P w (fun W => Reads W u (l.getD j [])) := by
      by_cases hp : 0 < l.length
      · obtain ⟨b, off, hb, _, hy⟩ := hat hp
        simp only [Option.some.injEq] at hb
        subst hb
        obtain ⟨us, h1, h2⟩ := rowsXs P w b l off hy
        exact ⟨us, h1, fun j u hj => by rw [Addr.add_mid]; exact h2 j u hj⟩
      · have h0 : l = [] := List.eq_nil_of_length_eq_zero (by omega)
        subst h0
        exact ⟨[], rfl, fun j u hj => by simp at hj⟩
    have h1 : ∀ u ∈ us, u.oneCell' = true := fun u hu2 => by
      obtain ⟨j, hj, rfl⟩ := List.getElem_of_mem hu2
      obtain ⟨a, n, c, hv⟩ := (hu j _ (List.getElem?_eq_getElem hj)).2.now.form
      rw [hv]; rfl
    refine wpList_append_own_at w hgd s x 25 ho base 22 i0 (.slice none 0 0) 1 24 Tryd.underlying25 hi hz0 hz1 hz2 rfl (by decide) (.slice none 0 0) 0 [] hs (World.ownsRow_nil _ _ _ _) ad l.length c us hx (by rw [hul, Nat.mul_one]) (fun j u hj => (hu j u hj).1) h1 (by unfold maxLen; omega) (by omega) hbase ?_
    intro v' w' h2 h3 _ _
    refine h v' w' us hul (fun j u hj => (hu j u hj).2) ?_ ⟨h3.os, h3.tape, h3.output, h3.size, fun k hk => h3.block k hk (fun e => by cases e)⟩
    unfold OwnX
    rw [hul]
    rw [Nat.zero_add, List.nil_append] at h2
    exact h2
set_option maxRecDepth 100000 in
set_option maxHeartbeats 8000000 in
theorem nRestart_st (P : Nat → Prop) (vl vm : Value) (l m : List Bs) (n : Nat) (hml : m.length < 1000000) (hsz : (∀ x ∈ m, chkX x = 0) → sizeL m < 1000000000) (hn : n < 1000000) (w : World) (hl : StaL P w vl l) (hm : StaL P w vm m) : Calls Tryd.prog 58 #[vl, vm, .int .i64 (n : Int)] w fun e w' => ∃ lv, e = .returned (.tuple #[lv, .int .i64 (rsX m n)]) ∧ StaL P w' lv (rsL l m n) ∧ w' = w := by
  obtain ⟨al, nl, cl, hvl⟩ : ∃ a n c, vl = .slice a n c := by obtain ⟨a, c, hv, _⟩ := hl; exact ⟨_, _, _, hv⟩
  obtain ⟨k, HK⟩ : ∃ k, Hid (k = m.length) := ⟨_, rfl⟩
  obtain ⟨am, cm, hvm⟩ : ∃ a c, vm = .slice a k c := by obtain ⟨a, c, hv, _⟩ := hm; rw [← HK.out] at hv; exact ⟨_, _, hv⟩
  subst hvl hvm
  have HRL : Hid (StaL P w (.slice al nl cl) l) := hl
  have HRM : Hid (StaL P w (.slice am k cm) m) := hm
  have HML : Hid (k < 1000000) := by show _ < _; rw [HK.out]; exact hml
  have HFT : Hid ((∀ x ∈ m, chkX x = 0) → Calls Tryd.prog 62 #[.slice am k cm, .int .i64 (n : Int)] w fun e w' => e = .returned (.bool (fit14 m n)) ∧ w' = w) := fun h => nFits_any _ m (hsz h) n hn w hm.now
  obtain ⟨X, HX⟩ : ∃ x, Hid (x = rsX m n) := ⟨_, rfl⟩
  obtain ⟨Y, HY⟩ : ∃ x, Hid (x = rsL l m n) := ⟨_, rfl⟩
  rw [← HX.out, ← HY.out]
  clear hl hm hml hsz hn
  go_enter Tryd.func58, Tryd.ntmps58
  go_wp2
  go_loopw [8] (fun i wr => ∃ j : Nat, j ≤ k ∧ i = .int .i64 (j : Int) ∧ wr = w ∧ Hid (∀ x ∈ m.take j, chkX x = 0)) (fun i _ => k - (intOf i).toNat)
  case atStart => exact ⟨0, by omega, rfl, rfl, by simp [Hid]⟩
  case round =>
    obtain ⟨j, hj, rfl, rfl, HJ⟩ := hrel
    by_cases hlt : j < k
    case neg =>
      have hlk : ¬ ((j : Int) < (k : Int)) := by omega
      have hall : ∀ x ∈ m, chkX x = 0 := by
        have h9 := HJ.out
        rw [List.take_of_length_le (by rw [← HK.out]; omega)] at h9
        exact h9
      have hno : ¬ ∃ x ∈ m, chkX x = 1 := fun ⟨x, hx, e⟩ => by rw [hall x hx] at e; cases e
      have hft := HFT.out hall
      by_cases hf : fit14 m n = true
      · have hX : X = 0 := by rw [HX.out, rsX, if_neg hno, if_pos hf]
        have hY : Y = m := by rw [HY.out, rsL, if_pos (by rw [← HX.out]; exact hX)]
        rw [hf] at hft
        have HF2 : Hid (Calls Tryd.prog 62 #[.slice am k cm, .int .i64 (n : Int)] wr fun e w' => e = .returned (.bool true) ∧ w' = wr) := hft
        subst hX hY
        clear hft hall hno hf
        have tk0 : Hid True := trivial
        go_wp2_with (first
    | (clear tk0; go_at_call 62; refine (HF2.out).mono ?_; rintro e0 y1 ⟨rfl, hy1⟩; subst hy1))
        refine bodyPost_ret (results_tmp2 rfl _ _ _) rfl ?_
        exact ⟨_, rfl, HRM.out, rfl⟩
      · have hX : X = 13 := by rw [HX.out, rsX, if_neg hno, if_neg hf]
        have hY : Y = l := by rw [HY.out, rsL, if_neg (by rw [← HX.out, hX]; decide)]
        rw [Bool.not_eq_true] at hf
        rw [hf] at hft
        have HF2 : Hid (Calls Tryd.prog 62 #[.slice am k cm, .int .i64 (n : Int)] wr fun e w' => e = .returned (.bool false) ∧ w' = wr) := hft
        subst hX hY
        clear hft hall hno hf
        have tk0 : Hid True := trivial
        go_wp2_with (first
    | (clear tk0; go_at_call 62; refine (HF2.out).mono ?_; rintro e0 y1 ⟨rfl, hy1⟩; subst hy1))
        refine bodyPost_ret (results_tmp2 rfl _ _ _) rfl ?_
        exact ⟨_, rfl, HRL.out, rfl⟩
    case pos =>
      have hlk : (j : Int) < (k : Int) := by omega
      have k0 : (0 : Int) ≤ (j : Int) := by omega
      have f1 : IntKind.i64.wrap ((j : Int) + 1) = (j : Int) + 1 := by rw [IntKind.wrap_i64]; have := HML.out; omega
      have hjl : j < m.length := by rw [← HK.out]; exact hlt
      obtain ⟨b, off, vj, rfl, hc, hrj⟩ := HRM.out.now.atJ hjl
      have hck := nCheck_any vj (m.getD j []) wr hrj
      obtain ⟨aj, nj, cj, hvj⟩ := hrj.form
      subst hvj
      have hmem : m.getD j [] ∈ m := by rw [List.getD_eq_getElem?_getD, List.getElem?_eq_getElem hjl]; exact List.getElem_mem hjl
      have htk : m.take (j + 1) = m.take j ++ [m.getD j []] := by rw [List.take_add_one, List.getElem?_eq_getElem hjl, List.getD_eq_getElem?_getD, List.getElem?_eq_getElem hjl]; rfl
      rcases chk_or (m.getD j []) with h0 | h0
      · rw [h0] at hck
        have HCK : Hid (Calls Tryd.prog 21 #[.slice aj nj cj] wr fun e w' => e = .returned (.int .i64 0) ∧ w' = wr) := hck
        have HJ2 : Hid (∀ x ∈ m.take (j + 1), chkX x = 0) := fun x hx => by
          rw [htk] at hx
          rcases List.mem_append.1 hx with hx | hx
          · exact HJ.out x hx
          · rw [List.mem_singleton.1 hx]; exact h0
        clear hck hmem htk hrj
        have tk0 : Hid True := trivial
        go_wp2_with (first
    | (clear tk0; go_at_call 21; refine (HCK.out).mono ?_; rintro e0 y1 ⟨rfl, hy1⟩; subst hy1))
        go_roundw
        case rel => exact ⟨j + 1, by omega, by simp, trivial, HJ2⟩
        case measure => simp [intOf]; omega
      · rw [h0] at hck
        have HCK : Hid (Calls Tryd.prog 21 #[.slice aj nj cj] wr fun e w' => e = .returned (.int .i64 1) ∧ w' = wr) := hck
        have hX : X = 1 := by rw [HX.out, rsX, if_pos ⟨_, hmem, h0⟩]
        have hY : Y = l := by rw [HY.out, rsL, if_neg (by rw [← HX.out, hX]; decide)]
        subst hX hY
        clear hck hmem htk hrj
        have tk0 : Hid True := trivial
        go_wp2_with (first
    | (clear tk0; go_at_call 21; refine (HCK.out).mono ?_; rintro e0 y1 ⟨rfl, hy1⟩; subst hy1))
        refine bodyPost_ret (results_tmp2 rfl _ _ _) rfl ?_
        exact ⟨_, rfl, HRL.out, rfl⟩
end Go.Proofs.YtfleaipdoiiiiaaDoor
/- The walk of the statements' do, over what journal's functions do (layer 14). -/
namespace Go.Proofs.YtfleaipdoiiiiaaDoor
open Go.RowKit
set_option maxRecDepth 100000
/-- an act -/
structure OpT where
  ag : Bool
  b : Bs
  l : List Bs
def doX (J : JnT) (D : DkT) (o : OpT) : Int := if o.ag then rstX J D o.l else appX J D o.b
def doD (J : JnT) (D : DkT) (o : OpT) : DkT := if o.ag then rstD J D o.l else appD J D o.b
def doJ (J : JnT) (D : DkT) (o : OpT) : JnT := if o.ag then rstJ J D o.l else appJ J D o.b
def doF (l : List Bs) (o : OpT) (n : Nat) : Int := if o.ag then rsX o.l n else apX l o.b n
def doL (l : List Bs) (o : OpT) (n : Nat) : List Bs := if o.ag then rsL l o.l n else apL l o.b n
/-- an act that is not more than is waited for -/
structure okO (o : OpT) : Prop where
  b : o.b.length ≤ 100000
  n : o.l.length ≤ 100000
  l : ∀ x ∈ o.l, x.length ≤ 100000
  s : sizeL o.l < 100000000
theorem Un.lt14 {Lg : World → Nat → (Nat → Prop) → Nat → Nat → JnT → Prop} (O : JnOps Lg) {w : World} {gd lg : Nat} {P Q : Nat → Prop} {D : DkT} {J : JnT} (h : Pk Lg w gd lg P Q D J) : ∀ k, Un P Q k → k < w.heap.size := h.lt O
theorem info_op14 (x y z : Value) : (Tryd.prog.info? 50).map (·.size) = some [x, y, z].length := by kernel_rfl
end Go.Proofs.YtfleaipdoiiiiaaDoor
/- The walk of the statements' few (layer 14). -/
namespace Go.Proofs.YtfleaipdoiiiiaaDoor
open Go.RowKit
set_option maxRecDepth 100000
/-- a slice of acts -/
def ROps (w : World) (v : Value) (os : List OpT) : Prop :=
  ∃ ad cap, v = .slice ad os.length cap ∧ os.length ≤ cap ∧ (0 < os.length → ∃ b off, ad = some ⟨b, off, none⟩ ∧ ∀ j, j < os.length → ∃ vB vL, w.cell? ⟨b, off + j * 3, none⟩ = some (.bool (os.getD j ⟨false, [], []⟩).ag) ∧ w.cell? ⟨b, off + j * 3 + 1, none⟩ = some vB ∧ w.cell? ⟨b, off + j * 3 + 2, none⟩ = some vL ∧ Reads w vB (os.getD j ⟨false, [], []⟩).b ∧ ReadsL w vL (os.getD j ⟨false, [], []⟩).l)
theorem ROps.below {w w' : World} {v : Value} {os : List OpT} (h : ROps w v os) (hb : Below w.heap.size w w') : ROps w' v os := by
  obtain ⟨ad, cap, h1, h2, h3⟩ := h
  refine ⟨ad, cap, h1, h2, fun hp => ?_⟩
  obtain ⟨b, off, h4, h5⟩ := h3 hp
  refine ⟨b, off, h4, fun j hj => ?_⟩
  obtain ⟨vB, vL, c0, c1, c2, r1, r2⟩ := h5 j hj
  have up : ∀ k u, w.cell? ⟨b, k, none⟩ = some u → w'.cell? ⟨b, k, none⟩ = some u := fun k u hu => by rw [hb.cell (p := ⟨b, k, none⟩) (block_lt_of_cell hu)]; exact hu
  exact ⟨vB, vL, up _ _ c0, up _ _ c1, up _ _ c2, r1.below hb, r2.below hb⟩
theorem ROps.at {w : World} {ad : Option Addr} {n c : Nat} {os : List OpT} (h : ROps w (.slice ad n c) os) {j : Nat} (hj : j < os.length) : ∃ b off vB vL, ad = some ⟨b, off, none⟩ ∧ w.cell? ⟨b, off + j * 3, none⟩ = some (.bool (os.getD j ⟨false, [], []⟩).ag) ∧ w.cell? ⟨b, off + j * 3 + 1, none⟩ = some vB ∧ w.cell? ⟨b, off + j * 3 + 2, none⟩ = some vL ∧ Reads w vB (os.getD j ⟨false, [], []⟩).b ∧ ReadsL w vL (os.getD j ⟨false, [], []⟩).l := by
  obtain ⟨ad', cap, h1, h2, h3⟩ := h
  simp only [Value.slice.injEq] at h1
  obtain ⟨rfl, _, _⟩ := h1
  obtain ⟨b, off, h4, h5⟩ := h3 (Nat.lt_of_le_of_lt (Nat.zero_le _) hj)
  obtain ⟨vB, vL, r⟩ := h5 j hj
  exact ⟨b, off, vB, vL, h4, r⟩
def sumB (l : List Bs) : Nat := (l.map List.length).sum
def wtO (o : OpT) : Nat := o.b.length + o.l.length + sumB o.l
def sumO (os : List OpT) : Nat := (os.map wtO).sum
theorem sumB_snoc (l : List Bs) (x : Bs) : sumB (l ++ [x]) = sumB l + x.length := by simp [sumB]
theorem sumO_snoc (l : List OpT) (x : OpT) : sumO (l ++ [x]) = sumO l + wtO x := by simp [sumO]
theorem sumB_take {l : List Bs} {k : Nat} (hk : k < l.length) : sumB (l.take (k + 1)) = sumB (l.take k) + (l.getD k []).length := by
  rw [List.take_add_one, List.getElem?_eq_getElem hk, List.getD_eq_getElem?_getD, List.getElem?_eq_getElem hk]
  exact sumB_snoc _ _
theorem sumO_take {l : List OpT} {k : Nat} (hk : k < l.length) : sumO (l.take (k + 1)) = sumO (l.take k) + wtO (l.getD k ⟨false, [], []⟩) := by
  rw [List.take_add_one, List.getElem?_eq_getElem hk, List.getD_eq_getElem?_getD, List.getElem?_eq_getElem hk]
  exact sumO_snoc _ _
/-- lengths that no machine's memory passes -/
structure szO (o : OpT) : Prop where
  b : o.b.length ≤ 1125899906842624
  n : o.l.length ≤ 1125899906842624
  l : ∀ x ∈ o.l, x.length ≤ 1125899906842624
def FewJ (os : List OpT) (ok : Bool) : Prop := ok = true → os.length ≤ 20 ∧ sumO os ≤ 20000
def FewR (os : List OpT) (e : Ending) : Prop := ∃ ok, e = .returned (.bool ok) ∧ FewJ os ok
theorem idxOp (b off n c k : Nat) (hk : k < n) (f : Operand → Value) (o : Oper) (x y : Operand) (ho : o.op = .indexAddr 43 x y) (hx : f x = .slice (some ⟨b, off, none⟩) n c) (hy : f y = .int .i64 (k : Int)) (w : World) :
    (execOp f o).run Tryd.prog w = .ok (.value (.pointer (some ⟨b, off + k * 3, none⟩))) w := by
  have k0 : (0 : Int) ≤ (k : Int) := by omega
  have k1 : (k : Int) < (n : Int) := by omega
  have hs : (sizeOf 50).run Tryd.prog w = .ok 3 w := by kernel_rfl
  unfold execOp
  rw [ho]
  simp [go_sem, hx, hy, k0, k1, Addr.add_mid, hs]
theorem wpSeq_idxOp {ops : Array Oper} {Q : Exit → Act → World → Prop} {rest : List Oper} {o : Oper} {a : Act} {w : World} (x y : Operand) (b off n c k : Nat) (hk : k < n) (ho : o.op = .indexAddr 43 x y) (hx : a.eval x = .slice (some ⟨b, off, none⟩) n c) (hy : a.eval y = .int .i64 (k : Int)) (hw : Region.wanted o (yielded ops a.tmps) = true)
    (h : wpList Tryd.prog ops Q rest (a.put o.dst (.pointer (some ⟨b, off + k * 3, none⟩))) w) : wpList Tryd.prog ops Q (o :: rest) a w :=
  wpSeq_val _ _ hw (idxOp b off n c k hk _ o x y ho hx hy w) h
set_option maxRecDepth 100000 in
set_option maxHeartbeats 2000000 in
theorem few14_any (v : Value) (os : List OpT) (w : World) (hr : ROps w v os) (hs : ∀ o ∈ os, szO o) : Calls Tryd.prog 27 #[v] w fun e w' => FewR os e ∧ Below w.heap.size w w' := by
  have HR : Hid (ROps w v os) := hr
  have HS : Hid (∀ o ∈ os, szO o) := hs
  obtain ⟨ad, c, hv, _⟩ := hr
  obtain ⟨n, HN⟩ : ∃ n, Hid (n = os.length) := ⟨_, rfl⟩
  rw [← HN.out] at hv
  subst hv
  clear hs
  by_cases hl : 20 < n
  · have q1 : (20 : Int) < (n : Int) := by omega
    go_enter Tryd.func27, Tryd.ntmps27
    go_wp2
    go_ret
    exact ⟨⟨false, rfl, fun h => by cases h⟩, Below.refl _ _⟩
  have q1 : ¬ ((20 : Int) < (n : Int)) := by omega
  have HNB : Hid (n ≤ 20) := by show _ ≤ _; omega
  clear hl
  go_enter Tryd.func27, Tryd.ntmps27
  go_wp2
  clear q1
  go_loopw [3, 4] (fun a i4 wr => ∃ (m i : Nat), a = .int .i64 (m : Int) ∧ i4 = .int .i64 (i : Int) ∧ i ≤ n ∧ m < 9007199254740992 ∧ Hid (m ≤ 20000 → m = sumO (os.take i)) ∧ Hid (Below w.heap.size w wr)) (fun _ i4 _ => n - (intOf i4).toNat)
  case atStart => exact ⟨0, 0, rfl, rfl, Nat.zero_le _, by decide, fun _ => rfl, Below.refl _ _⟩
  case round =>
    obtain ⟨m, i, rfl, rfl, hi, hm, HM, HBB⟩ := hrel
    by_cases hin : i < n
    case neg =>
      have hlk : ¬ ((i : Int) < (n : Int)) := by omega
      by_cases hm2 : m ≤ 20000
      · have q2 : (m : Int) ≤ 20000 := by omega
        have HE : Hid (sumO os ≤ 20000) := by
          have h1 := HM.out hm2
          rw [List.take_of_length_le (by rw [← HN.out]; omega)] at h1
          show _ ≤ _
          omega
        go_wp2
        go_ret
        exact ⟨⟨true, rfl, fun _ => ⟨by rw [← HN.out]; exact HNB.out, HE.out⟩⟩, HBB.out⟩
      · have q2 : ¬ ((m : Int) ≤ 20000) := by omega
        go_wp2
        go_ret
        exact ⟨⟨false, rfl, fun h => by cases h⟩, HBB.out⟩
    case pos =>
      have hlk : (i : Int) < (n : Int) := by omega
      by_cases hm2 : m ≤ 20000
      case neg =>
        have q2 : ¬ ((m : Int) ≤ 20000) := by omega
        go_wp2
        go_ret
        exact ⟨⟨false, rfl, fun h => by cases h⟩, HBB.out⟩
      case pos =>
        have q2 : (m : Int) ≤ 20000 := by omega
        have HIN : Hid (i < n) := hin
        have hio : i < os.length := by rw [← HN.out]; exact hin
        obtain ⟨b, off, vB, vL, rfl, c0, c1, c2, rB, rL⟩ := (HR.out.below HBB.out).at hio
        obtain ⟨o, HO⟩ : ∃ o, Hid (o = os.getD i ⟨false, [], []⟩) := ⟨_, rfl⟩
        rw [← HO.out] at c0 rB rL
        have hmem : o ∈ os := by rw [HO.out, List.getD_eq_getElem?_getD, List.getElem?_eq_getElem hio]; exact List.getElem_mem hio
        have hsz := HS.out o hmem
        have hst := sumO_take hio
        rw [← HO.out] at hst
        obtain ⟨lB, HLB⟩ : ∃ n, Hid (n = o.b.length) := ⟨_, rfl⟩
        obtain ⟨lL, HLL⟩ : ∃ n, Hid (n = o.l.length) := ⟨_, rfl⟩
        have HRL : Hid (ReadsL wr vL o.l) := rL
        obtain ⟨aB, cB, hvB, _⟩ := rB
        obtain ⟨aL, cL, hvL, _⟩ := rL
        rw [← HLB.out] at hvB
        rw [← HLL.out] at hvL
        subst hvB hvL
        have hB := hsz.b
        have hL := hsz.n
        rw [← HLB.out] at hB
        rw [← HLL.out] at hL
        obtain ⟨m1, HM1⟩ : ∃ x, Hid (x = m + lB) := ⟨_, rfl⟩
        obtain ⟨m2, HM2⟩ : ∃ x, Hid (x = m1 + lL) := ⟨_, rfl⟩
        have hm1 := HM1.out
        have hm22 := HM2.out
        have f1 : IntKind.i64.wrap ((m : Int) + (lB : Int)) = (m1 : Int) := aJ HM1.out (by omega)
        have f2 : IntKind.i64.wrap ((m1 : Int) + (lL : Int)) = (m2 : Int) := aJ HM2.out (by omega)
        have f3 : IntKind.i64.wrap ((i : Int) + 1) = (i : Int) + 1 := by rw [IntKind.wrap_i64]; have := HNB.out; omega
        have HST : Hid (m2 + sumB o.l = sumO (os.take (i + 1))) := by
          show _ = _
          rw [hst, ← HM.out hm2, wtO, ← HLB.out, ← HLL.out]
          omega
        have HM2B : Hid (m2 < 4503599627370496) := by show _ < _; omega
        have HSX : Hid (∀ x ∈ o.l, x.length ≤ 1125899906842624) := hsz.l
        have HC1 : Hid (wr.cell? ⟨b, off + i * 3 + 1, none⟩ = some (.slice aB lB cB)) := c1
        have HC2 : Hid (wr.cell? ⟨b, off + i * 3 + 2, none⟩ = some (.slice aL lL cL)) := c2
        have HLM : Hid (lL ≤ 1125899906842624) := hL
        clear hst hsz hB hL hm1 hm22 c0 hmem c1 c2
        go_wp2_with fail
        refine wp_region_held_drew (S := Over (World.drew wr)) (by kernel_rfl) (Over.refl _) ?_
        intro hS
        replace HC1 : Hid ((World.drew wr).cell? ⟨b, off + i * 3 + 1, none⟩ = some (.slice aB lB cB)) := HC1.out
        replace HC2 : Hid ((World.drew wr).cell? ⟨b, off + i * 3 + 2, none⟩ = some (.slice aL lL cL)) := HC2.out
        replace HRL : Hid (ReadsL (World.drew wr) (.slice aL lL cL) o.l) := HRL.out
        replace HBB : Hid (Below w.heap.size w (World.drew wr)) := HBB.out.drew
        change wpAnyH _ _ _ _ _ _ _ _ (World.drew wr)
        generalize World.drew wr = y1 at *
        refine wpAnyH_take (i := 0) (v := .int .i64 (m : Int)) rfl (by kernel_rfl) (by kernel_rfl) (by kernel_rfl) (fun _ _ _ h => h) (Or.inl ⟨by rfl, fun wx hx => by simp [go_sem]⟩) hS ?_
        simp only [Act.put, List.getElem_toArray, List.getElem_cons_zero, List.setIfInBounds_toArray, List.set_cons_zero, List.set_cons_succ]
        refine wpAnyH_take (i := 1) (v := .slice (some ⟨b, off, none⟩) n c) rfl (by kernel_rfl) (by kernel_rfl) (by kernel_rfl) (fun _ _ _ h => h) (Or.inl ⟨by rfl, fun wx hx => by simp [go_sem]⟩) hS ?_
        simp only [Act.put, List.getElem_toArray, List.getElem_cons_succ, List.getElem_cons_zero, List.setIfInBounds_toArray, List.set_cons_zero, List.set_cons_succ]
        refine wpAnyH_take (i := 2) (v := .int .i64 (i : Int)) rfl (by kernel_rfl) (by kernel_rfl) (by kernel_rfl) (fun _ _ _ h => h) (Or.inl ⟨by rfl, fun wx hx => by simp [go_sem]⟩) hS ?_
        simp only [Act.put, List.getElem_toArray, List.getElem_cons_succ, List.getElem_cons_zero, List.setIfInBounds_toArray, List.set_cons_zero, List.set_cons_succ]
        refine wpAnyH_take (i := 3) (v := .pointer (some ⟨b, off + i * 3, none⟩)) rfl (by kernel_rfl) (by kernel_rfl) (by kernel_rfl) (fun _ _ _ h => h) (Or.inl ⟨by rfl, fun wx hx => by exact idxOp b off n c i HIN.out _ _ _ _ rfl rfl rfl _⟩) hS ?_
        simp only [Act.put, List.getElem_toArray, List.getElem_cons_succ, List.getElem_cons_zero, List.setIfInBounds_toArray, List.set_cons_zero, List.set_cons_succ]
        refine wpAnyH_take (i := 4) (v := .pointer (some ⟨b, off + i * 3 + 1, none⟩)) rfl (by kernel_rfl) (by kernel_rfl) (by kernel_rfl) (fun _ _ _ h => h) (Or.inl ⟨by rfl, fun wx hx => by simp [go_sem]⟩) hS ?_
        simp only [Act.put, List.getElem_toArray, List.getElem_cons_succ, List.getElem_cons_zero, List.setIfInBounds_toArray, List.set_cons_zero, List.set_cons_succ]
        refine wpAnyH_take (i := 5) (v := .slice aB lB cB) rfl (by kernel_rfl) (by kernel_rfl) (by kernel_rfl) (fun _ _ _ h => h) (Or.inl ⟨by rfl, fun wx hx => by (have hc := below_cell hx HC1.out; simp [go_sem, hc])⟩) hS ?_
        simp only [Act.put, List.getElem_toArray, List.getElem_cons_succ, List.getElem_cons_zero, List.setIfInBounds_toArray, List.set_cons_zero, List.set_cons_succ]
        refine wpAnyH_take (i := 6) (v := .int .i64 (lB : Int)) rfl (by kernel_rfl) (by kernel_rfl) (by kernel_rfl) (fun _ _ _ h => h) (Or.inl ⟨by rfl, fun wx hx => by simp [go_sem]⟩) hS ?_
        simp only [Act.put, List.getElem_toArray, List.getElem_cons_succ, List.getElem_cons_zero, List.setIfInBounds_toArray, List.set_cons_zero, List.set_cons_succ]
        refine wpAnyH_take (i := 7) (v := .int .i64 (m1 : Int)) rfl (by kernel_rfl) (by kernel_rfl) (by kernel_rfl) (fun _ _ _ h => h) (Or.inl ⟨by rfl, fun wx hx => by simp [go_sem, f1]⟩) hS ?_
        simp only [Act.put, List.getElem_toArray, List.getElem_cons_succ, List.getElem_cons_zero, List.setIfInBounds_toArray, List.set_cons_zero, List.set_cons_succ]
        refine wpAnyH_take (i := 8) (v := .slice (some ⟨b, off, none⟩) n c) rfl (by kernel_rfl) (by kernel_rfl) (by kernel_rfl) (fun _ _ _ h => h) (Or.inl ⟨by rfl, fun wx hx => by simp [go_sem]⟩) hS ?_
        simp only [Act.put, List.getElem_toArray, List.getElem_cons_succ, List.getElem_cons_zero, List.setIfInBounds_toArray, List.set_cons_zero, List.set_cons_succ]
        refine wpAnyH_take (i := 9) (v := .int .i64 (i : Int)) rfl (by kernel_rfl) (by kernel_rfl) (by kernel_rfl) (fun _ _ _ h => h) (Or.inl ⟨by rfl, fun wx hx => by simp [go_sem]⟩) hS ?_
        simp only [Act.put, List.getElem_toArray, List.getElem_cons_succ, List.getElem_cons_zero, List.setIfInBounds_toArray, List.set_cons_zero, List.set_cons_succ]
        refine wpAnyH_take (i := 10) (v := .pointer (some ⟨b, off + i * 3, none⟩)) rfl (by kernel_rfl) (by kernel_rfl) (by kernel_rfl) (fun _ _ _ h => h) (Or.inl ⟨by rfl, fun wx hx => by exact idxOp b off n c i HIN.out _ _ _ _ rfl rfl rfl _⟩) hS ?_
        simp only [Act.put, List.getElem_toArray, List.getElem_cons_succ, List.getElem_cons_zero, List.setIfInBounds_toArray, List.set_cons_zero, List.set_cons_succ]
        refine wpAnyH_take (i := 11) (v := .pointer (some ⟨b, off + i * 3 + 2, none⟩)) rfl (by kernel_rfl) (by kernel_rfl) (by kernel_rfl) (fun _ _ _ h => h) (Or.inl ⟨by rfl, fun wx hx => by simp [go_sem]⟩) hS ?_
        simp only [Act.put, List.getElem_toArray, List.getElem_cons_succ, List.getElem_cons_zero, List.setIfInBounds_toArray, List.set_cons_zero, List.set_cons_succ]
        refine wpAnyH_take (i := 12) (v := .slice aL lL cL) rfl (by kernel_rfl) (by kernel_rfl) (by kernel_rfl) (fun _ _ _ h => h) (Or.inl ⟨by rfl, fun wx hx => by (have hc := below_cell hx HC2.out; simp [go_sem, hc])⟩) hS ?_
        simp only [Act.put, List.getElem_toArray, List.getElem_cons_succ, List.getElem_cons_zero, List.setIfInBounds_toArray, List.set_cons_zero, List.set_cons_succ]
        refine wpAnyH_take (i := 13) (v := .int .i64 (lL : Int)) rfl (by kernel_rfl) (by kernel_rfl) (by kernel_rfl) (fun _ _ _ h => h) (Or.inl ⟨by rfl, fun wx hx => by simp [go_sem]⟩) hS ?_
        simp only [Act.put, List.getElem_toArray, List.getElem_cons_succ, List.getElem_cons_zero, List.setIfInBounds_toArray, List.set_cons_zero, List.set_cons_succ]
        refine wpAnyH_take (i := 14) (v := .int .i64 (m2 : Int)) rfl (by kernel_rfl) (by kernel_rfl) (by kernel_rfl) (fun _ _ _ h => h) (Or.inl ⟨by rfl, fun wx hx => by simp [go_sem, f2]⟩) hS ?_
        simp only [Act.put, List.getElem_toArray, List.getElem_cons_succ, List.getElem_cons_zero, List.setIfInBounds_toArray, List.set_cons_zero, List.set_cons_succ]
        refine wpAnyH_take (i := 15) (v := .int .i64 (m2 : Int)) rfl (by kernel_rfl) (by kernel_rfl) (by kernel_rfl) (fun _ _ _ h => h) (Or.inl ⟨by rfl, fun wx hx => by simp [go_sem]⟩) hS ?_
        simp only [Act.put, List.getElem_toArray, List.getElem_cons_succ, List.getElem_cons_zero, List.setIfInBounds_toArray, List.set_cons_zero, List.set_cons_succ]
        refine wpAnyH_done (by kernel_rfl) ?_ _
        clear hS
        go_wp2
        go_loopw [3, 5] (fun a k5 wr => ∃ (q k : Nat), a = .int .i64 (q : Int) ∧ k5 = .int .i64 (k : Int) ∧ k ≤ lL ∧ q < 9007199254740992 ∧ Hid (q ≤ 20000 → q = m2 + sumB (o.l.take k)) ∧ wr = y1) (fun _ k5 _ => lL - (intOf k5).toNat)
        case atStart => exact ⟨m2, 0, rfl, rfl, Nat.zero_le _, by have := HM2B.out; omega, fun _ => rfl, rfl⟩
        case round =>
          obtain ⟨q, k, rfl, rfl, hk, hq, HQ, rfl⟩ := hrel
          have c2 := HC2.out
          by_cases hkl : k < lL
          case neg =>
            have hkk : ¬ ((k : Int) < (lL : Int)) := by omega
            have HQ2 : Hid (q ≤ 20000 → q = sumO (os.take (i + 1))) := fun h => by
              have h1 := HQ.out h
              rw [List.take_of_length_le (by rw [← HLL.out]; omega), HST.out] at h1
              exact h1
            have tk0 : Hid True := trivial
            go_wp2_with (first
    | (clear tk0; with_reducible refine wpSeq_idxOp (.tmp 35) (.tmp 36) b off n c i HIN.out ?_ ?_ ?_ ?_ ?_
       · rfl
       · rfl
       · rfl
       · rfl))
            go_roundw
            case rel => exact ⟨q, i + 1, rfl, by simp, by omega, hq, HQ2, HBB⟩
            case measure => simp [intOf]; omega
          case pos =>
            have hkk : (k : Int) < (lL : Int) := by omega
            by_cases hq2 : q ≤ 20000
            case neg =>
              have q3 : ¬ ((q : Int) ≤ 20000) := by omega
              have HQ2 : Hid (q ≤ 20000 → q = sumO (os.take (i + 1))) := fun h => absurd h hq2
              have tk0 : Hid True := trivial
              go_wp2_with (first
    | (clear tk0; with_reducible refine wpSeq_idxOp (.tmp 35) (.tmp 36) b off n c i HIN.out ?_ ?_ ?_ ?_ ?_
       · rfl
       · rfl
       · rfl
       · rfl))
              go_roundw
              case rel => exact ⟨q, i + 1, rfl, by simp, by omega, hq, HQ2, HBB⟩
              case measure => simp [intOf]; omega
            case pos =>
              have q3 : (q : Int) ≤ 20000 := by omega
              have k0 : (0 : Int) ≤ (k : Int) := by omega
              have hkol : k < o.l.length := by rw [← HLL.out]; exact hkl
              obtain ⟨b2, off2, vj, rfl, hcj, hrj⟩ := HRL.out.atJ hkol
              obtain ⟨lx, HLX⟩ : ∃ n, Hid (n = (o.l.getD k []).length) := ⟨_, rfl⟩
              have hxm := HSX.out (o.l.getD k []) (by rw [List.getD_eq_getElem?_getD, List.getElem?_eq_getElem hkol]; exact List.getElem_mem hkol)
              rw [← HLX.out] at hxm
              obtain ⟨aj, cj, hvj, _⟩ := hrj
              rw [← HLX.out] at hvj
              subst hvj
              obtain ⟨q2, HQQ⟩ : ∃ x, Hid (x = q + lx) := ⟨_, rfl⟩
              have hqq := HQQ.out
              have f4 : IntKind.i64.wrap ((q : Int) + (lx : Int)) = (q2 : Int) := aJ HQQ.out (by omega)
              have f5 : IntKind.i64.wrap ((k : Int) + 1) = (k : Int) + 1 := by rw [IntKind.wrap_i64]; have := HLM.out; omega
              have HQ3 : Hid (q2 ≤ 20000 → q2 = m2 + sumB (o.l.take (k + 1))) := fun _ => by
                rw [sumB_take hkol, ← HLX.out, hqq, HQ.out hq2]
                omega
              have hq9 : q2 < 9007199254740992 := by omega
              clear hxm hqq
              have tk0 : Hid True := trivial
              have tk1 : Hid True := trivial
              go_wp2_with (first
    | (clear tk0; with_reducible refine wpSeq_idxOp (.tmp 35) (.tmp 36) b off n c i HIN.out ?_ ?_ ?_ ?_ ?_
       · rfl
       · rfl
       · rfl
       · rfl)
    | (clear tk1; with_reducible refine wpSeq_idxOp (.tmp 49) (.tmp 50) b off n c i HIN.out ?_ ?_ ?_ ?_ ?_
       · rfl
       · rfl
       · rfl
       · rfl))
              go_roundw
              case rel => exact ⟨q2, k + 1, by trivial, by simp, by omega, hq9, HQ3, trivial⟩
              case measure => simp [intOf]; omega
end Go.Proofs.YtfleaipdoiiiiaaDoor
/- Plain: an act by the log, and by the reference (layer 14). -/
namespace Go.Proofs.YtfleaipdoiiiiaaDoor
open Go.RowKit
set_option maxRecDepth 100000
theorem fit_iff (l : List Bs) (n : Nat) : fit14 l n = true ↔ 1 + secL l ≤ n / 2 := by
  unfold fit14
  rw [decide_eq_true_iff, sizeL_eq]
  omega
theorem do_app {D : DkT} {J : JnT} (h : Log D J) (x : Bs) : appX J D x = apX J.l x (sizeD D) ∧ Log (appD J D x) (appJ J D x) ∧ (appJ J D x).l = apL J.l x (sizeD D) ∧ sizeD (appD J D x) = sizeD D ∧ appX J D x ≠ 14 ∧ (appJ J D x).gen = J.gen ∧ (appJ J D x).k = J.k := by
  by_cases he : appE J D x = 0
  · obtain ⟨a1, a2, a3, a4⟩ := h.app he
    have hr := (app_ref D J x).1 he
    have hf : fit14 (J.l ++ [x]) (sizeD D) = true := decide_eq_true hr.2
    have hx : apX J.l x (sizeD D) = 0 := by rw [apX, if_neg hr.1, if_pos hf]
    refine ⟨by rw [a1, hx], a3, ?_, a4, by rw [a1]; decide, ?_, ?_⟩
    · rw [appJ, if_pos he, apL, if_pos hx]
    · rw [appJ, if_pos he]
    · rw [appJ, if_pos he]
  · have hX : appX J D x = appE J D x := by rw [appX, if_neg he]
    have hD : appD J D x = D := by rw [appD, if_neg he]
    have hJ : appJ J D x = J := by rw [appJ, if_neg he]
    have hx : apX J.l x (sizeD D) = appE J D x := by
      unfold apX
      by_cases hc : chkX x = 1
      · rw [if_pos hc]
        unfold appE
        rw [if_pos hc]
      · have hf : ¬ fit14 (J.l ++ [x]) (sizeD D) = true := fun hf => he ((app_ref D J x).2 ⟨hc, of_decide_eq_true hf⟩)
        rw [if_neg hc, if_neg hf]
        unfold appE at he ⊢
        rw [if_neg hc] at he ⊢
        by_cases hs : hsD D < 1 + secL J.l + secR x.length
        · rw [if_pos hs]
        · rw [if_neg hs] at he; exact absurd rfl he
    have hn : appE J D x ≠ 14 := by
      unfold appE
      split
      · decide
      · split <;> decide
    rw [hX, hD, hJ, hx]
    exact ⟨rfl, h, by rw [apL, hx, if_neg he], rfl, hn, rfl, rfl⟩
theorem do_rst {D : DkT} {J : JnT} (h : Log D J) (hg : J.gen + 1 < 18446744073709551616) (m : List Bs) : rstX J D m = rsX m (sizeD D) ∧ Log (rstD J D m) (rstJ J D m) ∧ (rstJ J D m).l = rsL J.l m (sizeD D) ∧ sizeD (rstD J D m) = sizeD D ∧ rstX J D m ≠ 14 ∧ (rstJ J D m).gen = (if rstX J D m = 0 then J.gen + 1 else J.gen) := by
  have hE : rstE D m = rsX m (sizeD D) := by
    unfold rstE rsX
    by_cases hc : ∃ x ∈ m, chkX x = 1
    · rw [if_pos hc, if_pos hc]
    · rw [if_neg hc, if_neg hc]
      by_cases hf : fit14 m (sizeD D) = true
      · rw [if_pos hf, if_neg]
        have := (fit_iff m (sizeD D)).1 hf
        unfold hsD
        omega
      · rw [if_neg hf, if_pos]
        have : ¬ 1 + secL m ≤ sizeD D / 2 := fun h => hf ((fit_iff m (sizeD D)).2 h)
        unfold hsD
        omega
  by_cases he : rstE D m = 0
  · obtain ⟨a1, a2, a3, a4⟩ := h.rst hg he
    have hx : rsX m (sizeD D) = 0 := by rw [← hE]; exact he
    refine ⟨by rw [a1, hx], a2, ?_, a3, by rw [a1]; decide, ?_⟩
    · rw [rstJ, if_pos he, rsL, if_pos hx]
    · rw [rstJ, if_pos he, if_pos a1]
  · have hX : rstX J D m = rstE D m := by rw [rstX, if_neg he]
    have hD : rstD J D m = D := by rw [rstD, if_neg he]
    have hJ : rstJ J D m = J := by rw [rstJ, if_neg he]
    have hn : rstE D m ≠ 14 := by
      unfold rstE
      split
      · decide
      · split <;> decide
    rw [hX, hD, hJ, if_neg he]
    exact ⟨hE, h, by rw [rsL, ← hE, if_neg he], rfl, hn, rfl⟩
/-- an act by the log is what the reference says, and leaves a log -/
theorem do_ref {D : DkT} {J : JnT} (h : Log D J) (hg : J.gen + 1 < 18446744073709551616) (o : OpT) : doX J D o = doF J.l o (sizeD D) ∧ Log (doD J D o) (doJ J D o) ∧ (doJ J D o).l = doL J.l o (sizeD D) ∧ sizeD (doD J D o) = sizeD D ∧ doX J D o ≠ 14 ∧ (doJ J D o).gen = (if doX J D o = 0 ∧ o.ag = true then J.gen + 1 else J.gen) := by
  cases hag : o.ag with
  | true =>
    obtain ⟨a1, a2, a3, a4, a5, a6⟩ := do_rst h hg o.l
    rw [show doX J D o = rstX J D o.l from by rw [doX, hag]; rfl, show doF J.l o (sizeD D) = rsX o.l (sizeD D) from by rw [doF, hag]; rfl, show doL J.l o (sizeD D) = rsL J.l o.l (sizeD D) from by rw [doL, hag]; rfl, show doD J D o = rstD J D o.l from by rw [doD, hag]; rfl, show doJ J D o = rstJ J D o.l from by rw [doJ, hag]; rfl]
    refine ⟨a1, a2, a3, a4, a5, ?_⟩
    rw [a6]
    by_cases h0 : rstX J D o.l = 0
    · rw [if_pos h0, if_pos ⟨h0, rfl⟩]
    · rw [if_neg h0, if_neg (fun h => h0 h.1)]
  | false =>
    obtain ⟨a1, a2, a3, a4, a5, a6, _⟩ := do_app h o.b
    rw [show doX J D o = appX J D o.b from by rw [doX, hag]; rfl, show doF J.l o (sizeD D) = apX J.l o.b (sizeD D) from by rw [doF, hag]; rfl, show doL J.l o (sizeD D) = apL J.l o.b (sizeD D) from by rw [doL, hag]; rfl, show doD J D o = appD J D o.b from by rw [doD, hag]; rfl, show doJ J D o = appJ J D o.b from by rw [doJ, hag]; rfl]
    exact ⟨a1, a2, a3, a4, a5, by rw [a6, if_neg (fun h => by cases h.2)]⟩
theorem sizeL_sum : ∀ (l : List Bs), sizeL l ≤ sumB l + 120 * l.length
  | [] => Nat.le_refl _
  | x :: l => by
    have h := sizeL_sum l
    show 64 * secR x.length + sizeL l ≤ x.length + sumB l + 120 * (l.length + 1)
    unfold secR
    omega
theorem sumB_mem : ∀ (l : List Bs), ∀ x ∈ l, x.length ≤ sumB l
  | [], x, hx => by cases hx
  | y :: l, x, hx => by
    show x.length ≤ y.length + sumB l
    rcases List.mem_cons.1 hx with rfl | hx
    · omega
    · have := sumB_mem l x hx; omega
theorem sumO_mem : ∀ (l : List OpT), ∀ o ∈ l, wtO o ≤ sumO l
  | [], o, ho => by cases ho
  | p :: l, o, ho => by
    show wtO o ≤ wtO p + sumO l
    rcases List.mem_cons.1 ho with rfl | ho
    · omega
    · have := sumO_mem l o ho; omega
/-- acts that are few are not more than is waited for -/
theorem few_ok {os : List OpT} (h : sumO os ≤ 20000) : ∀ o ∈ os, okO o := fun o ho => by
  have h1 := sumO_mem os o ho
  unfold wtO at h1
  have h2 := sizeL_sum o.l
  exact ⟨by omega, by omega, fun x hx => by have := sumB_mem o.l x hx; omega, by omega⟩
end Go.Proofs.YtfleaipdoiiiiaaDoor
/- JournalDoes, over what journal's functions do (layer 14). -/
namespace Go.Proofs.YtfleaipdoiiiiaaDoor
open Go.RowKit
set_option maxRecDepth 100000
set_option maxRecDepth 100000 in
set_option maxHeartbeats 3000000 in
theorem dkSize_pure {w : World} {g : Nat} {P : Nat → Prop} {D : DkT} (h : DkIs w g P D) : Calls Tryd.prog 29 #[.pointer (some ⟨g, 0, none⟩)] w fun r w' => r = .returned (.int .i64 (sizeD D : Int)) ∧ w' = w := by
  obtain ⟨gs, vw, fu, lf, hm, hP⟩ := h
  clear hP
  obtain ⟨n, HN⟩ : ∃ n, Hid (n = sizeD D) := ⟨_, rfl⟩
  have c0 : w.cell? ⟨g, 0, none⟩ = some (.slice (some ⟨gs, 0, none⟩) n n) := by rw [hm.me.cell 0, HN.out]; rfl
  rw [← HN.out]
  clear hm
  go_enter Tryd.func29, Tryd.ntmps29
  go_wp2
  go_ret
  exact ⟨rfl, rfl⟩
set_option maxRecDepth 100000 in
set_option maxHeartbeats 3000000 in
theorem dkDump_b {w : World} {g : Nat} {P : Nat → Prop} {D : DkT} (h : DkIs w g P D) (hw2 : D.wait.length ≤ 200) : Calls Tryd.prog 30 #[.pointer (some ⟨g, 0, none⟩)] w fun r w' => ∃ v, r = .returned v ∧ Reads w' v (dumpD D) ∧ Below w.heap.size w w' := by
  obtain ⟨gs, vw, fu, lf, hm, hP⟩ := h
  subst hP
  obtain ⟨n, HN⟩ : ∃ n, Hid (n = sizeD D) := ⟨_, rfl⟩
  obtain ⟨aw, cw, hvw⟩ := hm.wt.form
  obtain ⟨nw, HNW⟩ : ∃ n, Hid (n = D.wait.length) := ⟨_, rfl⟩
  rw [← HNW.out] at hvw
  subst hvw
  obtain ⟨dn, HDN⟩ : ∃ b, Hid (b = D.down) := ⟨_, rfl⟩
  have HM : Hid (DkM w g gs (.slice aw nw cw) fu lf D) := hm
  have HME : Hid (Blk w g [.slice (some ⟨gs, 0, none⟩) n n, .slice aw nw cw, .bool dn, .bool fu, .int .i64 lf] 85) := by have h9 := hm.me; rw [dkC, ← HN.out, ← HDN.out] at h9; exact h9
  have c0 : w.cell? ⟨g, 0, none⟩ = some (.slice (some ⟨gs, 0, none⟩) n n) := HME.out.cell 0
  have HW2 : Hid (nw ≤ 200) := by show _ ≤ _; rw [HNW.out]; exact hw2
  have HOK : Hid (okD D) := hm.ok
  obtain ⟨N, HNN⟩ : ∃ N : Nat, Hid (N = 64 * n) := ⟨_, rfl⟩
  have HSL : Hid (D.safe.length = 64 * n ∧ n ≤ 16384) := by rw [HN.out]; exact ⟨hm.ok.size.1, hm.ok.size.2.2⟩
  have HMK : Hid (N ≤ N ∧ N < 281474976710600) := ⟨Nat.le_refl _, by have h1 := HNN.out; have h2 := HSL.out.2; omega⟩
  clear hm hw2
  have f1 : IntKind.i64.wrap ((n : Int) * 64) = (N : Int) := by rw [IntKind.wrap_i64]; have h1 := HNN.out; have h2 := HSL.out.2; omega
  go_enter Tryd.func30, Tryd.ntmps30
  have tk0 : Hid True := trivial
  go_wp2_with (first
    | (clear tk0; with_reducible refine wpSeq_make (.tmp 12) (.tmp 12) N N HMK.out.1 HMK.out.2 ?_ ?_ ?_ ?_ ?_
       · rfl
       · rfl
       · rfl
       · rfl
       intro gb y1 z hz hge hzb hzl
       have HGE : Hid (w.heap.size ≤ gb) := hge
       have HBZ : Hid (Blk y1 gb (cb z) 5) := hzb
       have HBW : Hid (Below w.heap.size w y1) := hzl
       have HZL : Hid (z.length = 64 * n) := by show _ = _; rw [hz, List.length_replicate, HNN.out]
       have HME1 : Hid (Blk y1 g [.slice (some ⟨gs, 0, none⟩) n n, .slice aw nw cw, .bool dn, .bool fu, .int .i64 lf] 85) := HME.out.below hzl HME.out.lt
       replace c0 : y1.cell? ⟨g, 0, none⟩ = some (.slice (some ⟨gs, 0, none⟩) n n) := HME1.out.cell 0
       clear hz hge hzb hzl))
  clear c0 f1 HME1
  go_loopw [19] (fun i wr => ∃ k : Nat, k ≤ n ∧ i = .int .i64 (k : Int) ∧ Hid (Blk wr gb (cb (upTo D.safe z k)) 5) ∧ Hid (Below w.heap.size w wr)) (fun i _ => n - (intOf i).toNat)
  case atStart => exact ⟨0, Nat.zero_le _, rfl, by rw [upTo_zero]; exact HBZ, HBW⟩
  case round =>
    obtain ⟨k, hkn, rfl, HBK, HBB⟩ := hrel
    clear HBZ HBW
    have HMEr : Hid (Blk wr g [.slice (some ⟨gs, 0, none⟩) n n, .slice aw nw cw, .bool dn, .bool fu, .int .i64 lf] 85) := HME.out.below HBB.out HME.out.lt
    by_cases hlt : k < n
    case pos =>
      have hlk : (k : Int) < (n : Int) := by omega
      have f5 : IntKind.i64.wrap ((k : Int) + 1) = (k : Int) + 1 := by rw [IntKind.wrap_i64]; have := HSL.out.2; omega
      obtain ⟨o, HOO⟩ : ∃ o : Nat, Hid (o = 64 * k) := ⟨_, rfl⟩
      have f6 : IntKind.i64.wrap ((k : Int) * 64) = (o : Int) := by rw [IntKind.wrap_i64]; have := HSL.out.2; have := HOO.out; omega
      have HKN : Hid (k < n) := hlt
      have HON : Hid (o < N ∧ 64 ≤ N - o) := by have h1 := HOO.out; have h2 := HNN.out; exact ⟨by omega, by omega⟩
      have HS6 : Hid ((secD D.safe k).length = 64) := sec_len (by rw [HSL.out.1]; omega)
      go_wp2_with fail
      refine wp_region_held_drew (S := fun wx => Blk wx g [.slice (some ⟨gs, 0, none⟩) n n, .slice aw nw cw, .bool dn, .bool fu, .int .i64 lf] 85) (by kernel_rfl) HMEr.out.drew ?_
      intro hS
      have HB3 : Hid (Blk wr.drew gb (cb (upTo D.safe z k)) 5) := HBK.out.drew
      have HBB3 : Hid (Below w.heap.size w wr.drew) := HBB.out.drew
      clear HBK HBB HMEr
      change wpAnyH _ _ _ _ _ _ _ _ (World.drew wr)
      generalize World.drew wr = y3 at *
      refine wpAnyH_take (i := 0) (v := .slice (some ⟨gb, 0, none⟩) N N) rfl (by kernel_rfl) (by kernel_rfl) (by kernel_rfl) (fun _ _ _ h => h) (Or.inl ⟨by rfl, fun wx hx => by simp [go_sem]⟩) hS ?_
      simp only [Act.put, List.getElem_toArray, List.getElem_cons_zero, List.setIfInBounds_toArray, List.set_cons_zero, List.set_cons_succ]
      refine wpAnyH_take (i := 1) (v := .int .i64 (k : Int)) rfl (by kernel_rfl) (by kernel_rfl) (by kernel_rfl) (fun _ _ _ h => h) (Or.inl ⟨by rfl, fun wx hx => by simp [go_sem]⟩) hS ?_
      simp only [Act.put, List.getElem_toArray, List.getElem_cons_succ, List.getElem_cons_zero, List.setIfInBounds_toArray, List.set_cons_zero, List.set_cons_succ]
      refine wpAnyH_take (i := 2) (v := .int .i64 (o : Int)) rfl (by kernel_rfl) (by kernel_rfl) (by kernel_rfl) (fun _ _ _ h => h) (Or.inl ⟨by rfl, fun wx hx => by simp [go_sem, f6]⟩) hS ?_
      simp only [Act.put, List.getElem_toArray, List.getElem_cons_succ, List.getElem_cons_zero, List.setIfInBounds_toArray, List.set_cons_zero, List.set_cons_succ]
      refine wpAnyH_take (i := 3) (v := .slice (some ⟨gb, 0 + o, none⟩) (N - o) (N - o)) rfl (by kernel_rfl) (by kernel_rfl) (by kernel_rfl) (fun _ _ _ h => h) (Or.inl ⟨by rfl, fun wx hx => by exact cutFrom gb 0 N N o HON.out.1 (Nat.le_refl _) _ _ _ _ rfl rfl rfl _⟩) hS ?_
      simp only [Act.put, List.getElem_toArray, List.getElem_cons_succ, List.getElem_cons_zero, List.setIfInBounds_toArray, List.set_cons_zero, List.set_cons_succ]
      refine wpAnyH_take (i := 4) (v := .pointer (some ⟨g, 0, none⟩)) rfl (by kernel_rfl) (by kernel_rfl) (by kernel_rfl) (fun _ _ _ h => h) (Or.inl ⟨by rfl, fun wx hx => by simp [go_sem]⟩) hS ?_
      simp only [Act.put, List.getElem_toArray, List.getElem_cons_succ, List.getElem_cons_zero, List.setIfInBounds_toArray, List.set_cons_zero, List.set_cons_succ]
      refine wpAnyH_take (i := 5) (v := .pointer (some ⟨g, 0, none⟩)) rfl (by kernel_rfl) (by kernel_rfl) (by kernel_rfl) (fun _ _ _ h => h) (Or.inl ⟨by rfl, fun wx hx => by simp [go_sem]⟩) hS ?_
      simp only [Act.put, List.getElem_toArray, List.getElem_cons_succ, List.getElem_cons_zero, List.setIfInBounds_toArray, List.set_cons_zero, List.set_cons_succ]
      refine wpAnyH_take (i := 6) (v := .pointer (some ⟨g, 0, none⟩)) rfl (by kernel_rfl) (by kernel_rfl) (by kernel_rfl) (fun _ _ _ h => h) (Or.inl ⟨by rfl, fun wx hx => by simp [go_sem]⟩) hS ?_
      simp only [Act.put, List.getElem_toArray, List.getElem_cons_succ, List.getElem_cons_zero, List.setIfInBounds_toArray, List.set_cons_zero, List.set_cons_succ]
      refine wpAnyH_take (i := 7) (v := .slice (some ⟨gs, 0, none⟩) n n) rfl (by kernel_rfl) (by kernel_rfl) (by kernel_rfl) (fun _ _ _ h => h) (Or.inl ⟨by rfl, fun wx hx => by (have hc := hx.cell 0; simp at hc; simp [go_sem, hc])⟩) hS ?_
      simp only [Act.put, List.getElem_toArray, List.getElem_cons_succ, List.getElem_cons_zero, List.setIfInBounds_toArray, List.set_cons_zero, List.set_cons_succ]
      refine wpAnyH_take (i := 8) (v := .int .i64 (k : Int)) rfl (by kernel_rfl) (by kernel_rfl) (by kernel_rfl) (fun _ _ _ h => h) (Or.inl ⟨by rfl, fun wx hx => by simp [go_sem]⟩) hS ?_
      simp only [Act.put, List.getElem_toArray, List.getElem_cons_succ, List.getElem_cons_zero, List.setIfInBounds_toArray, List.set_cons_zero, List.set_cons_succ]
      refine wpAnyH_take (i := 9) (v := .pointer (some ⟨gs, 64 * k, none⟩)) rfl (by kernel_rfl) (by kernel_rfl) (by kernel_rfl) (fun _ _ _ h => h) (Or.inl ⟨by rfl, fun wx hx => by exact idxSec gs n k HKN.out _ _ _ _ rfl rfl rfl _⟩) hS ?_
      simp only [Act.put, List.getElem_toArray, List.getElem_cons_succ, List.getElem_cons_zero, List.setIfInBounds_toArray, List.set_cons_zero, List.set_cons_succ]
      refine wpAnyH_take (i := 10) (v := .slice (some ⟨gs, 64 * k, none⟩) 64 64) rfl (by kernel_rfl) (by kernel_rfl) (by kernel_rfl) (fun _ _ _ h => h) (Or.inl ⟨by rfl, fun wx hx => by exact sliceSec gs (64 * k) _ _ _ rfl rfl _⟩) hS ?_
      simp only [Act.put, List.getElem_toArray, List.getElem_cons_succ, List.getElem_cons_zero, List.setIfInBounds_toArray, List.set_cons_zero, List.set_cons_succ]
      have hsf := (HM.out.below HBB3.out).sf
      refine wpAnyH_copyO 11 (.tmp 25) (.tmp 32) gb (0 + o) (N - o) (N - o) gs (64 * k) 64 64 5 _ (secD D.safe k) HB3.out (by rw [HS6.out]; have := HON.out.2; omega) (by rw [HS6.out, cb_len, upTo_len HSL.out.1 HZL.out (Nat.le_of_lt HKN.out)]; have h1 := HON.out; have h2 := HNN.out; omega) (range_cells (sec_range hsf (by rw [HSL.out.1]; have := HKN.out; omega))) (by kernel_rfl) rfl (by rfl) rfl rfl rfl ?_
      intro y4 hb4 ho4
      refine ⟨hS.only ho4 (hS.neT HB3.out (by decide)), ?_⟩
      have HB4 : Hid (Blk y4 gb (cb (upTo D.safe z (k + 1))) 5) := by
        rw [Nat.zero_add, HOO.out, lay_sec HS6.out, upTo_step HSL.out.1 HKN.out] at hb4
        exact hb4
      have HBB4 : Hid (Below w.heap.size w y4) := HBB3.out.trans (ho4.below HGE.out HBB3.out.size)
      clear hb4 ho4 hsf hS HB3 HBB3
      simp only [Act.put, List.getElem_toArray, List.getElem_cons_succ, List.getElem_cons_zero]
      refine wpAnyH_done (by kernel_rfl) ?_ _
      go_wp2
      go_roundw
      case rel => exact ⟨k + 1, by omega, by simp, HB4, HBB4⟩
      case measure => simp [intOf]; omega
    case neg =>
      have hlk : ¬ ((k : Int) < (n : Int)) := by omega
      obtain rfl : k = n := by omega
      have HB2 : Hid (Blk wr gb (cb (dumpW D.safe (D.wait.take 0))) 5) := by
        have h9 := HBK.out
        rw [upTo_all HSL.out.1 HZL.out] at h9
        exact h9
      have c1 : wr.cell? ⟨g, 1, none⟩ = some (.slice aw nw cw) := HMEr.out.cell 1
      clear HBK hkn hlt
      go_wp2_with fail
      clear c1 HMEr
      obtain ⟨n, HNK⟩ : ∃ n, Hid (n = k) := ⟨_, rfl⟩
      go_loopw [40] (fun i wr => ∃ j : Nat, j ≤ nw ∧ i = .int .i64 (j : Int) ∧ Hid (Blk wr gb (cb (dumpW D.safe (D.wait.take j))) 5) ∧ Hid (Below w.heap.size w wr)) (fun i _ => nw - (intOf i).toNat)
      case atStart => exact ⟨0, Nat.zero_le _, rfl, HB2, HBB⟩
      case round =>
        obtain ⟨j, hjn, rfl, HBK, HBB⟩ := hrel
        clear HB2
        have HMr : Hid (DkM wr g gs (.slice aw nw cw) fu lf D) := HM.out.below HBB.out
        by_cases hlt : j < nw
        case neg =>
          have hlk : ¬ ((j : Int) < (nw : Int)) := by omega
          have HBD : Hid (Blk wr gb (cb (dumpD D)) 5) := by
            have h9 := HBK.out
            rw [List.take_of_length_le (by rw [← HNW.out]; omega)] at h9
            exact h9
          have HLN : Hid ((dumpD D).length = N) := by show _ = _; rw [len_dumpD HOK.out, HSL.out.1, HNN.out]
          go_wp2
          go_ret
          exact ⟨_, rfl, HBD.out.reads HLN.out.symm (by rw [HLN.out]; exact Nat.le_refl _), HBB.out⟩
        case pos =>
          have hlk : (j : Int) < (nw : Int) := by omega
          have HKN : Hid (j < nw) := hlt
          have HLT : Hid (j < D.wait.length) := by show _ < _; rw [← HNW.out]; exact hlt
          have f5 : IntKind.i64.wrap ((j : Int) + 1) = (j : Int) + 1 := by rw [IntKind.wrap_i64]; have := HW2.out; omega
          obtain ⟨hmem, htk⟩ := getD_memV2 HLT.out
          obtain ⟨b, rfl, hat⟩ := HMr.out.wt.at (fun p hp => (HOK.out.wait p hp).2) (Nat.lt_of_le_of_lt (Nat.zero_le _) HLT.out)
          have hrg := hat j HLT.out
          replace hrg : wr.rangeAt b (j * 65) (wrC (D.wait.getD j (0, []))) := hrg
          obtain ⟨p, HPP⟩ : ∃ p, Hid (p = D.wait.getD j (0, [])) := ⟨_, rfl⟩
          rw [← HPP.out] at hmem htk hrg
          have HRG : Hid (wr.rangeAt b (j * 65) (wrC p)) := hrg
          have HTK : Hid (dumpW D.safe (D.wait.take (j + 1)) = layD (dumpW D.safe (D.wait.take j)) p.1 p.2 64) := by show _ = _; rw [htk, dumpW_snoc]
          have HPW : Hid (p.1 < k ∧ p.2.length = 64) := by rw [HN.out]; exact HOK.out.wait p hmem
          have HP6 : Hid (p.2.length = 64) := HPW.out.2
          have HWL : Hid ((wrC p).length = (wrC (0, zs64)).length) := by show _ = _; rw [wrC_len HP6.out, wrC_len (p := (0, zs64)) len_zs64]
          have HLN : Hid ((dumpW D.safe (D.wait.take j)).length = N) := by
            show _ = _
            rw [len_dumpW _ _ HOK.out.size.1 (fun q hq => HOK.out.wait q (List.mem_of_mem_take hq)), HNN.out, HN.out]
          obtain ⟨o, HOO⟩ : ∃ o : Nat, Hid (o = 64 * p.1) := ⟨_, rfl⟩
          have f6 : IntKind.i64.wrap ((p.1 : Int) * 64) = (o : Int) := by rw [IntKind.wrap_i64]; have := HSL.out.2; have := HOO.out; have := HPW.out.1; omega
          have HON : Hid (o < N ∧ 64 ≤ N - o) := by have h1 := HOO.out; have h2 := HNN.out; have h3 := HPW.out.1; exact ⟨by omega, by omega⟩
          clear hat hrg hmem htk
          have tk1 : Hid True := trivial
          have tk2 : Hid True := trivial
          have tk3 : Hid True := trivial
          have tk4 : Hid True := trivial
          go_wp2_with (first
    | (clear tk1; with_reducible refine wpSeq_idxWr (.tmp 38) (.tmp 40) b nw cw j HKN.out ?_ ?_ ?_ ?_ ?_
       · rfl
       · rfl
       · rfl
       · rfl)
    | (clear tk2; with_reducible refine wpSeq_loadW 97 (.tmp 42) b (j * 65) (wrC p) _ HRG.out Tryd.underlying97 rfl (sz_wr HP6.out) ?_ ?_ ?_ ?_
       · rfl
       · rfl
       · rfl)
    | (clear tk3; with_reducible refine wpSeq_allocDw ?_ ?_ ?_
       · rfl
       · rfl
       intro g6 y1 nn
       have HG6 : Hid (Blk y1 g6 (wrC (0, zs64)) 97) := nn.blk
       have HBW : Hid (Below wr.heap.size wr y1) := nn.below
       have HG6E : Hid (wr.heap.size ≤ g6) := nn.ge
       clear nn)
    | (clear tk4; with_reducible refine wpSeq_storeRow 97 (.tmp 6) (.tmp 43) g6 (wrC (0, zs64)) (wrC p) HG6.out HWL.out (sz_wr HP6.out) (wrC_one _) ?_ ?_ ?_ ?_ ?_
       · rfl
       · rfl
       · rfl
       · rfl
       intro y2 hs
       replace HG6 : Hid (Blk y2 g6 (wrC p) 97) := hs.blk
       replace HBW : Hid (Below wr.heap.size wr y2) := HBW.out.trans (hs.only.below HG6E.out HBW.out.size)
       clear hs)
    | fail)
          refine wp_region_held_drew (S := fun wx => Blk wx g6 (wrC p) 97) (by kernel_rfl) HG6.out.drew ?_
          intro hS
          have HB3 : Hid (Blk y2.drew gb (cb (dumpW D.safe (D.wait.take j))) 5) := HBK.out.below HBW.out.drew HBK.out.lt
          have HBB3 : Hid (Below w.heap.size w y2.drew) := HBB.out.trans (HBW.out.drew.mono HBB.out.size)
          clear HBK HBB HBW HG6 HG6E HRG HMr
          change wpAnyH _ _ _ _ _ _ _ _ (World.drew y2)
          generalize World.drew y2 = y3 at *
          refine wpAnyH_take (i := 0) (v := .slice (some ⟨gb, 0, none⟩) N N) rfl (by kernel_rfl) (by kernel_rfl) (by kernel_rfl) (fun _ _ _ h => h) (Or.inl ⟨by rfl, fun wx hx => by simp [go_sem]⟩) hS ?_
          simp only [Act.put, List.getElem_toArray, List.getElem_cons_zero, List.setIfInBounds_toArray, List.set_cons_zero, List.set_cons_succ]
          refine wpAnyH_take (i := 1) (v := .pointer (some ⟨g6, 0, none⟩)) rfl (by kernel_rfl) (by kernel_rfl) (by kernel_rfl) (fun _ _ _ h => h) (Or.inl ⟨by rfl, fun wx hx => by simp [go_sem]⟩) hS ?_
          simp only [Act.put, List.getElem_toArray, List.getElem_cons_succ, List.getElem_cons_zero, List.setIfInBounds_toArray, List.set_cons_zero, List.set_cons_succ]
          refine wpAnyH_take (i := 2) (v := .int .i64 (p.1 : Int)) rfl (by kernel_rfl) (by kernel_rfl) (by kernel_rfl) (fun _ _ _ h => h) (Or.inl ⟨by rfl, fun wx hx => by (have hc : wx.cell? ⟨g6, 0, none⟩ = some (.int .i64 (p.1 : Int)) := hx.cell 0; simp [go_sem, hc])⟩) hS ?_
          simp only [Act.put, List.getElem_toArray, List.getElem_cons_succ, List.getElem_cons_zero, List.setIfInBounds_toArray, List.set_cons_zero, List.set_cons_succ]
          refine wpAnyH_take (i := 3) (v := .int .i64 (o : Int)) rfl (by kernel_rfl) (by kernel_rfl) (by kernel_rfl) (fun _ _ _ h => h) (Or.inl ⟨by rfl, fun wx hx => by simp [go_sem, f6]⟩) hS ?_
          simp only [Act.put, List.getElem_toArray, List.getElem_cons_succ, List.getElem_cons_zero, List.setIfInBounds_toArray, List.set_cons_zero, List.set_cons_succ]
          refine wpAnyH_take (i := 4) (v := .slice (some ⟨gb, 0 + o, none⟩) (N - o) (N - o)) rfl (by kernel_rfl) (by kernel_rfl) (by kernel_rfl) (fun _ _ _ h => h) (Or.inl ⟨by rfl, fun wx hx => by exact cutFrom gb 0 N N o HON.out.1 (Nat.le_refl _) _ _ _ _ rfl rfl rfl _⟩) hS ?_
          simp only [Act.put, List.getElem_toArray, List.getElem_cons_succ, List.getElem_cons_zero, List.setIfInBounds_toArray, List.set_cons_zero, List.set_cons_succ]
          refine wpAnyH_take (i := 5) (v := .pointer (some ⟨g6, 1, none⟩)) rfl (by kernel_rfl) (by kernel_rfl) (by kernel_rfl) (fun _ _ _ h => h) (Or.inl ⟨by rfl, fun wx hx => by simp [go_sem]⟩) hS ?_
          simp only [Act.put, List.getElem_toArray, List.getElem_cons_succ, List.getElem_cons_zero, List.setIfInBounds_toArray, List.set_cons_zero, List.set_cons_succ]
          refine wpAnyH_take (i := 6) (v := .slice (some ⟨g6, 1, none⟩) 64 64) rfl (by kernel_rfl) (by kernel_rfl) (by kernel_rfl) (fun _ _ _ h => h) (Or.inl ⟨by rfl, fun wx hx => by exact sliceSec g6 1 _ _ _ rfl rfl _⟩) hS ?_
          simp only [Act.put, List.getElem_toArray, List.getElem_cons_succ, List.getElem_cons_zero, List.setIfInBounds_toArray, List.set_cons_zero, List.set_cons_succ]
          refine wpAnyH_copyO 7 (.tmp 48) (.tmp 50) gb (0 + o) (N - o) (N - o) g6 1 64 64 5 _ p.2 HB3.out (by rw [HP6.out]; have := HON.out.2; omega) (by rw [HP6.out, cb_len, HLN.out]; have h1 := HON.out; omega) (range_cells (range_tail (off := 0) (Blk.range hS))) (by kernel_rfl) rfl (by rfl) rfl rfl rfl ?_
          intro y4 hb4 ho4
          refine ⟨hS.only ho4 (hS.neT HB3.out (by decide)), ?_⟩
          have HB4 : Hid (Blk y4 gb (cb (dumpW D.safe (D.wait.take (j + 1)))) 5) := by
            rw [Nat.zero_add, HOO.out, lay_sec HP6.out, ← HTK.out] at hb4
            exact hb4
          have HBB4 : Hid (Below w.heap.size w y4) := HBB3.out.trans (ho4.below HGE.out HBB3.out.size)
          clear hb4 ho4 hS HB3 HBB3
          simp only [Act.put, List.getElem_toArray, List.getElem_cons_succ, List.getElem_cons_zero]
          refine wpAnyH_done (by kernel_rfl) ?_ _
          go_wp2
          go_roundw
          case rel => exact ⟨j + 1, by omega, by simp, HB4, HBB4⟩
          case measure => simp [intOf]; omega
/-- where JournalDoes' loop stands -/
structure DoI (Lg : World → Nat → (Nat → Prop) → Nat → Nat → JnT → Prop) (w : World) (gd lg N i : Nat) (wv : Value) (P Q : Nat → Prop) (D : DkT) (J : JnT) (W : World) : Prop where
  pk : Pk Lg W gd lg P Q D J
  log : Log D J
  size : sizeD D = N
  gen : J.gen ≤ i + 1
  want : StaL (Un P Q) W wv J.l
  bel : Below w.heap.size w W
  own : ∀ k, Un P Q k → w.heap.size ≤ k
theorem Log.len {D : DkT} {J : JnT} (h : Log D J) (hs : sizeD D ≤ 100) : J.l.length ≤ 1000 ∧ sizeL J.l ≤ 6400 := by
  have h1 := h.fits
  have h2 := sizeL_ge J.l
  have h3 := sizeL_eq J.l
  unfold hsD at h1
  exact ⟨by omega, by omega⟩
end Go.Proofs.YtfleaipdoiiiiaaDoor
/- The walk of journal's Open, as it landed (layer 14). -/
namespace Go.Proofs.YtfleaipdoiiiiaaDoor
open Go.RowKit
set_option maxRecDepth 100000
/-- what is written where a log is opened, and the log -/
def openG (D : DkT) : List (Option (Nat × Bs)) × JnT :=
  if (pickB (dumpD D)).2 = 0 then (anewS (hsD D) 0 1 [], ⟨0, 1, []⟩)
  else if ∀ z ∈ (halfB (dumpD D) (pickB (dumpD D)).1).drop (recsOf (pickB (dumpD D)).2 (halfB (dumpD D) (pickB (dumpD D)).1)).2, z = 0 then ([], ⟨(pickB (dumpD D)).1, (pickB (dumpD D)).2, (recsOf (pickB (dumpD D)).2 (halfB (dumpD D) (pickB (dumpD D)).1)).1⟩)
  else (anewS (hsD D) (1 - (pickB (dumpD D)).1) (gN (pickB (dumpD D)).2) (recsOf (pickB (dumpD D)).2 (halfB (dumpD D) (pickB (dumpD D)).1)).1, ⟨1 - (pickB (dumpD D)).1, gN (pickB (dumpD D)).2, (recsOf (pickB (dumpD D)).2 (halfB (dumpD D) (pickB (dumpD D)).1)).1⟩)
theorem openG_eq {D : DkT} (h : (pickB (dumpD D)).2 + 1 < 18446744073709551616) : openG D = openS D := by
  unfold openG openS
  rw [gN_eq h]
theorem box_agg (f : Operand → Value) (o : Oper) (ty : TypeId) (x : Operand) (cs : List Value) (ho : o.op = .box ty x) (hx : f x = .agg cs.toArray) (w : World) : (execOp f o).run Tryd.prog w = .ok (.value (.pointer (some ⟨w.heap.size, 0, none⟩))) (w.alloc (.cells cs.toArray ty)) := by
  unfold execOp
  rw [ho]
  simp only [hx]
  rfl
theorem built_lg (gd hs k gen u : Nat) (ad : Option Addr) (n c : Nat) (ps : List (Nat × Value)) (h : ps = [(0, wrF gd), (1, syF gd), (2, .int .i64 (hs : Int)), (4, .agg (ctC k gen (.slice ad n c) u).toArray)]) : Tryd.prog.built 91 ps = some (lgC gd hs 0 k gen (.slice ad n c) u).toArray := by subst h; kernel_rfl
/-- a log opened -/
structure OpA (w : World) (gd : Nat) (P : Nat → Prop) (n : Nat) (DX : DkT) (JX : JnT) (P' : Nat → Prop) (lv : Value) (x : Int) (w' : World) : Prop where
  dk : DkIs w' gd P' DX
  mv : Mut P w w'
  gr : Grew w P P'
  lg : x = 0 → ∃ lg Q, lv = .pointer (some ⟨lg, 0, none⟩) ∧ LgJ w' lg Q gd n JX ∧ ∀ k, Q k → w.heap.size ≤ k ∧ ¬ P' k
set_option maxRecDepth 100000 in
set_option maxHeartbeats 8000000 in
theorem jOpen_small {w : World} {gd : Nat} {P : Nat → Prop} {D : DkT} (hdk : DkIs w gd P D) (h8 : sizeD D < 8) : Calls Tryd.prog 23 #[.pointer (some ⟨gd, 0, none⟩)] w fun e w' => e = .returned (.tuple #[.pointer none, .int .i64 1]) ∧ w' = w := by
  obtain ⟨n, HN⟩ : ∃ n, Hid (n = sizeD D) := ⟨_, rfl⟩
  have HSZ : Hid (Calls Tryd.prog 29 #[.pointer (some ⟨gd, 0, none⟩)] w fun r w' => r = .returned (.int .i64 (n : Int)) ∧ w' = w) := by rw [HN.out]; exact dkSize_pure hdk
  have hn : (n : Int) < 8 := by have := HN.out; omega
  clear hdk h8
  go_enter Tryd.func23, Tryd.ntmps23
  have tk0 : Hid True := trivial
  go_wp2_with (first
    | (clear tk0; go_at_call 29; refine HSZ.out.mono ?_; rintro e0 y1 ⟨rfl, hy1⟩; subst hy1))
  refine bodyPost_ret (results_tmp2 rfl _ _ _) rfl ?_
  exact ⟨rfl, rfl⟩
set_option maxRecDepth 100000 in
set_option maxHeartbeats 8000000 in
theorem jOpen_any {w : World} {gd : Nat} {P : Nat → Prop} {D : DkT} (hK : KOk w) (hdk : DkIs w gd P D) (hwt : D.wait = []) (hsz : sizeD D ≤ 100) (h8 : 8 ≤ sizeD D) : Calls Tryd.prog 23 #[.pointer (some ⟨gd, 0, none⟩)] w fun e w' => ∃ P' lv, e = .returned (.tuple #[lv, .int .i64 (runJ D (openG D).1).2]) ∧ OpA w gd P (sizeD D) (runJ D (openG D).1).1 (openG D).2 P' lv (runJ D (openG D).1).2 w' := by
  obtain ⟨X, HX⟩ : ∃ z, Hid (z = (runJ D (openG D).1).2) := ⟨_, rfl⟩
  obtain ⟨DX, HDX⟩ : ∃ z, Hid (z = (runJ D (openG D).1).1) := ⟨_, rfl⟩
  obtain ⟨JX, HJX⟩ : ∃ z, Hid (z = (openG D).2) := ⟨_, rfl⟩
  rw [← HX.out, ← HDX.out, ← HJX.out]
  obtain ⟨n, HN⟩ : ∃ n, Hid (n = sizeD D) := ⟨_, rfl⟩
  obtain ⟨hs, HHS⟩ : ∃ m, Hid (m = n / 2) := ⟨_, rfl⟩
  obtain ⟨b, HB⟩ : ∃ b, Hid (b = dumpD D) := ⟨_, rfl⟩
  rw [← HN.out] at hsz h8 ⊢
  have HOKD : Hid (okD D) := by obtain ⟨_, _, _, _, hm, _⟩ := hdk; exact hm.ok
  have HBL : Hid (b.length = 64 * n) := by show _ = _; rw [HB.out, len_dumpD HOKD.out, HOKD.out.size.1, HN.out]
  have HOB : Hid (okB b) := by show okB b; have h := HBL.out; unfold okB; omega
  have HHH : Hid (hsD D = hs) := by show sizeD D / 2 = hs; rw [← HN.out]; exact HHS.out.symm
  have HNH : Hid (halfN b = 64 * hs) := by show _ = _; have h := HBL.out; have h2 := HHS.out; rw [halfN]; omega
  have HDK : Hid (DkIs w gd P D) := hdk
  have HWT : Hid (D.wait = []) := hwt
  have HK : Hid (KOk w) := hK
  have HBD : Hid (4 ≤ hs ∧ hs ≤ 50 ∧ n ≤ 100 ∧ 8 ≤ n) := by have h := HHS.out; exact ⟨by omega, by omega, by omega, by omega⟩
  have HLT : Hid (∀ k, P k → k < w.heap.size) := hdk.lt14
  have f1 : ¬ ((n : Int) < 8) := by omega
  have f2 : IntKind.i64.wrap ((n : Int) / 2) = (hs : Int) := by rw [IntKind.wrap_i64]; have := HHS.out; omega
  clear hdk hwt hsz h8 hK
  have HSZ : Hid (∀ W, Below w.heap.size w W → Calls Tryd.prog 29 #[.pointer (some ⟨gd, 0, none⟩)] W fun r w' => r = .returned (.int .i64 (n : Int)) ∧ w' = W) := fun W hW => by rw [HN.out]; exact dkSize_pure (HDK.out.same14 (fun k hk => hW.block k (HLT.out k hk)))
  have HDU : Hid (Calls Tryd.prog 30 #[.pointer (some ⟨gd, 0, none⟩)] w fun r w' => ∃ v, r = .returned v ∧ Reads w' v b ∧ Below w.heap.size w w') := by rw [HB.out]; exact dkDump_b HDK.out (by rw [HWT.out]; decide)
  go_enter Tryd.func23, Tryd.ntmps23
  have tk0 : Hid True := trivial
  have tk1 : Hid True := trivial
  have tk2 : Hid True := trivial
  have tk3 : Hid True := trivial
  have tk4 : Hid True := trivial
  go_upto_region 4 with (first
    | (clear tk0; go_at_call 29; refine (HSZ.out _ (Below.refl _ _)).mono ?_; rintro e0 y1 ⟨rfl, hy1⟩; have hy2 := hy1.symm; clear hy1; subst hy2)
    | (clear tk1; go_at_call 30; refine HDU.out.mono ?_; rintro e0 y1 ⟨v1, rfl, hr, hz⟩
       obtain ⟨ad, cp, hv, hcp, _, hx⟩ := id hr
       obtain ⟨bb, off, rfl, _⟩ := hx (by have h1 := HBL.out; have h2 := HBD.out; omega)
       subst hv
       obtain ⟨L, HLL⟩ : ∃ m, Hid (m = b.length) := ⟨_, rfl⟩
       rw [← HLL.out] at hr ⊢
       have HRD : Hid (Reads y1 (.slice (some ⟨bb, off, none⟩) L cp) b) := hr
       have HBW : Hid (Below w.heap.size w y1) := hz
       clear hr hz hcp hx)
    | (clear tk2; go_at_call 40; refine (jLook_any bb off L cp b HOB.out (by have h1 := HBL.out; have h2 := HBD.out; omega) _ (HK.out.below HBW.out HK.out.lt) HRD.out).mono ?_; rintro e0 y2 ⟨k, gen, vr, us, u, cl, rfl, hlk⟩
       obtain ⟨a1, n1, c1, hvr⟩ : ∃ a n c, vr = .slice a n c := by
         by_cases hg : gen = 0
         · exact ⟨_, _, _, (hlk.z hg).1⟩
         · obtain ⟨a, c, hv, _⟩ := (hlk.nz hg).1.readsL; exact ⟨_, _, _, hv⟩
       subst hvr
       have HLK : Hid (LookA y1 b k gen (.slice a1 n1 c1) us u cl y2) := hlk
       have HBW2 : Hid (Below w.heap.size w y2) := HBW.out.trans (hlk.bel.mono HBW.out.size)
       clear hlk)
    | (clear tk3; with_reducible refine wpSeq_allocCt ?_ ?_ ?_
       · rfl
       · rfl
       intro g4 y3 nn
       have H4 : Hid (Blk y3 g4 ctZ 67) := nn.blk
       have HG4 : Hid (w.heap.size ≤ g4 ∧ y2.heap.size ≤ g4) := ⟨Nat.le_trans HBW2.out.size nn.ge, nn.ge⟩
       have HBW3 : Hid (Below y2.heap.size y2 y3) := nn.below
       clear nn)
    | (clear tk4; with_reducible refine wpSeq_storeRow 67 (.tmp 4) (.tmp 19) g4 ctZ (ctC k gen (.slice a1 n1 c1) u) H4.out (len_ctZ _ _ _ _) (info_ct _ _ _ _) (ct_one _ _ _ _ _ _) ?_ ?_ ?_ ?_ ?_
       · rfl
       · rfl
       · rfl
       · rfl
       intro y4 hs4
       have HB4 : Hid (Blk y4 g4 (ctC k gen (.slice a1 n1 c1) u) 67) := hs4.blk
       have HBW4 : Hid (Below y2.heap.size y2 y4) := HBW3.out.trans (hs4.only.below HG4.out.2 HBW3.out.size)
       clear hs4))
  have HBY : Hid (Below y2.heap.size y2 (World.drew y4)) := HBW4.out.drew
  clear H4 HBW3 HBW4 HRD HDU
  refine wp_region_held_drew (S := fun wx => Blk wx g4 (ctC k gen (.slice a1 n1 c1) u) 67) (by kernel_rfl) HB4.out.drew ?_
  intro hS
  clear HB4
  change wpAnyH _ _ _ _ _ _ _ _ (World.drew y4)
  generalize World.drew y4 = y5 at *
  have HBZ : Hid (Below w.heap.size w y5) := HBW2.out.trans (HBY.out.mono HBW2.out.size)
  refine wpAnyH_take (i := 0) (v := .pointer (some ⟨gd, 0, none⟩)) rfl (by kernel_rfl) (by kernel_rfl) (by kernel_rfl) (fun _ _ _ h => h) (Or.inl ⟨by rfl, fun wx hx => by simp [go_sem]⟩) hS ?_
  simp only [Act.put, List.getElem_toArray, List.getElem_cons_zero, List.setIfInBounds_toArray, List.set_cons_zero, List.set_cons_succ]
  refine wpAnyH_take (i := 1) (v := wrF gd) rfl (by kernel_rfl) (by kernel_rfl) (by kernel_rfl) (fun _ _ _ h => h) (Or.inl ⟨by rfl, fun wx hx => by simp [go_sem, wrF]⟩) hS ?_
  simp only [Act.put, List.getElem_toArray, List.getElem_cons_succ, List.getElem_cons_zero, List.setIfInBounds_toArray, List.set_cons_zero, List.set_cons_succ]
  refine wpAnyH_take (i := 2) (v := .pointer (some ⟨gd, 0, none⟩)) rfl (by kernel_rfl) (by kernel_rfl) (by kernel_rfl) (fun _ _ _ h => h) (Or.inl ⟨by rfl, fun wx hx => by simp [go_sem]⟩) hS ?_
  simp only [Act.put, List.getElem_toArray, List.getElem_cons_succ, List.getElem_cons_zero, List.setIfInBounds_toArray, List.set_cons_zero, List.set_cons_succ]
  refine wpAnyH_take (i := 3) (v := syF gd) rfl (by kernel_rfl) (by kernel_rfl) (by kernel_rfl) (fun _ _ _ h => h) (Or.inl ⟨by rfl, fun wx hx => by simp [go_sem, syF]⟩) hS ?_
  simp only [Act.put, List.getElem_toArray, List.getElem_cons_succ, List.getElem_cons_zero, List.setIfInBounds_toArray, List.set_cons_zero, List.set_cons_succ]
  refine wpAnyH_take (i := 4) (v := .pointer (some ⟨gd, 0, none⟩)) rfl (by kernel_rfl) (by kernel_rfl) (by kernel_rfl) (fun _ _ _ h => h) (Or.inl ⟨by rfl, fun wx hx => by simp [go_sem]⟩) hS ?_
  simp only [Act.put, List.getElem_toArray, List.getElem_cons_succ, List.getElem_cons_zero, List.setIfInBounds_toArray, List.set_cons_zero, List.set_cons_succ]
  refine wpAnyH_take (i := 7) (v := .agg (ctC k gen (.slice a1 n1 c1) u).toArray) rfl (by kernel_rfl) (by kernel_rfl) (by kernel_rfl) (fun _ _ _ h => h) (Or.inl ⟨by rfl, fun wx hx => by exact load_run 67 (.tmp 4) rfl g4 0 rfl (ctC k gen (.slice a1 n1 c1) u) _ hx.range Tryd.underlying67 rfl (info_ct _ _ _ _)⟩) hS ?_
  simp only [Act.put, List.getElem_toArray, List.getElem_cons_succ, List.getElem_cons_zero, List.setIfInBounds_toArray, List.set_cons_zero, List.set_cons_succ]
  refine wpAnyH_enter 5 (by kernel_rfl) rfl (by rfl) (f := 29) (args := #[.pointer (some ⟨gd, 0, none⟩)]) (by simp [go_sem]) (HSZ.out _ HBZ.out) ?_
  rintro e0 y6 ⟨rfl, hy6⟩
  have hy7 := hy6.symm
  clear hy6
  subst hy7
  refine ⟨_, rfl, hS, ?_⟩
  simp only [Act.put, List.getElem_toArray, List.getElem_cons_succ, List.getElem_cons_zero, List.setIfInBounds_toArray, List.set_cons_zero, List.set_cons_succ]
  refine wpAnyH_take (i := 6) (v := .int .i64 (hs : Int)) rfl (by kernel_rfl) (by kernel_rfl) (by kernel_rfl) (fun _ _ _ h => h) (Or.inl ⟨by rfl, fun wx hx => by simp [go_sem, f2]⟩) hS ?_
  simp only [Act.put, List.getElem_toArray, List.getElem_cons_succ, List.getElem_cons_zero, List.setIfInBounds_toArray, List.set_cons_zero, List.set_cons_succ]
  refine wpAnyH_take (i := 8) (v := .agg (lgC gd hs 0 k gen (.slice a1 n1 c1) u).toArray) rfl (by kernel_rfl) (by kernel_rfl) (by kernel_rfl) (fun _ _ _ h => h) (Or.inl ⟨by rfl, fun wx hx => by exact build_op _ _ 91 [(0, .tmp 22), (1, .tmp 24), (2, .tmp 27), (4, .tmp 28)] rfl _ (built_lg _ _ _ _ _ _ _ _ _ rfl) _⟩) hS ?_
  simp only [Act.put, List.getElem_toArray, List.getElem_cons_succ, List.getElem_cons_zero, List.setIfInBounds_toArray, List.set_cons_zero, List.set_cons_succ]
  have hz6 := below_alloc y5 (.cells (lgC gd hs 0 k gen (.slice a1 n1 c1) u).toArray 91)
  have hb6 : Blk (y5.alloc (.cells (lgC gd hs 0 k gen (.slice a1 n1 c1) u).toArray 91)) y5.heap.size (lgC gd hs 0 k gen (.slice a1 n1 c1) u) 91 := Blk.new _ _ _
  have hS6 := hS.below hz6 hS.lt
  refine wpAnyH_step 9 (.pointer (some ⟨y5.heap.size, 0, none⟩)) (y5.alloc (.cells (lgC gd hs 0 k gen (.slice a1 n1 c1) u).toArray 91)) (by kernel_rfl) rfl (by rfl) (box_agg _ _ 91 (.tmp 29) _ rfl rfl _) hS6 ?_
  clear hS
  have hS := hS6
  clear hS6
  simp only [Act.put, List.getElem_toArray, List.getElem_cons_succ, List.getElem_cons_zero, List.setIfInBounds_toArray, List.set_cons_zero, List.set_cons_succ]
  generalize y5.alloc (.cells (lgC gd hs 0 k gen (.slice a1 n1 c1) u).toArray 91) = y6 at *
  obtain ⟨lg, HLG⟩ : ∃ g, Hid (g = y5.heap.size) := ⟨_, rfl⟩
  rw [← HLG.out] at hb6 ⊢
  refine wpAnyH_take (i := 10) (v := .pointer (some ⟨lg, 0, none⟩)) rfl (by kernel_rfl) (by kernel_rfl) (by kernel_rfl) (fun _ _ _ h => h) (Or.inl ⟨by rfl, fun wx hx => by simp [go_sem]⟩) hS ?_
  simp only [Act.put, List.getElem_toArray, List.getElem_cons_succ, List.getElem_cons_zero, List.setIfInBounds_toArray, List.set_cons_zero, List.set_cons_succ]
  refine wpAnyH_done (by kernel_rfl) ?_ _
  have HLB : Hid (Blk y6 lg (lgC gd hs 0 k gen (.slice a1 n1 c1) u) 91) := hb6
  have HBX : Hid (Below w.heap.size w y6) := HBZ.out.trans (hz6.mono HBZ.out.size)
  have HBV : Hid (Below y2.heap.size y2 y6) := HBY.out.trans (hz6.mono HBY.out.size)
  have d1 : y6.cell? ⟨g4, 1, none⟩ = some (.int .u64 (gen : Int)) := hS.cell 1
  have d2 : y6.cell? ⟨g4, 2, none⟩ = some (.slice a1 n1 c1) := hS.cell 2
  have HLW : Hid (w.heap.size ≤ lg) := by rw [HLG.out]; exact HBZ.out.size
  clear hb6 hz6 hS HBY HBZ HLG f2 f1 HSZ
  have HNP : Hid (¬ P lg) := fun h => by have h1 := HLT.out lg h; have h2 := HLW.out; omega
  have HD6 : Hid (DkIs y6 gd P D) := HDK.out.same14 (fun z hz => HBX.out.block z (HLT.out z hz))
  have HK6 : Hid (KOk y6) := HK.out.below HBX.out HK.out.lt
  have HPB : Hid (pickB (dumpD D) = (k, gen)) := by show _ = _; rw [← HB.out]; exact HLK.out.pk
  have HK1 : Hid (k ≤ 1 ∧ gen < 18446744073709551616) := by have h := pick_lt (dumpD D); rw [HPB.out] at h; exact ⟨h.2, h.1⟩
  have HMV : Hid (∀ {W P'}, Mut (Un P (fun z => z = lg)) y6 W → Grew y6 P P' → Mut P w W ∧ Grew w P P') := fun {W P'} hm hg => ⟨(mut_below HBX.out P).trans (fun z hz h => h.elim id (fun e => absurd hz (by have := HLW.out; omega))) hm, fun z hz => (hg z hz).imp id (fun h => Nat.le_trans HBX.out.size h)⟩
  by_cases hg : gen = 0
  · subst hg
    have HG : Hid (openG D = (anewS hs 0 1 [], ⟨0, 1, []⟩)) := by show _ = _; rw [openG, HPB.out, if_pos rfl, HHH.out]
    have HXE : Hid (X = (runJ D (anewS hs 0 1 [])).2 ∧ DX = (runJ D (anewS hs 0 1 [])).1 ∧ JX = ⟨0, 1, []⟩) := by rw [HX.out, HDX.out, HJX.out, HG.out]; exact ⟨rfl, rfl, rfl⟩
    have HNX : Hid (Calls Tryd.prog 55 #[.pointer (some ⟨lg, 0, none⟩), .int .i64 0, .int .u64 1, .slice none 0 0] y6 fun e w' => e = .returned (.int .i64 X) ∧ ∃ P', DkIs w' gd P' DX ∧ (X = 0 → Blk w' lg (lgC gd hs 0 0 1 (.slice none 0 0) 1) 91) ∧ Mut (Un P (fun z => z = lg)) y6 w' ∧ Grew y6 P P') := by
      rw [HXE.out.1, HXE.out.2.1]
      exact jBegin_any (w := y6) hs k 0 u 0 1 _ (.slice none 0 0) [] HK6.out HD6.out HWT.out HLB.out HNP.out (by decide) (by decide) (by have := HBD.out; omega) HBD.out.2.1 (by have h1 := HBD.out; show 1 + 0 ≤ hs; omega) (fun W _ => readsL_nil W)
    have tk0 : Hid True := trivial
    go_wp2_with (first
      | (clear tk0; go_at_call 55; refine HNX.out.mono ?_; rintro e0 y7 ⟨rfl, P3, hd3, hl3, hm3, hg3⟩
         have HR3 : Hid (DkIs y7 gd P3 DX ∧ (X = 0 → Blk y7 lg (lgC gd hs 0 0 1 (.slice none 0 0) 1) 91) ∧ Mut P w y7 ∧ Grew w P P3) := ⟨hd3, hl3, HMV.out hm3 hg3⟩
         clear hd3 hl3 hm3 hg3))
    rotate_left
    · refine bodyPost_ret (results_tmp2 rfl _ _ _) rfl ?_
      have hx0 : X = 0 := by first | assumption | (rename_i h; simpa using h)
      have hlm : LgM y7 lg gd n (.slice none 0 0) [] JX := by
        rw [HXE.out.2.2]
        exact ⟨by rw [← HHS.out]; exact HR3.out.2.1 hx0, TxJ.nil (Nat.zero_le _)⟩
      refine ⟨P3, _, by rw [hx0]; rfl, HR3.out.1, HR3.out.2.2.1, HR3.out.2.2.2, fun _ => ⟨lg, _, rfl, ⟨_, _, hlm, rfl⟩, fun z hz => ⟨?_, pk_ap HR3.out.1 hlm z hz⟩⟩⟩
      rcases hz with rfl | h | ⟨uu, huu, h⟩
      · exact HLW.out
      · cases h
      · cases huu
    · refine bodyPost_ret (results_tmp2 rfl _ _ _) rfl ?_
      have hx0 : ¬ X = 0 := by first | assumption | (rename_i h; simpa using h)
      exact ⟨P3, _, rfl, HR3.out.1, HR3.out.2.2.1, HR3.out.2.2.2, fun h => absurd h hx0⟩
  · have hgz : ¬ ((gen : Int) = 0) := by omega
    obtain ⟨half, HHF⟩ : ∃ h, Hid (h = halfB b k) := ⟨_, rfl⟩
    obtain ⟨l, HL⟩ : ∃ l, Hid (l = (recsOf gen half).1) := ⟨_, rfl⟩
    have HTX : Hid (TxJ y1.heap.size (.slice a1 n1 c1) us l y6) := by
      have h := (HLK.out.nz hg).1.next HBV.out
      rw [← HHF.out, ← HL.out] at h
      exact h
    have HUU : Hid (u = 1 + secL l ∧ 1 + secL l ≤ hs) := by
      have h1 := (HLK.out.nz hg).2.1
      have h2 : half.length = 64 * hs := by rw [HHF.out, len_half HK1.out.1, HNH.out]
      have h3 := recs_inv (gen := gen) (half := half) (half.length / 64) 64 0 (by have := HBD.out; omega)
      rw [← HHF.out] at h1
      have h4 : (recsOf gen half).2 = 64 + sizeL (recsOf gen half).1 := h3.2.1
      have h5 : (recsOf gen half).2 ≤ half.length := h3.2.2.1
      rw [← HL.out, sizeL_eq] at h4
      exact ⟨by omega, by omega⟩
    have HCL : Hid (cl = decide (∀ z ∈ half.drop (recsOf gen half).2, z = 0)) := by show _ = _; rw [HHF.out]; exact (HLK.out.nz hg).2.2
    have HBQ : Hid (w.heap.size ≤ y1.heap.size) := HBW.out.size
    have HQG : Hid (∀ z, lgQ lg (.slice a1 n1 c1) us z → w.heap.size ≤ z) := fun z hz => by
      rcases hz with rfl | h | ⟨uu, huu, h⟩
      · exact HLW.out
      · exact Nat.le_trans HBQ.out (HTX.out.ge_all.1 z h).1
      · exact Nat.le_trans HBQ.out (HTX.out.ge_all.2 uu huu z h).1
    have hGG : openG D = if ∀ z ∈ half.drop (recsOf gen half).2, z = 0 then ([], ⟨k, gen, l⟩) else (anewS hs (1 - k) (gN gen) l, ⟨1 - k, gN gen, l⟩) := by
      rw [openG, HPB.out, if_neg hg, HHH.out, ← HB.out, ← HHF.out, ← HL.out]
    clear HLK HBW HBV
    cases cl with
    | true =>
      have HXE : Hid (X = 0 ∧ DX = D ∧ JX = ⟨k, gen, l⟩) := by
        rw [HX.out, HDX.out, HJX.out, hGG, if_pos (of_decide_eq_true HCL.out.symm)]
        exact ⟨rfl, rfl, rfl⟩
      clear hGG HCL
      go_wp2
      refine bodyPost_ret (results_tmp2 rfl _ _ _) rfl ?_
      have hlm : LgM y6 lg gd n (.slice a1 n1 c1) us JX := by
        rw [HXE.out.2.2]
        exact ⟨by rw [← HHS.out]; show Blk y6 lg (lgC gd hs 0 k gen _ (1 + secL l)) _; rw [← HUU.out.1]; exact HLB.out, HTX.out.lower (Nat.zero_le _)⟩
      refine ⟨P, _, by rw [HXE.out.1]; rfl, by rw [HXE.out.2.1]; exact HD6.out, mut_below HBX.out P, Grew.refl _ _, fun _ => ⟨lg, _, rfl, ⟨_, _, hlm, rfl⟩, fun z hz => ⟨HQG.out z hz, pk_ap HD6.out hlm z hz⟩⟩⟩
    | false =>
      have HXE : Hid (X = (runJ D (anewS hs (1 - k) (gN gen) l)).2 ∧ DX = (runJ D (anewS hs (1 - k) (gN gen) l)).1 ∧ JX = ⟨1 - k, gN gen, l⟩) := by
        rw [HX.out, HDX.out, HJX.out, hGG, if_neg (of_decide_eq_false HCL.out.symm)]
        exact ⟨rfl, rfl, rfl⟩
      clear hGG HCL
      have HNR : Hid (∀ z, w.heap.size ≤ z → z ≠ lg → ¬ Un P (fun z => z = lg) z) := fun z hz hn h => h.elim (fun hp => absurd (HLT.out z hp) (by omega)) hn
      have HNV : Hid (∀ z, (Value.slice a1 n1 c1).ownBlock = some z → z ≠ lg) := fun z hz e => by
        subst e
        exact ownX_ne_lg HTX.out.own HLB.out hz
      have HNU : Hid (∀ uu ∈ us, ∀ z, uu.ownBlock = some z → z ≠ lg) := fun uu huu z hz e => by
        subst e
        obtain ⟨i, hi, rfl⟩ := List.getElem_of_mem huu
        exact ownB_ne_lg (HTX.out.good i _ (List.getElem?_eq_getElem hi)) HLB.out hz
      have HNX : Hid (Calls Tryd.prog 56 #[.pointer (some ⟨lg, 0, none⟩), .slice a1 n1 c1] y6 fun e w' => e = .returned (.int .i64 X) ∧ ∃ P', DkIs w' gd P' DX ∧ (X = 0 → Blk w' lg (lgC gd hs 0 (1 - k) (gN gen) (.slice a1 n1 c1) (1 + secL l)) 91) ∧ Mut (Un P (fun z => z = lg)) y6 w' ∧ Grew y6 P P') := by
        rw [HXE.out.1, HXE.out.2.1]
        exact jNext_any (w := y6) hs k gen u _ (.slice a1 n1 c1) l HK6.out HD6.out HWT.out HLB.out HNP.out HK1.out.1 (by have := HBD.out; omega) HBD.out.2.1 HUU.out.2 (HTX.out.stN (fun z hz => HNR.out z (Nat.le_trans HBQ.out (HTX.out.ge_all.1 z hz).1) (HNV.out z hz)) (fun uu huu z hz => HNR.out z (Nat.le_trans HBQ.out (HTX.out.ge_all.2 uu huu z hz).1) (HNU.out uu huu z hz)))
      have tk0 : Hid True := trivial
      go_wp2_with (first
        | (clear tk0; go_at_call 56; refine HNX.out.mono ?_; rintro e0 y7 ⟨rfl, P3, hd3, hl3, hm3, hg3⟩
           have HR3 : Hid (DkIs y7 gd P3 DX ∧ (X = 0 → Blk y7 lg (lgC gd hs 0 (1 - k) (gN gen) (.slice a1 n1 c1) (1 + secL l)) 91) ∧ Mut P w y7 ∧ Grew w P P3) := ⟨hd3, hl3, HMV.out hm3 hg3⟩
           have HM3 : Hid (Mut (Un P (fun z => z = lg)) y6 y7) := hm3
           clear hd3 hl3 hm3 hg3))
      rotate_left
      · refine bodyPost_ret (results_tmp2 rfl _ _ _) rfl ?_
        have hx0 : X = 0 := by first | assumption | (rename_i h; simpa using h)
        have htx : TxJ 0 (.slice a1 n1 c1) us l y7 := (HTX.out.lower (Nat.zero_le _)).sameQ HM3.out.size (fun z hz => HM3.out.block z (HTX.out.ge_all.1 z hz).2 (HNR.out z (Nat.le_trans HBQ.out (HTX.out.ge_all.1 z hz).1) (HNV.out z hz))) (fun uu huu z hz => HM3.out.block z (HTX.out.ge_all.2 uu huu z hz).2 (HNR.out z (Nat.le_trans HBQ.out (HTX.out.ge_all.2 uu huu z hz).1) (HNU.out uu huu z hz)))
        have hlm : LgM y7 lg gd n (.slice a1 n1 c1) us JX := by
          rw [HXE.out.2.2]
          exact ⟨by rw [← HHS.out]; exact HR3.out.2.1 hx0, htx⟩
        exact ⟨P3, _, by rw [hx0]; rfl, HR3.out.1, HR3.out.2.2.1, HR3.out.2.2.2, fun _ => ⟨lg, _, rfl, ⟨_, _, hlm, rfl⟩, fun z hz => ⟨HQG.out z hz, pk_ap HR3.out.1 hlm z hz⟩⟩⟩
      · refine bodyPost_ret (results_tmp2 rfl _ _ _) rfl ?_
        have hx0 : ¬ X = 0 := by first | assumption | (rename_i h; simpa using h)
        exact ⟨P3, _, rfl, HR3.out.1, HR3.out.2.2.1, HR3.out.2.2.2, fun h => absurd h hx0⟩
end Go.Proofs.YtfleaipdoiiiiaaDoor
/- JournalReads, over what journal's functions do (layer 14). -/
namespace Go.Proofs.YtfleaipdoiiiiaaDoor
open Go.RowKit
set_option maxRecDepth 100000
end Go.Proofs.YtfleaipdoiiiiaaDoor
/- All that journal's functions do, as they landed (layer 14). -/
namespace Go.Proofs.YtfleaipdoiiiiaaDoor
open Go.RowKit
set_option maxRecDepth 100000
theorem mem_sizeL {l : List Bs} {x : Bs} (hx : x ∈ l) : x.length ≤ sizeL l := by
  obtain ⟨i, hi, rfl⟩ := List.getElem_of_mem hx
  have h2 := sizeL_take hi
  have h3 := sizeL_mono l (i + 1)
  rw [List.getD_eq_getElem?_getD, List.getElem?_eq_getElem hi] at h2
  simp only [Option.getD_some] at h2
  have h4 := secR_ge (l[i]).length
  omega
theorem pick_dump {D : DkT} (h : D.wait = []) : dumpD D = D.safe := by rw [dumpD, h]; rfl
theorem jnOps : JnOps LgJ where
  lt := fun h => by
    obtain ⟨vr, us, hm, rfl⟩ := h
    exact hm.lt
  same := fun h hs hq => by
    obtain ⟨vr, us, hm, rfl⟩ := h
    exact ⟨vr, us, hm.same hs hq, rfl⟩
  head := fun gen w hg hk => (jHead_own gen hg w hk).mono (fun e w' h => by
    obtain ⟨v, h1, h2, h3⟩ := h
    exact ⟨v, h1, h2.reads, h3⟩)
  text := fun gen seq v x w hg hq hx _ hr => (jText_own gen seq hg hq v x (by omega) w hr).mono (fun e w' h => by
    obtain ⟨v, h1, h2, h3⟩ := h
    exact ⟨v, h1, h2.reads, h3⟩)
  record := fun gen seq v x w hg hq hx hk hr => (jRecord_own gen seq hg hq v x (by omega) w hk hr).mono (fun e w' h => by
    obtain ⟨v, h1, h2, h3⟩ := h
    exact ⟨v, h1, h2.reads, h3⟩)
  check := fun v x w hr => (jCheck_any v x w hr).mono (fun e w' h => by
    obtain ⟨h1, h2⟩ := h
    rw [h2]
    exact ⟨h1, Below.refl _ _⟩)
  read := fun v b w hl hk hr => jRead_any v b (by omega) w hk hr
  opens := fun {w gd P D} hk hd hw hs hg => by
    by_cases h8 : sizeD D < 8
    · refine (jOpen_small hd h8).mono (fun e w' h => ?_)
      obtain ⟨h1, h2⟩ := h
      subst h2
      rw [show openX D = 1 from if_pos h8, show openD D = D from if_pos h8]
      exact ⟨P, _, h1, hd, Mut.refl _ _, Grew.refl _ _, fun h => absurd h (by decide), fun _ => rfl⟩
    · have h9 := openG_eq (D := D) (by rw [pick_dump hw]; exact hg (by omega))
      have hok : okD D := by obtain ⟨_, _, _, _, hm, _⟩ := hd; exact hm.ok
      refine (jOpen_any hk hd hw hs (by omega)).mono (fun e w' h => ?_)
      obtain ⟨P', lv, h1, h2⟩ := h
      rw [h9] at h1 h2
      rw [show openX D = (runJ D (openS D).1).2 from if_neg h8, show openD D = (runJ D (openS D).1).1 from if_neg h8, (run_size _ D hok).1]
      exact ⟨P', lv, h1, h2.dk, h2.mv, h2.gr, h2.lg, fun h => absurd h h8⟩
  opensX := fun {w gd P D} hk hd hw hs => by
    by_cases h8 : sizeD D < 8
    · refine (jOpen_small hd h8).mono (fun e w' h => ?_)
      obtain ⟨h1, h2⟩ := h
      subst h2
      exact ⟨P, D, _, _, h1, hd, Mut.refl _ _, Grew.refl _ _⟩
    · refine (jOpen_any hk hd hw hs (by omega)).mono (fun e w' h => ?_)
      obtain ⟨P', lv, h1, h2⟩ := h
      exact ⟨P', _, lv, _, h1, h2.dk, h2.mv, h2.gr⟩
  app := fun v x hk hp hok hx hs => jAppend_any v x hk hp hok hx hs
  restart := fun v m hk hp hok hl hx hs => jRestart_any v m hk hp hok hl hx hs
  all := fun {w lg Q gd n J} h hl hz => by
    obtain ⟨vr, us, hm, rfl⟩ := h
    exact jAll_any hm.lb hm.tx.readsL (by omega) (fun x hx => by have := mem_sizeL hx; omega)
  room := fun {w gd lg P Q D J} hp hok => by
    obtain ⟨vr, us, hm, hQ⟩ := hp.lg
    have h1 := hok.fit
    have h2 := hok.hi
    have h3 := sizeL_eq J.l
    unfold hsD at h1
    have h4 := jRoom_any hm.lb (by omega) (by omega)
    rw [show min 1048576 (64 * (sizeD D / 2 - (1 + secL J.l)) - 57) = roomZ J.l (sizeD D) from by rw [roomZ]; omega] at h4
    exact h4
  gen := fun h => by
    obtain ⟨vr, us, hm, rfl⟩ := h
    exact (jGen_any hm.lb).mono (fun e w' h => by
      obtain ⟨h1, h2⟩ := h
      rw [h2]
      exact ⟨h1, Below.refl _ _⟩)
end Go.Proofs.YtfleaipdoiiiiaaDoor
/- Plain: what an act leaves of the first sectors, whatever fuse there is, and what is opened behind a loss of power (layer 14). -/
namespace Go.Proofs.YtfleaipdoiiiiaaDoor
open Go.RowKit
set_option maxRecDepth 100000
end Go.Proofs.YtfleaipdoiiiiaaDoor
/- JournalGoesOn, over what journal's functions do (layer 14). -/
namespace Go.Proofs.YtfleaipdoiiiiaaDoor
open Go.RowKit
set_option maxRecDepth 100000
theorem Mut.wide {P P' : Nat → Prop} {w w' : World} (h : Mut P w w') (hP : ∀ k, P k → P' k) : Mut P' w w' := ⟨h.os, h.tape, h.output, h.size, fun k hk hn => h.block k hk (fun hp => hn (hP k hp))⟩
end Go.Proofs.YtfleaipdoiiiiaaDoor
/- blazonref14.Append and the statements' do, where a text's own block is turned behind the call (layer 14). -/
namespace Go.Proofs.YtfleaipdoiiiiaaDoor
open Go.RowKit
set_option maxRecDepth 100000
theorem Sta.sub {P R : Nat → Prop} {w : World} {X : World → Prop} (h : Sta R w X) (hPR : ∀ k, P k → R k) : Sta P w X := fun w' m => h w' (m.wide hPR)
theorem StaL.sub {P R : Nat → Prop} {w : World} {v : Value} {l : List Bs} (h : StaL R w v l) (hPR : ∀ k, P k → R k) : StaL P w v l := by
  obtain ⟨ad, cap, h1, h2, h3, h4⟩ := h
  refine ⟨ad, cap, h1, h2, h3, fun hp => ?_⟩
  obtain ⟨b, off, h5, h6, h7⟩ := h4 hp
  refine ⟨b, off, h5, fun h => h6 (hPR b h), fun j hj => ?_⟩
  obtain ⟨vj, h8, h9⟩ := h7 j hj
  exact ⟨vj, h8, h9.sub hPR⟩
/-- blocks of either, or the block gb -/
def UnG (P Q : Nat → Prop) (gb : Nat) : Nat → Prop := fun k => Un P Q k ∨ k = gb
/-- a slice of texts and one more, whatever blocks of R become: of the one more nothing is said -/
def StaP (R : Nat → Prop) (w : World) (v : Value) (l : List Bs) : Prop :=
  ∃ b off cap, v = .slice (some ⟨b, off, none⟩) (l.length + 1) cap ∧ l.length + 1 ≤ cap ∧ ¬ R b ∧ b < w.heap.size ∧ ∀ j, j < l.length → ∃ vj, w.cell? ⟨b, off + j, none⟩ = some vj ∧ Sta R w (fun W => Reads W vj (l.getD j []))
theorem StaP.go {P P' : Nat → Prop} {w w' : World} {v : Value} {l : List Bs} (h : StaP P w v l) (m : Mut P w w') (hP : ∀ k, k < w.heap.size → P' k → P k) : StaP P' w' v l := by
  obtain ⟨b, off, cap, h1, h2, h3, h4, h5⟩ := h
  refine ⟨b, off, cap, h1, h2, fun hb => h3 (hP b h4 hb), Nat.lt_of_lt_of_le h4 m.size, fun j hj => ?_⟩
  obtain ⟨vj, h7, h9⟩ := h5 j hj
  exact ⟨vj, m.cell h3 h7, h9.go m hP⟩
/-- cut to all but the last one -/
theorem StaP.cut {R : Nat → Prop} {w : World} {b off cap : Nat} {l : List Bs} (h : StaP R w (.slice (some ⟨b, off, none⟩) (l.length + 1) cap) l) : StaL R w (.slice (some ⟨b, off, none⟩) l.length cap) l := by
  obtain ⟨b', off', cap', h1, h2, h3, h4, h5⟩ := h
  simp only [Value.slice.injEq, Option.some.injEq, Addr.mk.injEq] at h1
  obtain ⟨⟨rfl, rfl, _⟩, _, rfl⟩ := h1
  exact ⟨_, _, rfl, by omega, (fun e => by cases e), fun _ => ⟨b, off, rfl, h3, h5⟩⟩
theorem OwnX.staP {R : Nat → Prop} {W : World} {base : Nat} {v : Value} {us : List Value} {xs : List Bs} (h : OwnX W base v us) (hP : ∀ k, R k → k < base) (hlen : us.length = xs.length + 1) (hg : ∀ j u, j < xs.length → us[j]? = some u → Sta R W (fun X => Reads X u (xs.getD j []))) : StaP R W v xs := by
  have hlt := h.lt
  obtain ⟨h1, h2⟩ := id h
  rcases h2 with ⟨rfl, h0⟩ | ⟨g, cap, cur, rfl, hg2, hh, hc, hm, hs, ht⟩
  · rw [hlen] at h0; cases h0
  · refine ⟨g, 0, cap, by rw [hlen], by rw [← hlen]; exact hc, fun hp => absurd (hP g hp) (by omega), (hlt g rfl).2, fun j hj => ?_⟩
    have hj2 : j < us.length := by omega
    refine ⟨us[j], ?_, hg j _ hj (List.getElem?_eq_getElem hj2)⟩
    rw [cell_of_row W g (0 + j) cur _ (0, 0) hh, Nat.zero_add]
    rw [Nat.mul_one] at ht
    have := List.getElem?_eq_getElem hj2
    conv at this => lhs; rw [← ht]
    rw [List.getElem?_take_of_lt hj2] at this
    simpa using this
set_option maxRecDepth 100000 in
set_option maxHeartbeats 8000000 in
theorem nAppend_s2 (P R : Nat → Prop) (hPR : ∀ k, P k → R k) (vl vb : Value) (l : List Bs) (b : Bs) (n : Nat) (hll : l.length < 1000000) (hsz : sizeL (l ++ [b]) < 1000000000) (hn : n < 1000000) (w : World) (hP : ∀ k, R k → k < w.heap.size) (hl : StaL R w vl l) (hb : Sta P w (fun W => Reads W vb b)) : Calls Tryd.prog 37 #[vl, vb, .int .i64 (n : Int)] w fun e w' => ∃ lv, e = .returned (.tuple #[lv, .int .i64 (apX l b n)]) ∧ StaL P w' lv (apL l b n) ∧ (apX l b n ≠ 0 → StaL R w' lv l) ∧ (apX l b n = 0 → StaP R w' lv l) ∧ Below w.heap.size w w' := by
  obtain ⟨al, nl, cl, hvl⟩ : ∃ a n c, vl = .slice a n c := by obtain ⟨a, c, hv, _⟩ := hl; exact ⟨_, _, _, hv⟩
  obtain ⟨ab, nb, cbb, hvb⟩ := hb.now.form
  subst hvl hvb
  have HRL : Hid (StaL R w (.slice al nl cl) l) := hl
  have HPR : Hid (∀ k, P k → R k) := hPR
  have HPL : Hid (∀ k, R k → k < w.heap.size) := hP
  have HB : Hid (Sta P w (fun W => Reads W (.slice ab nb cbb) b)) := hb
  have HLL : Hid (l.length < 1000000) := hll
  have HCK := nCheck_any (.slice ab nb cbb) b w hb.now
  have HBW : Hid (Below w.heap.size w w) := Below.refl _ _
  rcases chk_or b with hc | hc
  · rw [hc] at HCK
    replace HCK : Hid (Calls Tryd.prog 21 #[.slice ab nb cbb] w fun e w' => e = .returned (.int .i64 0) ∧ w' = w) := HCK
    have HFT0 := fun (W : World) (v : Value) (h : ReadsL W v (l ++ [b])) => nFits_any v (l ++ [b]) hsz n hn W h
    by_cases hf : fit14 (l ++ [b]) n = true
    · have hx : apX l b n = 0 := by rw [apX, if_neg (by rw [hc]; decide), if_pos hf]
      have hL : apL l b n = l ++ [b] := by rw [apL, if_pos hx]
      rw [hx, hL]
      unfold fit14 at hf
      rw [hf] at HFT0
      have HFT : Hid (∀ (W : World) (v : Value), ReadsL W v (l ++ [b]) → Calls Tryd.prog 62 #[v, .int .i64 (n : Int)] W fun e w' => e = .returned (.bool true) ∧ w' = W) := HFT0
      clear HFT0 hPR hl hb hP hll hsz hn hc hf hx hL
      go_enter Tryd.func37, Tryd.ntmps37
      have tk0 : Hid True := trivial
      have tk1 : Hid True := trivial
      have tk2 : Hid True := trivial
      have tk3 : Hid True := trivial
      have tk4 : Hid True := trivial
      go_wp2_with (first
          | (clear tk0; go_at_call 21; refine (HCK.out).mono ?_; rintro e0 y0 ⟨rfl, hy0⟩; subst hy0)
          | (clear tk1; at_builtin; with_reducible refine wpSeq_appXt R (.tmp 16) (.tmp 17) y0.heap.size l al nl cl HRL.out HLL.out (Nat.le_refl _) ?_ ?_ ?_ ?_ ?_
             · rfl
             · rfl
             · rfl
             · rfl
             intro v1 y1 us hul hus hown hz
             obtain ⟨a1, c1, hv⟩ := hown.form
             obtain ⟨n1, HN1⟩ : ∃ n, Hid (n = us.length) := ⟨_, rfl⟩
             rw [← HN1.out] at hv
             subst hv
             have HO1 : Hid (OwnX y1 y0.heap.size (.slice a1 n1 c1) us) := hown
             have HUL : Hid (us.length = l.length ∧ us.length < 1000000) := ⟨hul, by rw [hul]; exact HLL.out⟩
             have HUS : Hid (∀ j u, us[j]? = some u → Sta R y0 (fun W => Reads W u (l.getD j []))) := hus
             replace HBW : Hid (Below y0.heap.size y0 y1) := hz
             clear hul hus hown hz)
          | (clear tk2; with_reducible refine wpSeq_buildX (.tmp 20) ab nb cbb ?_ ?_ ?_ ?_
             · rfl
             · rfl
             · rfl
             intro g6 y6 hg6 hy6
             have HB6 : Hid (Below y1.heap.size y1 y6) := by rw [hy6]; exact below_alloc _ _
             have HC6 : Hid (y6.cell? ⟨g6, 0, none⟩ = some (.slice ab nb cbb)) := by
               have h9 : Blk y6 g6 [.slice ab nb cbb] 22 := by rw [hg6, hy6]; exact Blk.new _ _ _
               exact h9.cell 0
             have HX6 : Hid (OwnX y6 y0.heap.size (.slice a1 n1 c1) us) := HO1.out.same (fun k hk => HB6.out.block k (HO1.out.lt k hk).2)
             replace HBW : Hid (Below y0.heap.size y0 y6) := HBW.out.trans (HB6.out.mono HBW.out.size)
             clear hg6 hy6)
          | (clear tk3; at_builtin; with_reducible refine wpSeq_appX (.tmp 19) (.tmp 21) y0.heap.size (.slice a1 n1 c1) (.slice ab nb cbb) us g6 HX6.out HC6.out rfl HUL.out.2 HBW.out.size ?_ ?_ ?_ ?_ ?_
             · rfl
             · rfl
             · rfl
             · rfl
             intro v7 y7 hown hgr
             have hb7 : Below y0.heap.size y0 y7 := HBW.out.trans ((Below.refl _ _).grown hgr HBW.out.size (fun k hk => (HX6.out.lt k hk).1))
             have HRO : Hid (StaL P y7 v7 (l ++ [b])) := by
               refine hown.staL (fun k hk => HPL.out k (HPR.out k hk)) (by rw [List.length_append, List.length_append, HUL.out.1]; rfl) (fun j u hj => ?_)
               by_cases hjl : j < us.length
               · rw [List.getElem?_append_left hjl] at hj
                 rw [List.getD_eq_getElem?_getD, List.getElem?_append_left (by rw [← HUL.out.1]; exact hjl), ← List.getD_eq_getElem?_getD]
                 exact ((HUS.out j u hj).below hb7).sub HPR.out
               · rw [List.getElem?_append_right (by omega)] at hj
                 have hj0 : j = us.length := by have := (List.getElem?_eq_some_iff.1 hj).1; simp at this; omega
                 subst hj0
                 simp at hj
                 subst hj
                 rw [List.getD_eq_getElem?_getD, HUL.out.1, List.getElem?_append_right (Nat.le_refl _), Nat.sub_self]
                 exact HB.out.below hb7
             have HRP : Hid (StaP R y7 v7 l) := hown.staP HPL.out (by rw [List.length_append, HUL.out.1]; rfl) (fun j u hjl hj => by
               rw [List.getElem?_append_left (by rw [HUL.out.1]; exact hjl)] at hj
               exact (HUS.out j u hj).below hb7)
             replace HRL : Hid (StaL R y7 (.slice al nl cl) l) := HRL.out.below hb7
             replace HBW : Hid (Below y0.heap.size y0 y7) := hb7
             obtain ⟨a7, c7, hv⟩ := hown.form
             obtain ⟨n7, HN7⟩ : ∃ n, Hid (n = (us ++ [Value.slice ab nb cbb]).length) := ⟨_, rfl⟩
             rw [← HN7.out] at hv
             subst hv
             clear hown hgr hb7)
          | (clear tk4; go_at_call 62; refine (HFT.out _ _ HRO.out.now).mono ?_; rintro e0 y8 ⟨rfl, hy8⟩; subst hy8))
      refine bodyPost_ret (results_tmp2 rfl _ _ _) rfl ?_
      exact ⟨_, rfl, HRO.out, fun h => absurd rfl h, fun _ => HRP.out, HBW.out⟩
    · have hx : apX l b n = 13 := by rw [apX, if_neg (by rw [hc]; decide), if_neg hf]
      have hL : apL l b n = l := by rw [apL, if_neg (by rw [hx]; decide)]
      rw [hx, hL]
      unfold fit14 at hf
      rw [Bool.not_eq_true] at hf
      rw [hf] at HFT0
      have HFT : Hid (∀ (W : World) (v : Value), ReadsL W v (l ++ [b]) → Calls Tryd.prog 62 #[v, .int .i64 (n : Int)] W fun e w' => e = .returned (.bool false) ∧ w' = W) := HFT0
      clear HFT0 hPR hl hb hP hll hsz hn hc hf hx hL
      go_enter Tryd.func37, Tryd.ntmps37
      have tk0 : Hid True := trivial
      have tk1 : Hid True := trivial
      have tk2 : Hid True := trivial
      have tk3 : Hid True := trivial
      have tk4 : Hid True := trivial
      go_wp2_with (first
          | (clear tk0; go_at_call 21; refine (HCK.out).mono ?_; rintro e0 y0 ⟨rfl, hy0⟩; subst hy0)
          | (clear tk1; at_builtin; with_reducible refine wpSeq_appXt R (.tmp 16) (.tmp 17) y0.heap.size l al nl cl HRL.out HLL.out (Nat.le_refl _) ?_ ?_ ?_ ?_ ?_
             · rfl
             · rfl
             · rfl
             · rfl
             intro v1 y1 us hul hus hown hz
             obtain ⟨a1, c1, hv⟩ := hown.form
             obtain ⟨n1, HN1⟩ : ∃ n, Hid (n = us.length) := ⟨_, rfl⟩
             rw [← HN1.out] at hv
             subst hv
             have HO1 : Hid (OwnX y1 y0.heap.size (.slice a1 n1 c1) us) := hown
             have HUL : Hid (us.length = l.length ∧ us.length < 1000000) := ⟨hul, by rw [hul]; exact HLL.out⟩
             have HUS : Hid (∀ j u, us[j]? = some u → Sta R y0 (fun W => Reads W u (l.getD j []))) := hus
             replace HBW : Hid (Below y0.heap.size y0 y1) := hz
             clear hul hus hown hz)
          | (clear tk2; with_reducible refine wpSeq_buildX (.tmp 20) ab nb cbb ?_ ?_ ?_ ?_
             · rfl
             · rfl
             · rfl
             intro g6 y6 hg6 hy6
             have HB6 : Hid (Below y1.heap.size y1 y6) := by rw [hy6]; exact below_alloc _ _
             have HC6 : Hid (y6.cell? ⟨g6, 0, none⟩ = some (.slice ab nb cbb)) := by
               have h9 : Blk y6 g6 [.slice ab nb cbb] 22 := by rw [hg6, hy6]; exact Blk.new _ _ _
               exact h9.cell 0
             have HX6 : Hid (OwnX y6 y0.heap.size (.slice a1 n1 c1) us) := HO1.out.same (fun k hk => HB6.out.block k (HO1.out.lt k hk).2)
             replace HBW : Hid (Below y0.heap.size y0 y6) := HBW.out.trans (HB6.out.mono HBW.out.size)
             clear hg6 hy6)
          | (clear tk3; at_builtin; with_reducible refine wpSeq_appX (.tmp 19) (.tmp 21) y0.heap.size (.slice a1 n1 c1) (.slice ab nb cbb) us g6 HX6.out HC6.out rfl HUL.out.2 HBW.out.size ?_ ?_ ?_ ?_ ?_
             · rfl
             · rfl
             · rfl
             · rfl
             intro v7 y7 hown hgr
             have hb7 : Below y0.heap.size y0 y7 := HBW.out.trans ((Below.refl _ _).grown hgr HBW.out.size (fun k hk => (HX6.out.lt k hk).1))
             have HRO : Hid (StaL P y7 v7 (l ++ [b])) := by
               refine hown.staL (fun k hk => HPL.out k (HPR.out k hk)) (by rw [List.length_append, List.length_append, HUL.out.1]; rfl) (fun j u hj => ?_)
               by_cases hjl : j < us.length
               · rw [List.getElem?_append_left hjl] at hj
                 rw [List.getD_eq_getElem?_getD, List.getElem?_append_left (by rw [← HUL.out.1]; exact hjl), ← List.getD_eq_getElem?_getD]
                 exact ((HUS.out j u hj).below hb7).sub HPR.out
               · rw [List.getElem?_append_right (by omega)] at hj
                 have hj0 : j = us.length := by have := (List.getElem?_eq_some_iff.1 hj).1; simp at this; omega
                 subst hj0
                 simp at hj
                 subst hj
                 rw [List.getD_eq_getElem?_getD, HUL.out.1, List.getElem?_append_right (Nat.le_refl _), Nat.sub_self]
                 exact HB.out.below hb7
             have HRP : Hid (StaP R y7 v7 l) := hown.staP HPL.out (by rw [List.length_append, HUL.out.1]; rfl) (fun j u hjl hj => by
               rw [List.getElem?_append_left (by rw [HUL.out.1]; exact hjl)] at hj
               exact (HUS.out j u hj).below hb7)
             replace HRL : Hid (StaL R y7 (.slice al nl cl) l) := HRL.out.below hb7
             replace HBW : Hid (Below y0.heap.size y0 y7) := hb7
             obtain ⟨a7, c7, hv⟩ := hown.form
             obtain ⟨n7, HN7⟩ : ∃ n, Hid (n = (us ++ [Value.slice ab nb cbb]).length) := ⟨_, rfl⟩
             rw [← HN7.out] at hv
             subst hv
             clear hown hgr hb7)
          | (clear tk4; go_at_call 62; refine (HFT.out _ _ HRO.out.now).mono ?_; rintro e0 y8 ⟨rfl, hy8⟩; subst hy8))
      refine bodyPost_ret (results_tmp2 rfl _ _ _) rfl ?_
      exact ⟨_, rfl, HRL.out.sub HPR.out, fun _ => HRL.out, fun h => absurd h (by decide), HBW.out⟩
  · have hx : apX l b n = 1 := by rw [apX, if_pos hc]
    have hL : apL l b n = l := by rw [apL, if_neg (by rw [hx]; decide)]
    rw [hc] at HCK
    replace HCK : Hid (Calls Tryd.prog 21 #[.slice ab nb cbb] w fun e w' => e = .returned (.int .i64 1) ∧ w' = w) := HCK
    rw [hx, hL]
    clear hPR hl hb hP hll hsz hn hc hx hL
    go_enter Tryd.func37, Tryd.ntmps37
    have tk0 : Hid True := trivial
    go_wp2_with (first
    | (clear tk0; go_at_call 21; refine (HCK.out).mono ?_; rintro e0 y0 ⟨rfl, hy0⟩; subst hy0))
    refine bodyPost_ret (results_tmp2 rfl _ _ _) rfl ?_
    exact ⟨_, rfl, HRL.out.sub HPR.out, fun _ => HRL.out, fun h => absurd h (by decide), HBW.out⟩
set_option maxRecDepth 100000 in
set_option maxHeartbeats 2000000 in
theorem do14_own {Lg : World → Nat → (Nat → Prop) → Nat → Nat → JnT → Prop} (OPS : JnOps Lg) {gd lg : Nat} {P Q : Nat → Prop} {D : DkT} {J : JnT} (gb : Nat) (vl vB vL : Value) (o : OpT) (w : World) (hgb : gb < w.heap.size) (hgu : ¬ Un P Q gb) (hK : KOk w) (hp : Pk Lg w gd lg P Q D J) (hok : okJ D J) (hoo : okO o) (hJl : J.l.length ≤ 1000) (hl : StaL (UnG P Q gb) w vl J.l) (hB : Sta (Un P Q) w (fun W => Reads W vB o.b)) (hL : StaL (UnG P Q gb) w vL o.l) :
    Calls Tryd.prog 28 #[.pointer (some ⟨lg, 0, none⟩), vl, .agg [.bool o.ag, vB, vL].toArray, .int .i64 (sizeD D : Int)] w fun e w' => ∃ mv P' Q', e = .returned (.tuple #[mv, .int .i64 (doX J D o), .int .i64 (doF J.l o (sizeD D))]) ∧ (¬ (o.ag = false ∧ doF J.l o (sizeD D) = 0) → StaL (UnG P' Q' gb) w' mv (doL J.l o (sizeD D))) ∧ (o.ag = false ∧ doF J.l o (sizeD D) = 0 → StaP (UnG P' Q' gb) w' mv J.l) ∧ DkIs w' gd P' (doD J D o) ∧ (doX J D o ≠ 14 → Pk Lg w' gd lg P' Q' (doD J D o) (doJ J D o)) ∧ Mut (Un P Q) w w' ∧ Grew w (Un P Q) (Un P' Q') := by
  obtain ⟨al, nl, cl, rfl⟩ : ∃ a n c, vl = .slice a n c := by obtain ⟨a, c, hv, _⟩ := hl; exact ⟨_, _, _, hv⟩
  obtain ⟨aL, nL, cL, rfl⟩ : ∃ a n c, vL = .slice a n c := by obtain ⟨a, c, hv, _⟩ := hL; exact ⟨_, _, _, hv⟩
  obtain ⟨aB, nB, cB, rfl⟩ := hB.now.form
  have HPK : Hid (Pk Lg w gd lg P Q D J) := hp
  have HRL : Hid (StaL (UnG P Q gb) w (.slice al nl cl) J.l) := hl
  have HGB : Hid (gb < w.heap.size ∧ ¬ Un P Q gb) := ⟨hgb, hgu⟩
  have HRB : Hid (Sta (Un P Q) w (fun W => Reads W (.slice aB nB cB) o.b)) := hB
  have HRM : Hid (StaL (UnG P Q gb) w (.slice aL nL cL) o.l) := hL
  have HK0 : Hid (KOk w) := hK
  have HBW : Hid (Below w.heap.size w w) := Below.refl _ _
  have hfit := hok.fit
  have hhi := hok.hi
  have hsj : sizeL J.l ≤ 6400 := by rw [sizeL_eq]; unfold hsD at hfit; omega
  cases hag : o.ag with
  | true =>
    rw [show doX J D o = rstX J D o.l from by rw [doX, hag]; rfl, show doF J.l o (sizeD D) = rsX o.l (sizeD D) from by rw [doF, hag]; rfl, show doL J.l o (sizeD D) = rsL J.l o.l (sizeD D) from by rw [doL, hag]; rfl, show doD J D o = rstD J D o.l from by rw [doD, hag]; rfl, show doJ J D o = rstJ J D o.l from by rw [doJ, hag]; rfl]
    have HRS : Hid (∀ W, StaL (UnG P Q gb) W (.slice al nl cl) J.l → StaL (UnG P Q gb) W (.slice aL nL cL) o.l → Calls Tryd.prog 58 #[.slice al nl cl, .slice aL nL cL, .int .i64 (sizeD D : Int)] W fun e w' => ∃ lv, e = .returned (.tuple #[lv, .int .i64 (rsX o.l (sizeD D))]) ∧ StaL (UnG P Q gb) w' lv (rsL J.l o.l (sizeD D)) ∧ w' = W) := fun W h1 h2 => nRestart_st _ _ _ J.l o.l (sizeD D) (by have := hoo.n; omega) (fun _ => by have := hoo.s; omega) (by omega) W h1 h2
    have HJA : Hid (∀ W, KOk W → Pk Lg W gd lg P Q D J → Sta (Un P Q) W (fun X => ReadsL X (.slice aL nL cL) o.l) → Calls Tryd.prog 59 #[.pointer (some ⟨lg, 0, none⟩), .slice aL nL cL] W fun e w' => e = .returned (.int .i64 (rstX J D o.l)) ∧ ∃ P' Q', DkIs w' gd P' (rstD J D o.l) ∧ Mut (Un P Q) W w' ∧ Grew W (Un P Q) (Un P' Q') ∧ (rstX J D o.l ≠ 14 → Pk Lg w' gd lg P' Q' (rstD J D o.l) (rstJ J D o.l))) := fun W hk h1 h2 => OPS.restart _ o.l hk h1 hok hoo.n hoo.l h2
    clear hgb hgu hp hok hoo hJl hl hB hL hK hfit hhi hsj
    go_enter Tryd.func28, Tryd.ntmps28
    have tk0 : Hid True := trivial
    have tk1 : Hid True := trivial
    have tk2 : Hid True := trivial
    go_wp2_with (first
        | (clear tk0; with_reducible refine wpSeq_boxW 50 (.tmp 2) [.bool true, .slice aB nB cB, .slice aL nL cL] ?_ ?_ ?_ ?_
           · rfl
           · rfl
           · rfl
           intro g6 y1 nn
           have HG6 : Hid (Blk y1 g6 [.bool true, .slice aB nB cB, .slice aL nL cL] 50) := nn.blk
           have c0 : y1.cell? ⟨g6, 0, none⟩ = some (.bool true) := HG6.out.cell 0
           have c1 : y1.cell? ⟨g6, 2, none⟩ = some (.slice aL nL cL) := HG6.out.cell 2
           have HNU : Hid (¬ Un P Q g6) := fun h => absurd (HPK.out.lt OPS g6 h) (by have := nn.ge; omega)
           replace HPK : Hid (Pk Lg y1 gd lg P Q D J) := HPK.out.below OPS nn.below
           replace HRL : Hid (StaL (UnG P Q gb) y1 (.slice al nl cl) J.l) := HRL.out.below nn.below
           replace HRB : Hid (Sta (Un P Q) y1 (fun W => Reads W (.slice aB nB cB) o.b)) := HRB.out.below nn.below
           replace HRM : Hid (StaL (UnG P Q gb) y1 (.slice aL nL cL) o.l) := HRM.out.below nn.below
           replace HBW : Hid (Below w.heap.size w y1) := nn.below
           clear nn)
        | (clear tk1; go_at_call 58; refine (HRS.out _ HRL.out HRM.out).mono ?_; rintro e0 y2 ⟨mv, rfl, hs, hy⟩
           subst hy
           have HMV : Hid (StaL (UnG P Q gb) y2 mv (rsL J.l o.l (sizeD D))) := hs
           clear hs)
        | (clear tk2; go_at_call 59; refine (HJA.out _ (HK0.out.below HBW.out HK0.out.lt) HPK.out (HRM.out.sub (fun k hk => Or.inl hk)).sta).mono ?_; rintro e0 y3 ⟨rfl, P3, Q3, hd, hm, hg, hp⟩
           have HDK : Hid (DkIs y3 gd P3 (rstD J D o.l)) := hd
           have HPK3 : Hid (rstX J D o.l ≠ 14 → Pk Lg y3 gd lg P3 Q3 (rstD J D o.l) (rstJ J D o.l)) := hp
           replace HMV : Hid (StaL (UnG P3 Q3 gb) y3 mv (rsL J.l o.l (sizeD D))) := HMV.out.go (hm.wide (fun k hk => Or.inl hk)) (fun k hk h => h.imp (hg.old k hk) id)
           have HMU : Hid (Mut (Un P Q) w y3) := (mut_below HBW.out _).trans (fun _ _ h => h) hm
           have HGW : Hid (Grew w (Un P Q) (Un P3 Q3)) := fun k hk => (hg k hk).elim Or.inl (fun h => Or.inr (Nat.le_trans HBW.out.size h))
           clear hd hm hg hp c0 c1))
    refine bodyPost_ret (results_3J rfl _ _ _) rfl ?_
    exact ⟨mv, P3, Q3, rfl, fun _ => HMV.out, (fun h => by cases h.1), HDK.out, HPK3.out, HMU.out, HGW.out⟩
  | false =>
    rw [show doX J D o = appX J D o.b from by rw [doX, hag]; rfl, show doF J.l o (sizeD D) = apX J.l o.b (sizeD D) from by rw [doF, hag]; rfl, show doL J.l o (sizeD D) = apL J.l o.b (sizeD D) from by rw [doL, hag]; rfl, show doD J D o = appD J D o.b from by rw [doD, hag]; rfl, show doJ J D o = appJ J D o.b from by rw [doJ, hag]; rfl]
    have hsb : secR o.b.length ≤ 2000 := by have := hoo.b; unfold secR; omega
    have HAS : Hid (∀ W, (∀ k, UnG P Q gb k → k < W.heap.size) → StaL (UnG P Q gb) W (.slice al nl cl) J.l → Sta (Un P Q) W (fun X => Reads X (.slice aB nB cB) o.b) → Calls Tryd.prog 37 #[.slice al nl cl, .slice aB nB cB, .int .i64 (sizeD D : Int)] W fun e w' => ∃ lv, e = .returned (.tuple #[lv, .int .i64 (apX J.l o.b (sizeD D))]) ∧ (apX J.l o.b (sizeD D) ≠ 0 → StaL (UnG P Q gb) w' lv J.l) ∧ (apX J.l o.b (sizeD D) = 0 → StaP (UnG P Q gb) w' lv J.l) ∧ Below W.heap.size W w') := fun W h0 h1 h2 => (nAppend_s2 (Un P Q) (UnG P Q gb) (fun k hk => Or.inl hk) _ _ J.l o.b (sizeD D) (by omega) (by rw [sizeL_snoc]; omega) (by omega) W h0 h1 h2).mono (fun e w' h => by obtain ⟨lv, e1, _, e2⟩ := h; exact ⟨lv, e1, e2⟩)
    have HJA : Hid (∀ W, KOk W → Pk Lg W gd lg P Q D J → Sta (Un P Q) W (fun X => Reads X (.slice aB nB cB) o.b) → Calls Tryd.prog 38 #[.pointer (some ⟨lg, 0, none⟩), .slice aB nB cB] W fun e w' => e = .returned (.int .i64 (appX J D o.b)) ∧ ∃ P' Q', DkIs w' gd P' (appD J D o.b) ∧ Mut (Un P Q) W w' ∧ Grew W (Un P Q) (Un P' Q') ∧ (appX J D o.b ≠ 14 → Pk Lg w' gd lg P' Q' (appD J D o.b) (appJ J D o.b))) := fun W hk h1 h2 => OPS.app _ o.b hk h1 hok hoo.b h2
    clear hgb hgu hp hok hoo hJl hl hB hL hK hfit hhi hsj hsb
    go_enter Tryd.func28, Tryd.ntmps28
    have tk0 : Hid True := trivial
    have tk1 : Hid True := trivial
    have tk2 : Hid True := trivial
    go_wp2_with (first
        | (clear tk0; with_reducible refine wpSeq_boxW 50 (.tmp 2) [.bool false, .slice aB nB cB, .slice aL nL cL] ?_ ?_ ?_ ?_
           · rfl
           · rfl
           · rfl
           intro g6 y1 nn
           have HG6 : Hid (Blk y1 g6 [.bool false, .slice aB nB cB, .slice aL nL cL] 50) := nn.blk
           have c0 : y1.cell? ⟨g6, 0, none⟩ = some (.bool false) := HG6.out.cell 0
           have c1 : y1.cell? ⟨g6, 1, none⟩ = some (.slice aB nB cB) := HG6.out.cell 1
           have HNU : Hid (¬ Un P Q g6) := fun h => absurd (HPK.out.lt OPS g6 h) (by have := nn.ge; omega)
           replace HPK : Hid (Pk Lg y1 gd lg P Q D J) := HPK.out.below OPS nn.below
           replace HRL : Hid (StaL (UnG P Q gb) y1 (.slice al nl cl) J.l) := HRL.out.below nn.below
           replace HRB : Hid (Sta (Un P Q) y1 (fun W => Reads W (.slice aB nB cB) o.b)) := HRB.out.below nn.below
           replace HRM : Hid (StaL (UnG P Q gb) y1 (.slice aL nL cL) o.l) := HRM.out.below nn.below
           replace HBW : Hid (Below w.heap.size w y1) := nn.below
           clear nn)
        | (clear tk1; go_at_call 37; refine (HAS.out _ (fun k hk => hk.elim (HPK.out.lt OPS k) (fun e => by rw [e]; exact Nat.lt_of_lt_of_le HGB.out.1 HBW.out.size)) HRL.out HRB.out).mono ?_; rintro e0 y2 ⟨mv, rfl, hs, hs2, hz⟩
           have HMV : Hid (apX J.l o.b (sizeD D) ≠ 0 → StaL (UnG P Q gb) y2 mv J.l) := hs
           have HMP : Hid (apX J.l o.b (sizeD D) = 0 → StaP (UnG P Q gb) y2 mv J.l) := hs2
           replace HPK : Hid (Pk Lg y2 gd lg P Q D J) := HPK.out.below OPS hz
           replace HRB : Hid (Sta (Un P Q) y2 (fun W => Reads W (.slice aB nB cB) o.b)) := HRB.out.below hz
           replace HG6 : Hid (Blk y2 g6 [.bool false, .slice aB nB cB, .slice aL nL cL] 50) := HG6.out.below hz HG6.out.lt
           replace c0 : y2.cell? ⟨g6, 0, none⟩ = some (.bool false) := HG6.out.cell 0
           replace c1 : y2.cell? ⟨g6, 1, none⟩ = some (.slice aB nB cB) := HG6.out.cell 1
           replace HBW : Hid (Below w.heap.size w y2) := HBW.out.trans (hz.mono HBW.out.size)
           clear hs hs2 hz)
        | (clear tk2; go_at_call 38; refine (HJA.out _ (HK0.out.below HBW.out HK0.out.lt) HPK.out HRB.out).mono ?_; rintro e0 y3 ⟨rfl, P3, Q3, hd, hm, hg, hp⟩
           have HDK : Hid (DkIs y3 gd P3 (appD J D o.b)) := hd
           have HPK3 : Hid (appX J D o.b ≠ 14 → Pk Lg y3 gd lg P3 Q3 (appD J D o.b) (appJ J D o.b)) := hp
           replace HMV : Hid (apX J.l o.b (sizeD D) ≠ 0 → StaL (UnG P3 Q3 gb) y3 mv J.l) := fun hx => (HMV.out hx).go (hm.wide (fun k hk => Or.inl hk)) (fun k hk h => h.imp (hg.old k hk) id)
           replace HMP : Hid (apX J.l o.b (sizeD D) = 0 → StaP (UnG P3 Q3 gb) y3 mv J.l) := fun hx => (HMP.out hx).go (hm.wide (fun k hk => Or.inl hk)) (fun k hk h => h.imp (hg.old k hk) id)
           have HMU : Hid (Mut (Un P Q) w y3) := (mut_below HBW.out _).trans (fun _ _ h => h) hm
           have HGW : Hid (Grew w (Un P Q) (Un P3 Q3)) := fun k hk => (hg k hk).elim Or.inl (fun h => Or.inr (Nat.le_trans HBW.out.size h))
           clear hd hm hg hp c0 c1))
    refine bodyPost_ret (results_3J rfl _ _ _) rfl ?_
    exact ⟨mv, P3, Q3, rfl, (fun h => by have hx : apX J.l o.b (sizeD D) ≠ 0 := fun e => h ⟨by first | exact hag | trivial, e⟩; rw [show apL J.l o.b (sizeD D) = J.l from if_neg hx]; exact HMV.out hx), (fun h => HMP.out h.2), HDK.out, HPK3.out, HMU.out, HGW.out⟩
end Go.Proofs.YtfleaipdoiiiiaaDoor
/- Bytes that are turned one by one; texts appended in a region that draws (layer 14). -/
namespace Go.Proofs.YtfleaipdoiiiiaaDoor
open Go.RowKit
set_option maxRecDepth 100000
theorem wpSeq_cellU {ops : Array Oper} {Q : Exit → Act → World → Prop} {rest : List Oper} {o : Oper} {a : Act} {w : World} (x y : Operand) (g k : Nat) (cs : List Value) (n : Int) (tb : TypeId) (hk : k < cs.length) (hb : Blk w g cs tb) (ho : o.op = .store 5 x y) (hx : a.eval x = .pointer (some ⟨g, k, none⟩)) (hy : a.eval y = .int .u8 n) (hw : Region.wanted o (yielded ops a.tmps) = true)
    (h : ∀ w', Blk w' g (cs.set k (.int .u8 n)) tb → Only g w w' → wpList Tryd.prog ops Q rest (a.put o.dst undef) w') : wpList Tryd.prog ops Q (o :: rest) a w := by
  have hc : w.cell? ⟨g, k, none⟩ = some cs[k] := by rw [hb.cell, List.getElem?_eq_getElem hk]
  have hf : w.frozen? ⟨g, k, none⟩ = false := hb.frozen k
  have he : (execOp a.eval o).run Tryd.prog w = .ok .skip (w.setCell ⟨g, k, none⟩ (.int .u8 n)) := by
    clear h hw
    generalize a.eval = f at hx hy ⊢
    unfold execOp
    rw [ho]
    simp [go_sem, hx, hy, hc, hf]
  unfold wpList
  simp only [hw, if_true]
  left
  unfold Oper.wp
  rw [he, Oper.upon_skip]
  exact h _ (hb.set k _) (Only.setCell (Only.refl g w) k _)
/-- a slice of bytes of the call's own stays one where a byte is turned -/
theorem OwnB.poke {w w' : World} {base : Nat} {v : Value} {l : Bs} (h : OwnB w base v l) {g k : Nat} {cs : List Value} {x : BitVec 8} (hb : Blk w g cs 5) (hb' : Blk w' g (cs.set k (.int .u8 (x.toNat : Int))) 5) (ho : Only g w w') : ∃ l', l'.length = l.length ∧ OwnB w' base v l' := by
  have hlt := h.ltJ
  obtain ⟨h1, h2⟩ := id h
  rcases h2 with ⟨rfl, h0⟩ | ⟨g2, cap, cur, rfl, hg, hh, hc, hm, hs, ht⟩
  · exact ⟨l, rfl, h1, Or.inl ⟨rfl, h0⟩⟩
  · by_cases e : g2 = g
    · subst e
      unfold Blk at hb hb'
      rw [hb] at hh
      simp only [Option.some.injEq, Obj.cells.injEq] at hh
      obtain ⟨rfl, _⟩ := hh
      refine ⟨l.set k x, List.length_set, ?_⟩
      unfold OwnB
      refine ⟨by rw [cb_len, Nat.mul_one], Or.inr ⟨g2, cap, (cs.set k (.int .u8 (x.toNat : Int))).toArray, by rw [List.length_set], hg, hb', by rw [List.length_set]; exact hc, hm, by simpa using hs, ?_⟩⟩
      rw [List.length_set, Nat.mul_one] at *
      rw [List.toList_toArray] at ht ⊢
      rw [List.take_set, ht, cb_set]
    · exact ⟨l, rfl, h.sameJ (fun k2 hk2 => by
        simp [Value.ownBlock] at hk2
        subst hk2
        exact ho.block g2 e (hlt g2 rfl).2)⟩
theorem OwnB.blk {w : World} {base : Nat} {a : Option Addr} {n c : Nat} {l : Bs} (h : OwnB w base (.slice a n c) l) (hp : 0 < l.length) : ∃ g cs, a = some ⟨g, 0, none⟩ ∧ base ≤ g ∧ g < w.heap.size ∧ Blk w g cs 5 ∧ n = l.length ∧ n ≤ cs.length ∧ ∀ j, j < l.length → w.cell? ⟨g, j, none⟩ = some (.int .u8 ((l.getD j 0).toNat : Int)) := by
  have hlt := h.ltJ
  have hrd := h.reads
  obtain ⟨h1, h2⟩ := id h
  rcases h2 with ⟨_, h0⟩ | ⟨g2, cap, cur, hv, hg, hh, hc, hm, hs, ht⟩
  · omega
  · simp only [Value.slice.injEq] at hv
    obtain ⟨rfl, rfl, rfl⟩ := hv
    obtain ⟨ad, cp, hv2, _, _, h5⟩ := hrd
    simp only [Value.slice.injEq] at hv2
    obtain ⟨b, off, h6, h7⟩ := h5 hp
    rw [← hv2.1] at h6
    simp only [Option.some.injEq, Addr.mk.injEq] at h6
    obtain ⟨rfl, rfl, _⟩ := h6
    refine ⟨g2, cur.toList, rfl, hg, (hlt g2 rfl).2, by unfold Blk; rw [hh], rfl, by rw [show cur.toList.length = cur.size from rfl, hs]; omega, fun j hj => ?_⟩
    have := h7 j hj
    rw [Nat.zero_add] at this
    exact this
theorem Pk.same14 {Lg : World → Nat → (Nat → Prop) → Nat → Nat → JnT → Prop} (O : JnOps Lg) {w w' : World} {gd lg : Nat} {P Q : Nat → Prop} {D : DkT} {J : JnT} (h : Pk Lg w gd lg P Q D J) (hs : w.heap.size ≤ w'.heap.size) (hb : ∀ k, Un P Q k → w'.heap[k]? = w.heap[k]?) : Pk Lg w' gd lg P Q D J := by
  obtain ⟨gs, vw, fu, lf, hm, hP⟩ := id h.dk
  exact ⟨⟨gs, vw, fu, lf, hm.same (fun k hk => hb k (Or.inl (by rw [hP]; exact hk))), hP⟩, O.same h.lg hs (fun k hk => hb k (Or.inr hk)), h.ap⟩
/-- texts behind the own slice v, in a region that draws -/
theorem wp_appendX {o : Oper} {a : Act} {w : World} {K : Act → World → Prop} {Q : Exit → Act → World → Prop} (s x : Operand) (base : Nat) (v : Value) (us news : List Value) (ad : Addr) (n c : Nat)
    (hown : OwnX w base v us) (hn : news.length = n) (hc : ∀ j u, news[j]? = some u → w.cell? (ad.add j) = some u) (h1 : ∀ u ∈ news, u.oneCell' = true) (hlen : us.length + news.length < 1000000) (hbase : base ≤ w.heap.size)
    (ho : o.op = .call { callee := .builtin .append, args := #[s, x], argTypes := #[25, 25] }) (hs : a.eval s = v) (hx : a.eval x = .slice (some ad) n c)
    (h : ∀ v' w', OwnX w' base v' (us ++ news) → w.grownBy w' v.ownBlock → Below base w w' → K (a.put o.dst v') w') : o.wp Tryd.prog a w K Q := by
  obtain ⟨i0, hi, hz0, hz1, hz2⟩ := info_parts Tryd.infobsJ
  obtain ⟨v', w', hr, h2, h3, h4, h5⟩ := run_append_own_at (P := Tryd.prog) w base 25 o.type 22 i0 (.slice none 0 0) 1 24 Tryd.underlying25 hi hz0 hz1 hz2 rfl (by decide) v us.length us hown ad n c news (by rw [hn, Nat.mul_one]) hc h1 (by unfold maxLen; omega) (by omega) hbase
  unfold Oper.wp execOp
  simp only [ho, resolve, invoke, builtin, Sem.run_bind, Sem.run_pure, Result.andThen_ok, List.map_toArray, List.map_cons, List.map_nil, hs, hx, hr]
  refine h v' w' ?_ h3 ((Below.refl _ _).grown h3 hbase (fun k hk => (hown.lt k hk).1))
  unfold OwnX
  rw [List.length_append, hn]
  exact h2
theorem build_x0 (f : Operand → Value) (o : Oper) (ho : o.op = .buildSlice 25 0 #[]) (w : World) : (execOp f o).run Tryd.prog w = .ok (.value (.slice (some ⟨w.heap.size, 0, none⟩) 0 0)) (w.alloc (.cells #[] 22)) := by
  unfold execOp
  rw [ho]
  kernel_rfl
theorem OwnX.zero (w : World) (base g : Nat) (hg : base ≤ g) (h : Blk w g [] 22) : OwnX w base (.slice (some ⟨g, 0, none⟩) 0 0) [] :=
  ⟨rfl, Or.inr ⟨g, 0, #[], rfl, hg, h, Nat.le_refl _, by unfold maxLen; omega, rfl, rfl⟩⟩
theorem alloc_op14 (f : Operand → Value) (o : Oper) (ho : o.op = .alloc 50) (w : World) : (execOp f o).run Tryd.prog w = .ok (.value (.pointer (some ⟨w.heap.size, 0, none⟩))) (w.alloc (.cells [.bool false, .slice none 0 0, .slice none 0 0].toArray 50)) := by
  unfold execOp
  rw [ho]
  kernel_rfl
theorem built_op3 (g : Bool) (a0 a1 : Option Addr) (n0 c0 n1 c1 : Nat) : ∀ ps, ps = [(0, Value.bool g), (1, .slice a0 n0 c0), (2, .slice a1 n1 c1)] → Tryd.prog.built 50 ps = some [Value.bool g, .slice a0 n0 c0, .slice a1 n1 c1].toArray := fun ps h => by subst h; kernel_rfl
theorem one_op14 (g : Bool) (a0 a1 : Option Addr) (n0 c0 n1 c1 : Nat) : ∀ v ∈ [Value.bool g, .slice a0 n0 c0, .slice a1 n1 c1], v.oneCell' = true := fun v hv => by
  simp only [List.mem_cons, List.not_mem_nil, or_false] at hv
  rcases hv with rfl | rfl | rfl <;> rfl
/-- a slice of texts cut to its first ones -/
theorem cutX (b off n c m : Nat) (hm : m ≤ n) (hc : n ≤ c) (f : Operand → Value) (o : Oper) (x y : Operand) (ho : o.op = .slice 25 x none (some y) none) (hx : f x = .slice (some ⟨b, off, none⟩) n c) (hy : f y = .int .i64 (m : Int)) (w : World) :
    (execOp f o).run Tryd.prog w = .ok (.value (.slice (some ⟨b, off, none⟩) m c)) w := by
  have hs : (sizeOf 22).run Tryd.prog w = .ok 1 w := by kernel_rfl
  have k0 : (0 : Int) ≤ (m : Int) := by omega
  have k2 : (m : Int) ≤ (c : Int) := by omega
  unfold execOp
  rw [ho]
  simp [go_sem, hx, hy, hs, k0, k2, sliced]
end Go.Proofs.YtfleaipdoiiiiaaDoor
/- JournalRoom, over what journal's functions do (layer 14). -/
namespace Go.Proofs.YtfleaipdoiiiiaaDoor
open Go.RowKit
set_option maxRecDepth 100000
theorem wpSeq_idxB14 {ops : Array Oper} {Q : Exit → Act → World → Prop} {rest : List Oper} {o : Oper} {a : Act} {w : World} (x y : Operand) (b n c k : Nat) (hk : k < n) (ho : o.op = .indexAddr 22 x y) (hx : a.eval x = .slice (some ⟨b, 0, none⟩) n c) (hy : a.eval y = .int .i64 (k : Int)) (hw : Region.wanted o (yielded ops a.tmps) = true)
    (h : wpList Tryd.prog ops Q rest (a.put o.dst (.pointer (some ⟨b, k, none⟩))) w) : wpList Tryd.prog ops Q (o :: rest) a w :=
  wpSeq_val _ _ hw (by rw [idxB b 0 c n k hk _ o x y ho hx hy w, Nat.zero_add]) h
end Go.Proofs.YtfleaipdoiiiiaaDoor

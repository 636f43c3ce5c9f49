/- The walks of the statements' own works and start (layer 13). -/
import Derived.Test.YtdllnedmhhajnaaDkOp
namespace Go.Proofs.Ytdllnedmhhajnaa
open Go.RowKit
set_option maxRecDepth 100000
theorem Mut.own {P : Nat → Prop} {w y y' : World} {g : Nat} (m : Mut P w y) (ho : Only g y y') (hg : w.heap.size ≤ g) : Mut P w y' :=
  ⟨ho.os.trans m.os, ho.tape.trans m.tape, ho.output.trans m.output, Nat.le_trans m.size ho.size, fun k hk hn => (ho.block k (by omega) (Nat.lt_of_lt_of_le hk m.size)).trans (m.block k hk hn)⟩
theorem Mut.two {P : Nat → Prop} {w w' : World} (m : Mut P w w') (a b : Nat) : Mut (Two P a b) w w' := ⟨m.os, m.tape, m.output, m.size, fun k hk hn => m.block k hk (fun h => hn (Or.inl h))⟩
theorem two_old {P P' : Nat → Prop} {w : World} {a b : Nat} (g : Grew w P P') : ∀ k, k < w.heap.size → Two P' a b k → Two P a b k := fun k hk h => h.elim (fun h => Or.inl (g.old k hk h)) Or.inr
theorem RdS.act {P P' : Nat → Prop} {w w' : World} {D : DkT} {vs vw : Value} {a b : Nat} (h : RdS (Two P a b) w D vs vw) (m : Mut P w w') (g : Grew w P P') : RdS (Two P' a b) w' D vs vw := h.go (m.two a b) (two_old g)
theorem Sta.act {P P' : Nat → Prop} {w w' : World} {X : World → Prop} {a b : Nat} (h : Sta (Two P a b) w X) (m : Mut P w w') (g : Grew w P P') : Sta (Two P' a b) w' X := h.go (m.two a b) (two_old g)
theorem zero_size (n : Nat) : sizeD (zeroD n) = n := by
  show (List.replicate (64 * n) (0 : BitVec 8)).length / 64 = n
  rw [List.length_replicate, Nat.mul_div_cancel_left _ (by decide)]
def nought64 : Bs := List.replicate 64 0
theorem len_nought64 : nought64.length = 64 := List.length_replicate
def diskTwo : DkT := ⟨List.replicate 128 0, [(1, nought64)], -1, false⟩
theorem put_two : putD13 (zeroD 2) 1 nought64 = diskTwo := by
  unfold putD13
  rw [if_neg (by decide), if_neg (by rw [(hasD_iff _ _).2 (by rw [zero_size]; omega)]; decide), if_neg (by rw [len_nought64]; decide)]
  rfl
theorem putX_two : putX13 (zeroD 2) 1 nought64 = 0 := by
  unfold putX13
  rw [if_neg (by decide), if_neg (by rw [(hasD_iff _ _).2 (by rw [zero_size]; omega)]; decide), if_neg (by rw [len_nought64]; decide), if_neg (by decide)]
theorem size_two : sizeD diskTwo = 2 := by
  show (List.replicate 128 (0 : BitVec 8)).length / 64 = 2
  rw [List.length_replicate]
theorem readX_two : readX13 diskTwo 1 = 0 := by
  unfold readX13
  rw [if_neg (by decide), if_neg (by rw [(hasD_iff _ _).2 (by rw [size_two]; omega)]; decide)]
theorem okD_two : okD diskTwo := by rw [← put_two]; exact (okD_zero (by decide) (by decide)).put _ _
theorem readB_two : (readB13 diskTwo 1).length = 64 := by
  unfold readB13
  rw [if_neg (by decide), if_neg (by rw [(hasD_iff _ _).2 (by rw [size_two]; omega)]; decide), List.length_take, List.length_drop, len_dumpD okD_two]
  show min 64 ((List.replicate 128 (0 : BitVec 8)).length - 64 * 1) = 64
  rw [List.length_replicate]
  rfl
set_option maxRecDepth 100000 in
set_option maxHeartbeats 8000000 in
theorem works13_any {Dk : World → Nat → (Nat → Prop) → DkT → Prop} (OPS : DkOps Dk) (w : World) : Calls Try.prog 10 #[] w fun r w' => r = .returned (.bool true) ∧ Below w.heap.size w w' := by
  have HBW : Hid (Below w.heap.size w w) := Below.refl _ _
  have HWR : Hid (∀ (W : World) (g : Nat) (P : Nat → Prop) {v : Value}, Dk W g P (zeroD 2) → Sta P W (fun X => Reads X v nought64) → Calls Try.prog 24 #[.pointer (some ⟨g, 0, none⟩), .int .i64 1, v] W fun r w' => ∃ P', r = .returned (.int .i64 0) ∧ Dk w' g P' diskTwo ∧ Mut P W w' ∧ Grew W P P') := fun W g P {v} h1 h2 => by
    have h := OPS.write 1 v nought64 h1 (by show 0 ≤ 200; omega) (by rw [len_nought64]; decide) h2
    rw [putX_two, put_two] at h
    exact h
  have HRD : Hid (∀ (W : World) (g : Nat) (P : Nat → Prop), Dk W g P diskTwo → Calls Try.prog 23 #[.pointer (some ⟨g, 0, none⟩), .int .i64 1] W fun r w' => ∃ P' a c, r = .returned (.tuple #[.slice a 64 c, .int .i64 0]) ∧ Dk w' g P' diskTwo ∧ Mut P W w' ∧ Grew W P P') := fun W g P h1 => (OPS.read 1 h1).mono fun r w' h => by
    obtain ⟨P', v, hr, hs, h2, h3, h4⟩ := h
    rw [readX_two] at hr
    obtain ⟨a, c, hv, _⟩ := hs.now
    rw [readB_two] at hv
    subst hv
    exact ⟨P', a, c, hr, h2, h3, h4⟩
  have HSZ : Hid (∀ (W : World) (g : Nat) (P : Nat → Prop), Dk W g P diskTwo → Calls Try.prog 16 #[.pointer (some ⟨g, 0, none⟩)] W fun r w' => ∃ P', r = .returned (.int .i64 2) ∧ Dk w' g P' diskTwo ∧ Mut P W w' ∧ Grew W P P') := fun W g P h1 => by
    have h := OPS.size h1
    rw [size_two] at h
    exact h
  go_enter Try.func10, Try.ntmps10
  have tk0 : Hid True := trivial
  have tk1 : Hid True := trivial
  have tk2 : Hid True := trivial
  have tk3 : Hid True := trivial
  have tk4 : Hid True := trivial
  have tk5 : Hid True := trivial
  have tk6 : Hid True := trivial
  go_wp2_with (first
    | (clear tk0; go_at_call 19; refine (OPS.new w 2 (by decide) (by decide)).mono ?_; rintro e0 y1 ⟨g, P, rfl, hdk, hbz, hpw⟩
       have HDK : Hid (Dk y1 g P (zeroD 2)) := hdk
       have HPW : Hid (∀ k, P k → w.heap.size ≤ k) := hpw
       replace HBW : Hid (Below w.heap.size w y1) := hbz
       clear hdk hpw hbz)
    | (clear tk1; go_at_call 19; refine (OPS.newBad y1 0 (Or.inl (by decide))).mono ?_; rintro e y2 ⟨rfl, hbz⟩
       replace HDK : Hid (Dk y2 g P (zeroD 2)) := OPS.same HDK.out hbz.size (fun k hk => hbz.block k (OPS.lt HDK.out k hk))
       replace HBW : Hid (Below w.heap.size w y2) := HBW.out.trans (hbz.mono HBW.out.size)
       clear hbz )
    | (clear tk2; with_reducible refine wpSeq_make (.const (.int .i64 64)) (.const (.int .i64 64)) 64 64 ?_ ?_ ?_ ?_ ?_ ?_ ?_
       · decide
       · decide
       · rfl
       · rfl
       · rfl
       · rfl
       intro gm y3 z hz hge hzb hzl
       have np : ¬ P gm := fun h => absurd (OPS.lt HDK.out gm h) (by omega)
       replace HDK : Hid (Dk y3 g P (zeroD 2)) := OPS.same HDK.out hzl.size (fun k hk => hzl.block k (OPS.lt HDK.out k hk))
       replace HBW : Hid (Below w.heap.size w y3) := HBW.out.trans (hzl.mono HBW.out.size)
       have HZ : Hid (Sta P y3 (fun W => Reads W (.slice (some ⟨gm, 0, none⟩) 64 64) nought64)) := by have hz2 : z = nought64 := hz; rw [hz2] at hzb; exact hzb.stB np len_nought64.symm (by rw [len_nought64]; exact Nat.le_refl _)
       clear hz hge hzb hzl np)
    | (clear tk3; go_at_call 24; refine (HWR.out _ _ _ HDK.out HZ.out).mono ?_; rintro e0 y4 ⟨P1, rfl, hdk, hm, hgr⟩
       have hpw : ∀ k, P1 k → w.heap.size ≤ k := fun k hk => (hgr k hk).elim (HPW.out k) (fun h => Nat.le_trans HBW.out.size h)
       replace HBW : Hid (Below w.heap.size w y4) := HBW.out.trans (hm.below HBW.out.size HPW.out)
       replace HPW : Hid (∀ k, P1 k → w.heap.size ≤ k) := hpw
       clear hpw
       replace HDK : Hid (Dk y4 g P1 diskTwo) := hdk
       clear hdk hm hgr )
    | (clear tk4; go_at_call 23; refine (HRD.out _ _ _ HDK.out).mono ?_; rintro e0 y5 ⟨P2, va, ca, rfl, hdk, hm, hgr⟩
       have hpw : ∀ k, P2 k → w.heap.size ≤ k := fun k hk => (hgr k hk).elim (HPW.out k) (fun h => Nat.le_trans HBW.out.size h)
       replace HBW : Hid (Below w.heap.size w y5) := HBW.out.trans (hm.below HBW.out.size HPW.out)
       replace HPW : Hid (∀ k, P2 k → w.heap.size ≤ k) := hpw
       clear hpw
       replace HDK : Hid (Dk y5 g P2 diskTwo) := hdk
       clear hdk hm hgr )
    | (clear tk5; go_at_call 12; refine (OPS.pending HDK.out).mono ?_; rintro e0 y6 ⟨P3, rfl, hdk, hm, hgr⟩
       have hpw : ∀ k, P3 k → w.heap.size ≤ k := fun k hk => (hgr k hk).elim (HPW.out k) (fun h => Nat.le_trans HBW.out.size h)
       replace HBW : Hid (Below w.heap.size w y6) := HBW.out.trans (hm.below HBW.out.size HPW.out)
       replace HPW : Hid (∀ k, P3 k → w.heap.size ≤ k) := hpw
       clear hpw
       replace HDK : Hid (Dk y6 g P3 diskTwo) := hdk
       clear hdk hm hgr )
    | (clear tk6; go_at_call 16; refine (HSZ.out _ _ _ HDK.out).mono ?_; rintro e0 y7 ⟨P4, rfl, hdk, hm, hgr⟩
       have hpw : ∀ k, P4 k → w.heap.size ≤ k := fun k hk => (hgr k hk).elim (HPW.out k) (fun h => Nat.le_trans HBW.out.size h)
       replace HBW : Hid (Below w.heap.size w y7) := HBW.out.trans (hm.below HBW.out.size HPW.out)
       replace HPW : Hid (∀ k, P4 k → w.heap.size ≤ k) := hpw
       clear hpw
       replace HDK : Hid (Dk y7 g P4 diskTwo) := hdk
       clear hdk hm hgr ))
  go_ret
  exact ⟨rfl, HBW.out⟩
end Go.Proofs.Ytdllnedmhhajnaa

/- Texts that the proof leans on, one behind the other: ForkTurned, over what fork's functions do (layer 12). What the listed variable gives: the rounds' words lie where the walks look for them. What a slice of bytes that came in gives: the bytes that it reads as; and that it reads so still behind a call that changed no old block. .. -/
import Derived.Test.YtableajopaappaaDoorMgd
import Derived.Test.YtableajopaappaaDoorMgc
import Derived.Test.YtableajopaappaaDoorRows
import Derived.Test.YtableajopaappaaDoorMga
import Derived.ProofKit
import Derived.LaidMore
import Derived.OpenShut
import Derived.Stop.Joined
import Derived.Lib.LaidTab
import Derived.Carry
import Derived.ChangeSlices
import Derived.Test.YtableajopaappaaDoorMgb
import Derived.Deep.Slices
import Derived.ChangeSame
import Derived.Deep.Strs
import Derived.Lib.SmallJoins
/- ForkTurned, over what fork's functions do (layer 12). -/
namespace Go.Proofs.YtableajopaappaaDoor
open Go.RowKit Go.Shelf
set_option maxRecDepth 100000
theorem EvIs.swap {w : World} {e : EvT} {vt va vb : Value} (h : EvIs w e vt va vb) : EvIs w (e.1, e.2.2, e.2.1) vt vb va := ⟨h.tr, h.b, h.a, h.ob, h.oa⟩
theorem EvIs.twice {w : World} {e : EvT} {vt va vb : Value} (h : EvIs w e vt va vb) : EvIs w (e.1, e.2.1, e.2.1) vt va va := ⟨h.tr, h.a, h.a, h.oa, h.oa⟩
theorem EvIs.less {w : World} {e : EvT} {ad : Option Addr} {n c : Nat} {va vb : Value} (h : EvIs w e (.slice ad n c) va vb) (hn : 1 ≤ e.1.length) : EvIs w (e.1.drop 1, e.2.1, e.2.2) (.slice (dropA ad 1 c) (n - 1) (c - 1)) va vb := ⟨h.tr.drop hn, h.a, h.b, h.oa, h.ob⟩
set_option maxRecDepth 100000 in
set_option maxHeartbeats 8000000 in
theorem forkTurned_law (hO : FkOps) (pin : Bs) (e : EvT) (cs : List Value) (w : World) (hK : KOk w) (hp : pin.length = 32) (hE : EvB w e cs) :
    Calls Tryd.prog 8 #[.agg (cb pin).toArray, .agg cs.toArray] w fun r w' => r = .returned (.bool true) ∧ Below w.heap.size w w' := by
  obtain ⟨vt, va, vb, hcs, he⟩ := hE.open
  subst hcs
  obtain ⟨adt, ct, hvt⟩ := he.tr.form
  obtain ⟨ada, na, ca, hva⟩ := he.a.form
  obtain ⟨adb, nb, cc, hvb⟩ := he.b.form
  obtain ⟨nt, HNT⟩ : ∃ n, Hid (n = e.1.length) := ⟨_, rfl⟩
  rw [← HNT.out] at hvt
  subst hvt hva hvb
  obtain ⟨cev, HCE⟩ : ∃ c, Hid (c = evC e (.slice adt nt ct) (.slice ada na ca) (.slice adb nb cc)) := ⟨_, rfl⟩
  rw [← HCE.out]
  have HEV : Hid (EvIs w e (.slice adt nt ct) (.slice ada na ca) (.slice adb nb cc)) := he
  have HIE : Hid ((Tryd.prog.info? 32).map (·.size) = some cev.length) := by show _ = _; rw [HCE.out]; exact info_evC he.oa he.ob _ _ _
  have HAT : Hid (∀ (W : World) (g : Nat), Blk W g cev 32 → EvAt W g 0 e (.slice adt nt ct) (.slice ada na ca) (.slice adb nb cc)) := fun W g hg => by rw [HCE.out] at hg; exact hg.evAt HEV.out.oa HEV.out.ob
  obtain ⟨csa, HSA⟩ : ∃ c, Hid (c = sgC e.2.1 (.slice ada na ca)) := ⟨_, rfl⟩
  obtain ⟨csb, HSB⟩ : ∃ c, Hid (c = sgC e.2.2 (.slice adb nb cc)) := ⟨_, rfl⟩
  have HIS : Hid ((Tryd.prog.info? 30).map (·.size) = some csa.length ∧ (Tryd.prog.info? 30).map (·.size) = some csb.length) := by rw [HSA.out, HSB.out]; exact ⟨info_sgC HEV.out.oa _, info_sgC HEV.out.ob _⟩
  have HRG : Hid (∀ (W : World) (g : Nat), Blk W g cev 32 → W.rangeAt g 1 csa ∧ W.rangeAt g 99 csb) := fun W g hg => by rw [HSA.out, HSB.out]; have h := HAT.out W g hg; refine ⟨?_, ?_⟩; have := h.a.all; rwa [Nat.zero_add] at this; have := h.b.all; rwa [Nat.zero_add] at this
  clear he
  have HPL : Hid (pin.length = 32) := hp
  have HIP : Hid ((Tryd.prog.info? 23).map (·.size) = some (cb pin).length) := by show _ = _; rw [cb_len, hp]; exact info_digest
  have HBW : Hid (Below w.heap.size w w) := Below.refl _ _
  have HEB : Hid (EvB w e cev) := by rw [HCE.out]; exact HEV.out.evB
  obtain ⟨bl, HBL⟩ : ∃ b, Hid (b = lightR e) := ⟨_, rfl⟩
  have HL : Hid (∀ W : World, Below w.heap.size w W → Calls Tryd.prog 9 #[.agg cev.toArray] W fun r w' => r = .returned (.bool bl) ∧ Below W.heap.size W w') := fun W hh => by rw [HBL.out]; exact light12_any e cev W (HEB.out.below hh)
  have HW : Hid (∀ W : World, Below w.heap.size w W → Calls Tryd.prog 10 #[] W fun r w' => r = .returned (.bool true) ∧ Below W.heap.size W w') := fun W hh => works12_any hO W (hK.below hh hK.lt)
  obtain ⟨ck, HCK⟩ : ∃ c, Hid (c = checkF pin e) := ⟨_, rfl⟩
  cases bl with
  | false =>
    clear hO hK hp hE HBL HCK
    go_enter Tryd.func8, Tryd.ntmps8
    have tk0 : Hid True := trivial
    have tk1 : Hid True := trivial
    have tk2 : Hid True := trivial
    have tk3 : Hid True := trivial
    have tk4 : Hid True := trivial
    go_wp2_with (first
      | (clear tk0; with_reducible refine wpSeq_boxW 23 (.tmp 0) (cb pin) ?_ ?_ ?_ ?_
         · rfl
         · rfl
         · rfl
         intro g2 y1 nn
         replace HBW : Hid (Below w.heap.size w y1) := HBW.out.trans (nn.below.mono HBW.out.size)
         have H2 : Hid (Blk y1 g2 (cb pin) 23) := nn.blk
         clear nn
         skip)
      | (clear tk1; with_reducible refine wpSeq_boxW 32 (.tmp 1) cev ?_ ?_ ?_ ?_
         · rfl
         · rfl
         · rfl
         intro g3 y2 nn
         replace H2 : Hid (Blk y2 g2 (cb pin) 23) := H2.out.below nn.below H2.out.lt
         replace HBW : Hid (Below w.heap.size w y2) := HBW.out.trans (nn.below.mono HBW.out.size)
         have H3 : Hid (Blk y2 g3 cev 32) := nn.blk
         clear nn
         have cet : (y2).cell? ⟨g3, 0, none⟩ = some (.slice adt nt ct) := (HAT.out _ _ H3.out).tr
         skip)
      | (clear tk2; with_reducible refine wpSeq_loadW 32 (.tmp 3) g3 0 cev _ ?_ Tryd.underlying32 rfl ?_ ?_ ?_ ?_ ?_
         · exact H3.out.range
         · exact HIE.out
         · rfl
         · rfl
         · rfl)
      | (clear tk3; go_at_call 9; refine (HL.out y2 HBW.out).mono ?_; rintro e y3 ⟨rfl, hbz⟩
         clear cet
         replace H2 : Hid (Blk y3 g2 (cb pin) 23) := H2.out.below hbz H2.out.lt
         replace H3 : Hid (Blk y3 g3 cev 32) := H3.out.below hbz H3.out.lt
         replace HBW : Hid (Below w.heap.size w y3) := HBW.out.trans (hbz.mono HBW.out.size)
         have cet : (y3).cell? ⟨g3, 0, none⟩ = some (.slice adt nt ct) := (HAT.out _ _ H3.out).tr
         clear hbz )
      | (clear tk4; go_at_call 10; refine (HW.out y3 HBW.out).mono ?_; rintro e y4 ⟨rfl, hbz⟩
         clear cet
         replace H2 : Hid (Blk y4 g2 (cb pin) 23) := H2.out.below hbz H2.out.lt
         replace H3 : Hid (Blk y4 g3 cev 32) := H3.out.below hbz H3.out.lt
         replace HBW : Hid (Below w.heap.size w y4) := HBW.out.trans (hbz.mono HBW.out.size)
         have cet : (y4).cell? ⟨g3, 0, none⟩ = some (.slice adt nt ct) := (HAT.out _ _ H3.out).tr
         clear hbz ))
    go_ret
    exact ⟨rfl, HBW.out⟩
  | true =>
    have hlen : e.1.length < 1000000 := by have := lightR_len HBL.out.symm; omega
    obtain ⟨cba, HCBA⟩ : ∃ c, Hid (c = evC (e.1, e.2.2, e.2.1) (.slice adt nt ct) (.slice adb nb cc) (.slice ada na ca)) := ⟨_, rfl⟩
    obtain ⟨caa, HCAA⟩ : ∃ c, Hid (c = evC (e.1, e.2.1, e.2.1) (.slice adt nt ct) (.slice ada na ca) (.slice ada na ca)) := ⟨_, rfl⟩
    have HBA : Hid (∀ ps : List (Nat × Value), ps = [(0, .slice adt nt ct), (1, .agg csb.toArray), (2, .agg csa.toArray)] → Tryd.prog.built 32 ps = some cba.toArray) := fun ps hps => by subst hps; rw [HCBA.out, HSA.out, HSB.out]; exact (built_evid _).trans (fill_ev (e := (e.1, e.2.2, e.2.1)) HEV.out.ob HEV.out.oa)
    have HAA : Hid (∀ ps : List (Nat × Value), ps = [(0, .slice adt nt ct), (1, .agg csa.toArray), (2, .agg csa.toArray)] → Tryd.prog.built 32 ps = some caa.toArray) := fun ps hps => by subst hps; rw [HCAA.out, HSA.out]; exact (built_evid _).trans (fill_ev (e := (e.1, e.2.1, e.2.1)) HEV.out.oa HEV.out.oa)
    have HK1 : Hid (∀ W : World, Below w.heap.size w W → Calls Tryd.prog 11 #[.agg (cb pin).toArray, .agg cev.toArray] W fun r w' => r = .returned (.int .i64 ck) ∧ Below W.heap.size W w') := fun W hh => by rw [HCK.out]; exact hO.check W pin e cev (hK.below hh hK.lt) HPL.out (HEB.out.below hh) hlen
    have HK2 : Hid (∀ W : World, Below w.heap.size w W → Calls Tryd.prog 11 #[.agg (cb pin).toArray, .agg cba.toArray] W fun r w' => r = .returned (.int .i64 ck) ∧ Below W.heap.size W w') := fun W hh => by rw [HCK.out, ← checkF_swap, HCBA.out]; exact hO.check W pin (e.1, e.2.2, e.2.1) _ (hK.below hh hK.lt) HPL.out (HEV.out.below hh).swap.evB hlen
    have HK3 : Hid (∀ W : World, Below w.heap.size w W → Calls Tryd.prog 11 #[.agg (cb pin).toArray, .agg caa.toArray] W fun r w' => r = .returned (.int .i64 15) ∧ Below W.heap.size W w') := fun W hh => by rw [HCAA.out]; have h := hO.check W pin (e.1, e.2.1, e.2.1) _ (hK.below hh hK.lt) HPL.out (HEV.out.below hh).twice.evB hlen; rw [checkF_same] at h; exact h
    have e1 : (ck == ck) = true := beq_self_eq_true ck
    have e2 : (ck != ck) = false := by rw [bne, e1]; rfl
    by_cases hck : ck = 0
    case neg =>
      have e3 : (ck == 0) = false := by rw [beq_eq_false_iff_ne]; exact hck
      have e4 : (ck != 0) = true := by rw [bne, e3]; rfl
      clear hO hK hp hE HBL HCK hlen hck
      go_enter Tryd.func8, Tryd.ntmps8
      have tk0 : Hid True := trivial
      have tk1 : Hid True := trivial
      have tk2 : Hid True := trivial
      have tk3 : Hid True := trivial
      have tk4 : Hid True := trivial
      have tk5 : Hid True := trivial
      have tk6 : Hid True := trivial
      have tk7 : Hid True := trivial
      have tk8 : Hid True := trivial
      have tk9 : Hid True := trivial
      have tk10 : Hid True := trivial
      have tk11 : Hid True := trivial
      have tk12 : Hid True := trivial
      have tk13 : Hid True := trivial
      have tk14 : Hid True := trivial
      have tk15 : Hid True := trivial
      have tk16 : Hid True := trivial
      have tk17 : Hid True := trivial
      go_wp2_with (first
        | (clear tk0; with_reducible refine wpSeq_boxW 23 (.tmp 0) (cb pin) ?_ ?_ ?_ ?_
           · rfl
           · rfl
           · rfl
           intro g2 y1 nn
           replace HBW : Hid (Below w.heap.size w y1) := HBW.out.trans (nn.below.mono HBW.out.size)
           have H2 : Hid (Blk y1 g2 (cb pin) 23) := nn.blk
           clear nn
           skip)
        | (clear tk1; with_reducible refine wpSeq_boxW 32 (.tmp 1) cev ?_ ?_ ?_ ?_
           · rfl
           · rfl
           · rfl
           intro g3 y2 nn
           replace H2 : Hid (Blk y2 g2 (cb pin) 23) := H2.out.below nn.below H2.out.lt
           replace HBW : Hid (Below w.heap.size w y2) := HBW.out.trans (nn.below.mono HBW.out.size)
           have H3 : Hid (Blk y2 g3 cev 32) := nn.blk
           clear nn
           have cet : (y2).cell? ⟨g3, 0, none⟩ = some (.slice adt nt ct) := (HAT.out _ _ H3.out).tr
           skip)
        | (clear tk2; with_reducible refine wpSeq_loadW 32 (.tmp 3) g3 0 cev _ ?_ Tryd.underlying32 rfl ?_ ?_ ?_ ?_ ?_
           · exact H3.out.range
           · exact HIE.out
           · rfl
           · rfl
           · rfl)
        | (clear tk3; go_at_call 9; refine (HL.out y2 HBW.out).mono ?_; rintro e y3 ⟨rfl, hbz⟩
           clear cet
           replace H2 : Hid (Blk y3 g2 (cb pin) 23) := H2.out.below hbz H2.out.lt
           replace H3 : Hid (Blk y3 g3 cev 32) := H3.out.below hbz H3.out.lt
           replace HBW : Hid (Below w.heap.size w y3) := HBW.out.trans (hbz.mono HBW.out.size)
           have cet : (y3).cell? ⟨g3, 0, none⟩ = some (.slice adt nt ct) := (HAT.out _ _ H3.out).tr
           clear hbz )
        | (clear tk4; with_reducible refine wpSeq_loadW 23 (.tmp 2) g2 0 (cb pin) _ ?_ Tryd.underlying23 rfl ?_ ?_ ?_ ?_ ?_
           · exact H2.out.range
           · exact HIP.out
           · rfl
           · rfl
           · rfl)
        | (clear tk5; with_reducible refine wpSeq_loadW 32 (.tmp 3) g3 0 cev _ ?_ Tryd.underlying32 rfl ?_ ?_ ?_ ?_ ?_
           · exact H3.out.range
           · exact HIE.out
           · rfl
           · rfl
           · rfl)
        | (clear tk6; go_at_call 11; refine (HK1.out y3 HBW.out).mono ?_; rintro e y4 ⟨rfl, hbz⟩
           clear cet
           replace H2 : Hid (Blk y4 g2 (cb pin) 23) := H2.out.below hbz H2.out.lt
           replace H3 : Hid (Blk y4 g3 cev 32) := H3.out.below hbz H3.out.lt
           replace HBW : Hid (Below w.heap.size w y4) := HBW.out.trans (hbz.mono HBW.out.size)
           have cet : (y4).cell? ⟨g3, 0, none⟩ = some (.slice adt nt ct) := (HAT.out _ _ H3.out).tr
           clear hbz )
        | (clear tk7; with_reducible refine wpSeq_loadW 23 (.tmp 2) g2 0 (cb pin) _ ?_ Tryd.underlying23 rfl ?_ ?_ ?_ ?_ ?_
           · exact H2.out.range
           · exact HIP.out
           · rfl
           · rfl
           · rfl)
        | (clear tk8; with_reducible refine wpSeq_loadW 30 (.tmp 16) g3 99 csb _ ?_ Tryd.underlying30 rfl ?_ ?_ ?_ ?_ ?_
           · exact (HRG.out _ _ H3.out).2
           · exact HIS.out.2
           · rfl
           · rfl
           · rfl)
        | (clear tk9; with_reducible refine wpSeq_loadW 30 (.tmp 18) g3 1 csa _ ?_ Tryd.underlying30 rfl ?_ ?_ ?_ ?_ ?_
           · exact (HRG.out _ _ H3.out).1
           · exact HIS.out.1
           · rfl
           · rfl
           · rfl)
        | (clear tk10; with_reducible refine wpSeq_build 32 [(0, .tmp 15), (1, .tmp 17), (2, .tmp 19)] cba ?_ ?_ ?_ ?_
           · exact HBA.out _ rfl
           · rfl
           · rfl)
        | (clear tk11; go_at_call 11; refine (HK2.out y4 HBW.out).mono ?_; rintro e y5 ⟨rfl, hbz⟩
           clear cet
           replace H2 : Hid (Blk y5 g2 (cb pin) 23) := H2.out.below hbz H2.out.lt
           replace H3 : Hid (Blk y5 g3 cev 32) := H3.out.below hbz H3.out.lt
           replace HBW : Hid (Below w.heap.size w y5) := HBW.out.trans (hbz.mono HBW.out.size)
           have cet : (y5).cell? ⟨g3, 0, none⟩ = some (.slice adt nt ct) := (HAT.out _ _ H3.out).tr
           clear hbz )
        | (clear tk12; with_reducible refine wpSeq_loadW 23 (.tmp 2) g2 0 (cb pin) _ ?_ Tryd.underlying23 rfl ?_ ?_ ?_ ?_ ?_
           · exact H2.out.range
           · exact HIP.out
           · rfl
           · rfl
           · rfl)
        | (clear tk13; with_reducible refine wpSeq_loadW 30 (.tmp 28) g3 1 csa _ ?_ Tryd.underlying30 rfl ?_ ?_ ?_ ?_ ?_
           · exact (HRG.out _ _ H3.out).1
           · exact HIS.out.1
           · rfl
           · rfl
           · rfl)
        | (clear tk14; with_reducible refine wpSeq_loadW 30 (.tmp 30) g3 1 csa _ ?_ Tryd.underlying30 rfl ?_ ?_ ?_ ?_ ?_
           · exact (HRG.out _ _ H3.out).1
           · exact HIS.out.1
           · rfl
           · rfl
           · rfl)
        | (clear tk15; with_reducible refine wpSeq_build 32 [(0, .tmp 27), (1, .tmp 29), (2, .tmp 31)] caa ?_ ?_ ?_ ?_
           · exact HAA.out _ rfl
           · rfl
           · rfl)
        | (clear tk16; go_at_call 11; refine (HK3.out y5 HBW.out).mono ?_; rintro e y6 ⟨rfl, hbz⟩
           clear cet
           replace H2 : Hid (Blk y6 g2 (cb pin) 23) := H2.out.below hbz H2.out.lt
           replace H3 : Hid (Blk y6 g3 cev 32) := H3.out.below hbz H3.out.lt
           replace HBW : Hid (Below w.heap.size w y6) := HBW.out.trans (hbz.mono HBW.out.size)
           have cet : (y6).cell? ⟨g3, 0, none⟩ = some (.slice adt nt ct) := (HAT.out _ _ H3.out).tr
           clear hbz )
        | (clear tk17; go_at_call 10; refine (HW.out y6 HBW.out).mono ?_; rintro e y7 ⟨rfl, hbz⟩
           clear cet
           replace H2 : Hid (Blk y7 g2 (cb pin) 23) := H2.out.below hbz H2.out.lt
           replace H3 : Hid (Blk y7 g3 cev 32) := H3.out.below hbz H3.out.lt
           replace HBW : Hid (Below w.heap.size w y7) := HBW.out.trans (hbz.mono HBW.out.size)
           have cet : (y7).cell? ⟨g3, 0, none⟩ = some (.slice adt nt ct) := (HAT.out _ _ H3.out).tr
           clear hbz ))
      go_ret
      exact ⟨rfl, HBW.out⟩
    case pos =>
      have e3 : (ck == 0) = true := by rw [beq_iff_eq]; exact hck
      have e4 : (ck != 0) = false := by rw [bne, e3]; rfl
      by_cases hnt : nt = 0
      · have e5 : ((nt : Int) == 0) = true := by rw [beq_iff_eq]; omega
        clear hnt hO hK hp hE HBL HCK hlen hck
        go_enter Tryd.func8, Tryd.ntmps8
        have tk0 : Hid True := trivial
        have tk1 : Hid True := trivial
        have tk2 : Hid True := trivial
        have tk3 : Hid True := trivial
        have tk4 : Hid True := trivial
        have tk5 : Hid True := trivial
        have tk6 : Hid True := trivial
        have tk7 : Hid True := trivial
        have tk8 : Hid True := trivial
        have tk9 : Hid True := trivial
        have tk10 : Hid True := trivial
        have tk11 : Hid True := trivial
        have tk12 : Hid True := trivial
        have tk13 : Hid True := trivial
        have tk14 : Hid True := trivial
        have tk15 : Hid True := trivial
        have tk16 : Hid True := trivial
        have tk17 : Hid True := trivial
        go_wp2_with (first
          | (clear tk0; with_reducible refine wpSeq_boxW 23 (.tmp 0) (cb pin) ?_ ?_ ?_ ?_
             · rfl
             · rfl
             · rfl
             intro g2 y1 nn
             replace HBW : Hid (Below w.heap.size w y1) := HBW.out.trans (nn.below.mono HBW.out.size)
             have H2 : Hid (Blk y1 g2 (cb pin) 23) := nn.blk
             clear nn
             skip)
          | (clear tk1; with_reducible refine wpSeq_boxW 32 (.tmp 1) cev ?_ ?_ ?_ ?_
             · rfl
             · rfl
             · rfl
             intro g3 y2 nn
             replace H2 : Hid (Blk y2 g2 (cb pin) 23) := H2.out.below nn.below H2.out.lt
             replace HBW : Hid (Below w.heap.size w y2) := HBW.out.trans (nn.below.mono HBW.out.size)
             have H3 : Hid (Blk y2 g3 cev 32) := nn.blk
             clear nn
             have cet : (y2).cell? ⟨g3, 0, none⟩ = some (.slice adt nt ct) := (HAT.out _ _ H3.out).tr
             skip)
          | (clear tk2; with_reducible refine wpSeq_loadW 32 (.tmp 3) g3 0 cev _ ?_ Tryd.underlying32 rfl ?_ ?_ ?_ ?_ ?_
             · exact H3.out.range
             · exact HIE.out
             · rfl
             · rfl
             · rfl)
          | (clear tk3; go_at_call 9; refine (HL.out y2 HBW.out).mono ?_; rintro e y3 ⟨rfl, hbz⟩
             clear cet
             replace H2 : Hid (Blk y3 g2 (cb pin) 23) := H2.out.below hbz H2.out.lt
             replace H3 : Hid (Blk y3 g3 cev 32) := H3.out.below hbz H3.out.lt
             replace HBW : Hid (Below w.heap.size w y3) := HBW.out.trans (hbz.mono HBW.out.size)
             have cet : (y3).cell? ⟨g3, 0, none⟩ = some (.slice adt nt ct) := (HAT.out _ _ H3.out).tr
             clear hbz )
          | (clear tk4; with_reducible refine wpSeq_loadW 23 (.tmp 2) g2 0 (cb pin) _ ?_ Tryd.underlying23 rfl ?_ ?_ ?_ ?_ ?_
             · exact H2.out.range
             · exact HIP.out
             · rfl
             · rfl
             · rfl)
          | (clear tk5; with_reducible refine wpSeq_loadW 32 (.tmp 3) g3 0 cev _ ?_ Tryd.underlying32 rfl ?_ ?_ ?_ ?_ ?_
             · exact H3.out.range
             · exact HIE.out
             · rfl
             · rfl
             · rfl)
          | (clear tk6; go_at_call 11; refine (HK1.out y3 HBW.out).mono ?_; rintro e y4 ⟨rfl, hbz⟩
             clear cet
             replace H2 : Hid (Blk y4 g2 (cb pin) 23) := H2.out.below hbz H2.out.lt
             replace H3 : Hid (Blk y4 g3 cev 32) := H3.out.below hbz H3.out.lt
             replace HBW : Hid (Below w.heap.size w y4) := HBW.out.trans (hbz.mono HBW.out.size)
             have cet : (y4).cell? ⟨g3, 0, none⟩ = some (.slice adt nt ct) := (HAT.out _ _ H3.out).tr
             clear hbz )
          | (clear tk7; with_reducible refine wpSeq_loadW 23 (.tmp 2) g2 0 (cb pin) _ ?_ Tryd.underlying23 rfl ?_ ?_ ?_ ?_ ?_
             · exact H2.out.range
             · exact HIP.out
             · rfl
             · rfl
             · rfl)
          | (clear tk8; with_reducible refine wpSeq_loadW 30 (.tmp 16) g3 99 csb _ ?_ Tryd.underlying30 rfl ?_ ?_ ?_ ?_ ?_
             · exact (HRG.out _ _ H3.out).2
             · exact HIS.out.2
             · rfl
             · rfl
             · rfl)
          | (clear tk9; with_reducible refine wpSeq_loadW 30 (.tmp 18) g3 1 csa _ ?_ Tryd.underlying30 rfl ?_ ?_ ?_ ?_ ?_
             · exact (HRG.out _ _ H3.out).1
             · exact HIS.out.1
             · rfl
             · rfl
             · rfl)
          | (clear tk10; with_reducible refine wpSeq_build 32 [(0, .tmp 15), (1, .tmp 17), (2, .tmp 19)] cba ?_ ?_ ?_ ?_
             · exact HBA.out _ rfl
             · rfl
             · rfl)
          | (clear tk11; go_at_call 11; refine (HK2.out y4 HBW.out).mono ?_; rintro e y5 ⟨rfl, hbz⟩
             clear cet
             replace H2 : Hid (Blk y5 g2 (cb pin) 23) := H2.out.below hbz H2.out.lt
             replace H3 : Hid (Blk y5 g3 cev 32) := H3.out.below hbz H3.out.lt
             replace HBW : Hid (Below w.heap.size w y5) := HBW.out.trans (hbz.mono HBW.out.size)
             have cet : (y5).cell? ⟨g3, 0, none⟩ = some (.slice adt nt ct) := (HAT.out _ _ H3.out).tr
             clear hbz )
          | (clear tk12; with_reducible refine wpSeq_loadW 23 (.tmp 2) g2 0 (cb pin) _ ?_ Tryd.underlying23 rfl ?_ ?_ ?_ ?_ ?_
             · exact H2.out.range
             · exact HIP.out
             · rfl
             · rfl
             · rfl)
          | (clear tk13; with_reducible refine wpSeq_loadW 30 (.tmp 28) g3 1 csa _ ?_ Tryd.underlying30 rfl ?_ ?_ ?_ ?_ ?_
             · exact (HRG.out _ _ H3.out).1
             · exact HIS.out.1
             · rfl
             · rfl
             · rfl)
          | (clear tk14; with_reducible refine wpSeq_loadW 30 (.tmp 30) g3 1 csa _ ?_ Tryd.underlying30 rfl ?_ ?_ ?_ ?_ ?_
             · exact (HRG.out _ _ H3.out).1
             · exact HIS.out.1
             · rfl
             · rfl
             · rfl)
          | (clear tk15; with_reducible refine wpSeq_build 32 [(0, .tmp 27), (1, .tmp 29), (2, .tmp 31)] caa ?_ ?_ ?_ ?_
             · exact HAA.out _ rfl
             · rfl
             · rfl)
          | (clear tk16; go_at_call 11; refine (HK3.out y5 HBW.out).mono ?_; rintro e y6 ⟨rfl, hbz⟩
             clear cet
             replace H2 : Hid (Blk y6 g2 (cb pin) 23) := H2.out.below hbz H2.out.lt
             replace H3 : Hid (Blk y6 g3 cev 32) := H3.out.below hbz H3.out.lt
             replace HBW : Hid (Below w.heap.size w y6) := HBW.out.trans (hbz.mono HBW.out.size)
             have cet : (y6).cell? ⟨g3, 0, none⟩ = some (.slice adt nt ct) := (HAT.out _ _ H3.out).tr
             clear hbz )
          | (clear tk17; go_at_call 10; refine (HW.out y6 HBW.out).mono ?_; rintro e y7 ⟨rfl, hbz⟩
             clear cet
             replace H2 : Hid (Blk y7 g2 (cb pin) 23) := H2.out.below hbz H2.out.lt
             replace H3 : Hid (Blk y7 g3 cev 32) := H3.out.below hbz H3.out.lt
             replace HBW : Hid (Below w.heap.size w y7) := HBW.out.trans (hbz.mono HBW.out.size)
             have cet : (y7).cell? ⟨g3, 0, none⟩ = some (.slice adt nt ct) := (HAT.out _ _ H3.out).tr
             clear hbz ))
        go_ret
        exact ⟨rfl, HBW.out⟩
      · have e5 : ((nt : Int) == 0) = false := by rw [beq_eq_false_iff_ne]; omega
        have h1 : 1 ≤ e.1.length := by rw [← HNT.out]; omega
        obtain ⟨ad1, HAD1⟩ : ∃ c, Hid (c = dropA adt 1 ct) := ⟨_, rfl⟩
        obtain ⟨n1, HN1⟩ : ∃ c, Hid (c = nt - 1) := ⟨_, rfl⟩
        obtain ⟨c1, HC1⟩ : ∃ c, Hid (c = ct - 1) := ⟨_, rfl⟩
        have HD1 : Hid (∀ (f : Operand → Value) (o : Oper) (x lo : Operand), o.op = .slice 24 x (some lo) none none → f x = .slice adt nt ct ∧ f lo = .int .i64 1 → ∀ W : World, (execOp f o).run Tryd.prog W = .ok (.value (.slice ad1 n1 c1)) W) := fun f o x lo ho hx W => by rw [HAD1.out, HN1.out, HC1.out]; exact dropS_op f o x lo ho adt nt ct 1 hx.1 hx.2 (by omega) W
        obtain ⟨cdr, HCDR⟩ : ∃ c, Hid (c = evC (e.1.drop 1, e.2.1, e.2.2) (.slice ad1 n1 c1) (.slice ada na ca) (.slice adb nb cc)) := ⟨_, rfl⟩
        have HDR : Hid (∀ ps : List (Nat × Value), ps = [(0, .slice ad1 n1 c1), (1, .agg csa.toArray), (2, .agg csb.toArray)] → Tryd.prog.built 32 ps = some cdr.toArray) := fun ps hps => by subst hps; rw [HCDR.out, HSA.out, HSB.out]; exact (built_evid _).trans (fill_ev (e := (e.1.drop 1, e.2.1, e.2.2)) HEV.out.oa HEV.out.ob)
        have hc15 : checkF pin (e.1.drop 1, e.2.1, e.2.2) = 15 := by
          have h0 : checkF pin e = 0 := by rw [← HCK.out]; exact hck
          obtain ⟨t, a, b⟩ := e
          cases t with
          | nil => simp at h1
          | cons s t => exact checkF_less h0
        have HK4 : Hid (∀ W : World, Below w.heap.size w W → Calls Tryd.prog 11 #[.agg (cb pin).toArray, .agg cdr.toArray] W fun r w' => r = .returned (.int .i64 15) ∧ Below W.heap.size W w') := fun W hh => by rw [HCDR.out, HAD1.out, HN1.out, HC1.out]; have h := hO.check W pin (e.1.drop 1, e.2.1, e.2.2) _ (hK.below hh hK.lt) HPL.out ((HEV.out.below hh).less h1).evB (by show (e.1.drop 1).length < _; rw [List.length_drop]; omega); rw [hc15] at h; exact h
        clear hO hK hp hE HBL HCK hlen hck hc15 h1 hnt
        go_enter Tryd.func8, Tryd.ntmps8
        have tk0 : Hid True := trivial
        have tk1 : Hid True := trivial
        have tk2 : Hid True := trivial
        have tk3 : Hid True := trivial
        have tk4 : Hid True := trivial
        have tk5 : Hid True := trivial
        have tk6 : Hid True := trivial
        have tk7 : Hid True := trivial
        have tk8 : Hid True := trivial
        have tk9 : Hid True := trivial
        have tk10 : Hid True := trivial
        have tk11 : Hid True := trivial
        have tk12 : Hid True := trivial
        have tk13 : Hid True := trivial
        have tk14 : Hid True := trivial
        have tk15 : Hid True := trivial
        have tk16 : Hid True := trivial
        go_upto_region 8 with (first
          | (clear tk0; with_reducible refine wpSeq_boxW 23 (.tmp 0) (cb pin) ?_ ?_ ?_ ?_
             · rfl
             · rfl
             · rfl
             intro g2 y1 nn
             replace HBW : Hid (Below w.heap.size w y1) := HBW.out.trans (nn.below.mono HBW.out.size)
             have H2 : Hid (Blk y1 g2 (cb pin) 23) := nn.blk
             clear nn
             skip)
          | (clear tk1; with_reducible refine wpSeq_boxW 32 (.tmp 1) cev ?_ ?_ ?_ ?_
             · rfl
             · rfl
             · rfl
             intro g3 y2 nn
             replace H2 : Hid (Blk y2 g2 (cb pin) 23) := H2.out.below nn.below H2.out.lt
             replace HBW : Hid (Below w.heap.size w y2) := HBW.out.trans (nn.below.mono HBW.out.size)
             have H3 : Hid (Blk y2 g3 cev 32) := nn.blk
             clear nn
             have cet : (y2).cell? ⟨g3, 0, none⟩ = some (.slice adt nt ct) := (HAT.out _ _ H3.out).tr
             skip)
          | (clear tk2; with_reducible refine wpSeq_loadW 32 (.tmp 3) g3 0 cev _ ?_ Tryd.underlying32 rfl ?_ ?_ ?_ ?_ ?_
             · exact H3.out.range
             · exact HIE.out
             · rfl
             · rfl
             · rfl)
          | (clear tk3; go_at_call 9; refine (HL.out y2 HBW.out).mono ?_; rintro e y3 ⟨rfl, hbz⟩
             clear cet
             replace H2 : Hid (Blk y3 g2 (cb pin) 23) := H2.out.below hbz H2.out.lt
             replace H3 : Hid (Blk y3 g3 cev 32) := H3.out.below hbz H3.out.lt
             replace HBW : Hid (Below w.heap.size w y3) := HBW.out.trans (hbz.mono HBW.out.size)
             have cet : (y3).cell? ⟨g3, 0, none⟩ = some (.slice adt nt ct) := (HAT.out _ _ H3.out).tr
             clear hbz )
          | (clear tk4; with_reducible refine wpSeq_loadW 23 (.tmp 2) g2 0 (cb pin) _ ?_ Tryd.underlying23 rfl ?_ ?_ ?_ ?_ ?_
             · exact H2.out.range
             · exact HIP.out
             · rfl
             · rfl
             · rfl)
          | (clear tk5; with_reducible refine wpSeq_loadW 32 (.tmp 3) g3 0 cev _ ?_ Tryd.underlying32 rfl ?_ ?_ ?_ ?_ ?_
             · exact H3.out.range
             · exact HIE.out
             · rfl
             · rfl
             · rfl)
          | (clear tk6; go_at_call 11; refine (HK1.out y3 HBW.out).mono ?_; rintro e y4 ⟨rfl, hbz⟩
             clear cet
             replace H2 : Hid (Blk y4 g2 (cb pin) 23) := H2.out.below hbz H2.out.lt
             replace H3 : Hid (Blk y4 g3 cev 32) := H3.out.below hbz H3.out.lt
             replace HBW : Hid (Below w.heap.size w y4) := HBW.out.trans (hbz.mono HBW.out.size)
             have cet : (y4).cell? ⟨g3, 0, none⟩ = some (.slice adt nt ct) := (HAT.out _ _ H3.out).tr
             clear hbz )
          | (clear tk7; with_reducible refine wpSeq_loadW 23 (.tmp 2) g2 0 (cb pin) _ ?_ Tryd.underlying23 rfl ?_ ?_ ?_ ?_ ?_
             · exact H2.out.range
             · exact HIP.out
             · rfl
             · rfl
             · rfl)
          | (clear tk8; with_reducible refine wpSeq_loadW 30 (.tmp 16) g3 99 csb _ ?_ Tryd.underlying30 rfl ?_ ?_ ?_ ?_ ?_
             · exact (HRG.out _ _ H3.out).2
             · exact HIS.out.2
             · rfl
             · rfl
             · rfl)
          | (clear tk9; with_reducible refine wpSeq_loadW 30 (.tmp 18) g3 1 csa _ ?_ Tryd.underlying30 rfl ?_ ?_ ?_ ?_ ?_
             · exact (HRG.out _ _ H3.out).1
             · exact HIS.out.1
             · rfl
             · rfl
             · rfl)
          | (clear tk10; with_reducible refine wpSeq_build 32 [(0, .tmp 15), (1, .tmp 17), (2, .tmp 19)] cba ?_ ?_ ?_ ?_
             · exact HBA.out _ rfl
             · rfl
             · rfl)
          | (clear tk11; go_at_call 11; refine (HK2.out y4 HBW.out).mono ?_; rintro e y5 ⟨rfl, hbz⟩
             clear cet
             replace H2 : Hid (Blk y5 g2 (cb pin) 23) := H2.out.below hbz H2.out.lt
             replace H3 : Hid (Blk y5 g3 cev 32) := H3.out.below hbz H3.out.lt
             replace HBW : Hid (Below w.heap.size w y5) := HBW.out.trans (hbz.mono HBW.out.size)
             have cet : (y5).cell? ⟨g3, 0, none⟩ = some (.slice adt nt ct) := (HAT.out _ _ H3.out).tr
             clear hbz )
          | (clear tk12; with_reducible refine wpSeq_loadW 23 (.tmp 2) g2 0 (cb pin) _ ?_ Tryd.underlying23 rfl ?_ ?_ ?_ ?_ ?_
             · exact H2.out.range
             · exact HIP.out
             · rfl
             · rfl
             · rfl)
          | (clear tk13; with_reducible refine wpSeq_loadW 30 (.tmp 28) g3 1 csa _ ?_ Tryd.underlying30 rfl ?_ ?_ ?_ ?_ ?_
             · exact (HRG.out _ _ H3.out).1
             · exact HIS.out.1
             · rfl
             · rfl
             · rfl)
          | (clear tk14; with_reducible refine wpSeq_loadW 30 (.tmp 30) g3 1 csa _ ?_ Tryd.underlying30 rfl ?_ ?_ ?_ ?_ ?_
             · exact (HRG.out _ _ H3.out).1
             · exact HIS.out.1
             · rfl
             · rfl
             · rfl)
          | (clear tk15; with_reducible refine wpSeq_build 32 [(0, .tmp 27), (1, .tmp 29), (2, .tmp 31)] caa ?_ ?_ ?_ ?_
             · exact HAA.out _ rfl
             · rfl
             · rfl)
          | (clear tk16; go_at_call 11; refine (HK3.out y5 HBW.out).mono ?_; rintro e y6 ⟨rfl, hbz⟩
             clear cet
             replace H2 : Hid (Blk y6 g2 (cb pin) 23) := H2.out.below hbz H2.out.lt
             replace H3 : Hid (Blk y6 g3 cev 32) := H3.out.below hbz H3.out.lt
             replace HBW : Hid (Below w.heap.size w y6) := HBW.out.trans (hbz.mono HBW.out.size)
             have cet : (y6).cell? ⟨g3, 0, none⟩ = some (.slice adt nt ct) := (HAT.out _ _ H3.out).tr
             clear hbz ))
        clear cet
        refine wp_region_held_drew (S := Over (World.drew y6)) (by kernel_rfl) (Over.refl _) ?_
        intro hS
        replace H2 : Hid (Blk (World.drew y6) g2 (cb pin) 23) := H2.out.drew
        replace H3 : Hid (Blk (World.drew y6) g3 cev 32) := H3.out.drew
        replace HBW : Hid (Below w.heap.size w (World.drew y6)) := HBW.out.drew
        change wpAnyH _ _ _ _ _ _ _ _ (World.drew y6)
        generalize World.drew y6 = y0 at *
        try simp only [Act.put, List.setIfInBounds_toArray, List.set_cons_zero, List.set_cons_succ]
        refine wpAnyH_take (i := 0) (v := .agg (cb pin).toArray) rfl (by kernel_rfl) (by kernel_rfl) (by kernel_rfl) (fun _ _ _ h => h) (Or.inl ⟨by rfl, fun wx hx => by exact loadDigest _ g2 pin HPL.out (H2.out.below hx H2.out.lt) rfl rfl⟩) hS ?_
        simp only [Act.put, List.getElem_toArray, List.getElem_cons_zero, List.setIfInBounds_toArray, List.set_cons_zero, List.set_cons_succ]
        refine wpAnyH_take (i := 1) (v := .pointer (some ⟨g3, 0, none⟩)) rfl (by kernel_rfl) (by kernel_rfl) (by kernel_rfl) (fun _ _ _ h => h) (Or.inl ⟨by rfl, fun wx hx => by simp [go_sem]⟩) hS ?_
        simp only [Act.put, List.getElem_toArray, List.getElem_cons_succ, List.getElem_cons_zero, List.setIfInBounds_toArray, List.set_cons_zero, List.set_cons_succ]
        refine wpAnyH_take (i := 2) (v := .slice adt nt ct) rfl (by kernel_rfl) (by kernel_rfl) (by kernel_rfl) (fun _ _ _ h => h) (Or.inl ⟨by rfl, fun wx hx => by (have cet : wx.cell? ⟨g3, 0, none⟩ = some (.slice adt nt ct) := (HAT.out _ _ (H3.out.below hx H3.out.lt)).tr); simp [go_sem, cet]⟩) hS ?_
        simp only [Act.put, List.getElem_toArray, List.getElem_cons_succ, List.getElem_cons_zero, List.setIfInBounds_toArray, List.set_cons_zero, List.set_cons_succ]
        refine wpAnyH_take (i := 3) (v := .slice ad1 n1 c1) rfl (by kernel_rfl) (by kernel_rfl) (by kernel_rfl) (fun _ _ _ h => h) (Or.inl ⟨by rfl, fun wx hx => by exact HD1.out _ _ _ _ rfl ⟨rfl, rfl⟩ wx⟩) hS ?_
        simp only [Act.put, List.getElem_toArray, List.getElem_cons_succ, List.getElem_cons_zero, List.setIfInBounds_toArray, List.set_cons_zero, List.set_cons_succ]
        refine wpAnyH_take (i := 4) (v := .pointer (some ⟨g3, 1, none⟩)) rfl (by kernel_rfl) (by kernel_rfl) (by kernel_rfl) (fun _ _ _ h => h) (Or.inl ⟨by rfl, fun wx hx => by simp [go_sem]⟩) hS ?_
        simp only [Act.put, List.getElem_toArray, List.getElem_cons_succ, List.getElem_cons_zero, List.setIfInBounds_toArray, List.set_cons_zero, List.set_cons_succ]
        refine wpAnyH_take (i := 5) (v := .agg csa.toArray) rfl (by kernel_rfl) (by kernel_rfl) (by kernel_rfl) (fun _ _ _ h => h) (Or.inl ⟨by rfl, fun wx hx => by exact load_run 30 _ rfl g3 1 rfl csa _ (HRG.out _ _ (H3.out.below hx H3.out.lt)).1 Tryd.underlying30 rfl HIS.out.1⟩) hS ?_
        simp only [Act.put, List.getElem_toArray, List.getElem_cons_succ, List.getElem_cons_zero, List.setIfInBounds_toArray, List.set_cons_zero, List.set_cons_succ]
        refine wpAnyH_take (i := 6) (v := .pointer (some ⟨g3, 99, none⟩)) rfl (by kernel_rfl) (by kernel_rfl) (by kernel_rfl) (fun _ _ _ h => h) (Or.inl ⟨by rfl, fun wx hx => by simp [go_sem]⟩) hS ?_
        simp only [Act.put, List.getElem_toArray, List.getElem_cons_succ, List.getElem_cons_zero, List.setIfInBounds_toArray, List.set_cons_zero, List.set_cons_succ]
        refine wpAnyH_take (i := 7) (v := .agg csb.toArray) rfl (by kernel_rfl) (by kernel_rfl) (by kernel_rfl) (fun _ _ _ h => h) (Or.inl ⟨by rfl, fun wx hx => by exact load_run 30 _ rfl g3 99 rfl csb _ (HRG.out _ _ (H3.out.below hx H3.out.lt)).2 Tryd.underlying30 rfl HIS.out.2⟩) hS ?_
        simp only [Act.put, List.getElem_toArray, List.getElem_cons_succ, List.getElem_cons_zero, List.setIfInBounds_toArray, List.set_cons_zero, List.set_cons_succ]
        refine wpAnyH_take (i := 8) (v := .agg cdr.toArray) rfl (by kernel_rfl) (by kernel_rfl) (by kernel_rfl) (fun _ _ _ h => h) (Or.inl ⟨by rfl, fun wx hx => by refine build_op _ _ 32 [(0, .tmp 48), (1, .tmp 50), (2, .tmp 52)] rfl _ ?_ _; exact HDR.out _ rfl⟩) hS ?_
        simp only [Act.put, List.getElem_toArray, List.getElem_cons_succ, List.getElem_cons_zero, List.setIfInBounds_toArray, List.set_cons_zero, List.set_cons_succ]
        refine wpAnyH_enter 9 (by kernel_rfl) rfl (by rfl) (f := 11) (args := #[.agg (cb pin).toArray, .agg cdr.toArray]) (by simp [go_sem]) (HK4.out _ (HBW.out.trans (Below.mono hS HBW.out.size))) ?_
        rintro e z1 ⟨rfl, hb⟩
        replace hS := Over.more hS hb
        refine ⟨_, rfl, hS, ?_⟩
        clear hb 
        simp only [Act.put, List.getElem_toArray, List.getElem_cons_succ, List.getElem_cons_zero, List.setIfInBounds_toArray, List.set_cons_zero, List.set_cons_succ]
        refine wpAnyH_take (i := 10) (v := .bool true) rfl (by kernel_rfl) (by kernel_rfl) (by kernel_rfl) (fun _ _ _ h => h) (Or.inl ⟨by rfl, fun wx hx => by simp [go_sem]⟩) hS ?_
        simp only [Act.put, List.getElem_toArray, List.getElem_cons_succ, List.getElem_cons_zero, List.setIfInBounds_toArray, List.set_cons_zero, List.set_cons_succ]
        refine wpAnyH_take (i := 11) (v := .bool true) rfl (by kernel_rfl) (by kernel_rfl) (by kernel_rfl) (fun _ _ _ h => h) (Or.inl ⟨by rfl, fun wx hx => by simp [go_sem]⟩) hS ?_
        simp only [Act.put, List.getElem_toArray, List.getElem_cons_succ, List.getElem_cons_zero, List.setIfInBounds_toArray, List.set_cons_zero, List.set_cons_succ]
        refine wpAnyH_enter 12 (by kernel_rfl) rfl (by rfl) (f := 10) (args := #[]) (by simp [go_sem]) (HW.out _ (HBW.out.trans (Below.mono hS HBW.out.size))) ?_
        rintro e z2 ⟨rfl, hb⟩
        replace hS := Over.more hS hb
        refine ⟨_, rfl, hS, ?_⟩
        clear hb 
        simp only [Act.put, List.getElem_toArray, List.getElem_cons_succ, List.getElem_cons_zero, List.setIfInBounds_toArray, List.set_cons_zero, List.set_cons_succ]
        refine wpAnyH_take (i := 13) (v := .bool true) rfl (by kernel_rfl) (by kernel_rfl) (by kernel_rfl) (fun _ _ _ h => h) (Or.inl ⟨by rfl, fun wx hx => by simp [go_sem]⟩) hS ?_
        simp only [Act.put, List.getElem_toArray, List.getElem_cons_succ, List.getElem_cons_zero, List.setIfInBounds_toArray, List.set_cons_zero, List.set_cons_succ]
        refine wpAnyH_take (i := 14) (v := .bool true) rfl (by kernel_rfl) (by kernel_rfl) (by kernel_rfl) (fun _ _ _ h => h) (Or.inl ⟨by rfl, fun wx hx => by simp [go_sem]⟩) hS ?_
        simp only [Act.put, List.getElem_toArray, List.getElem_cons_succ, List.getElem_cons_zero, List.setIfInBounds_toArray, List.set_cons_zero, List.set_cons_succ]
        refine wpAnyH_done (by kernel_rfl) ?_ _
        go_wp2
        go_ret
        exact ⟨rfl, HBW.out.trans (Below.mono hS HBW.out.size)⟩
end Go.Proofs.YtableajopaappaaDoor
/- What the listed variable gives: the rounds' words lie where the walks look for them. -/
namespace Go.Proofs.YtableajopaappaaDoor
open Go.ChangeShapes Go.WideShapes Go.ChangeAt Go.WideMaps Go.WideElems Go.RowKit
set_option maxRecDepth 100000
theorem own : ownKnob Tryd.prog.godebug = none := by kernel_rfl
theorem gKw : Tryd.prog.globalNamed "blazon/sha.roundWords" = some 0 := by kernel_rfl
theorem tKw : (Tryd.prog.globals[0]?).map (·.type) = some 134 := by kernel_rfl
def laidK : List (String × DataW Unit) := [("blazon/sha.roundWords", Rows.laid_blazon_sha_roundWords)]
def kzs : List Int := kw.map fun x => (x.toNat : Int)
theorem laid_tab : (Rows.laid_blazon_sha_roundWords : DataW Unit) = Lib.tabData .u32 kzs := by kernel_rfl
theorem door_met (os : Os) (args : Array Value) : laidMetH Tryd.prog laidK ((World.doorLaid Tryd.prog 400 os).forCall (fun _ _ => 0) ⟨#[], args, []⟩).memory :=
  laidMetH_of_parts3 (fuel := 8) (laidMet_of_run' 8 (by kernel_rfl) (by kernel_rfl)) (by kernel_rfl) (by kernel_rfl)
theorem getD_toNat (l : List (BitVec 32)) (j : Nat) : (l.map fun x => (x.toNat : Int)).getD j 0 = ((l.getD j 0).toNat : Int) := by
  rw [List.getD_eq_getElem?_getD, List.getD_eq_getElem?_getD, List.getElem?_map]
  cases l[j]? <;> rfl
theorem kok_of_laid {W : World} (h : laidMetH Tryd.prog laidK W) : KOk W := by
  rw [MakeChecks.laidMetH_plain _ _ _ (by kernel_rfl)] at h
  unfold laidK at h
  rw [laid_tab] at h
  have hT := Lib.tabIs_of_head gKw tKw Tryd.underlying134 Tryd.underlying114 (by kernel_rfl) (by kernel_rfl) h
  intro j hj
  rw [hT.cell gKw j (by simpa [kzs, kw] using hj), kzs, getD_toNat]
end Go.Proofs.YtableajopaappaaDoor
/- What a slice of bytes that came in gives: the bytes that it reads as; and that it reads so still behind a call that changed no old block. -/
namespace Go.Proofs.YtableajopaappaaDoor
open Go.ChangeShapes Go.WideShapes Go.ChangeAt Go.WideMaps Go.WideElems Go.RowKit
set_option maxRecDepth 100000
theorem cells_byte : Tryd.prog.cellsOf 5 = 1 := by kernel_rfl
theorem laid_out : laidOutB Tryd.prog = true := by kernel_rfl
theorem byte_range {zs : List Int} (h : ∀ n ∈ zs, (Lit.int .u8 n).wf = true) (j : Nat) : 0 ≤ zs.getD j 0 ∧ zs.getD j 0 < 256 := by
  rw [List.getD_eq_getElem?_getD]
  cases hj : zs[j]? with
  | none => simp
  | some n =>
    have := h n (List.mem_of_getElem? hj)
    have := bounds_u8 this
    simp
    omega
end Go.Proofs.YtableajopaappaaDoor
/- What a digest that came in gives: its 32 bytes. -/
namespace Go.Proofs.YtableajopaappaaDoor
open Go.ChangeShapes Go.WideShapes Go.ChangeAt Go.WideMaps Go.WideElems Go.RowKit
set_option maxRecDepth 100000
theorem cells_digest : Tryd.prog.cellsOf 23 = 32 := by kernel_rfl
theorem readable_digest : Tryd.prog.readableRec 23 = true := by kernel_rfl
theorem row_digest : 23 < Tryd.prog.types.size := of_decide_eq_true (by kernel_rfl)
def numOf8 : Value → BitVec 8
  | .int _ n => BitVec.ofInt 8 n
  | _ => 0
theorem digest_of_trod {H : Type} {enc : TypeId × Value → H} {W : World} {base : Nat} {v : Value} {d : DataW H} {p : List MemPlace} (hval : Value.okWide Tryd.prog W .any base 23 v)
    (h : DataW.Trod enc Tryd.prog W 0 (fun _ => true) true 23 v d p) :
    ∃ dg, v = .agg (cb dg).toArray ∧ dg.length = 32 ∧ ∀ x ∈ p, x.block < W.heap.size := by
  simp only [Value.okWide, Tryd.underlying23] at hval
  obtain ⟨cs, rfl, hcs, _⟩ := hval
  obtain ⟨fuel, hf⟩ := h
  obtain ⟨xs, m, _, hx, hl, hn, hi⟩ := DataW.trod_array Tryd.underlying23 hf
  simp only [Value.cells] at hl hi
  rw [cells_digest] at hl
  rw [cells_byte] at hi
  have each : ∀ i, i < 32 → ∃ n, cs.toList[i]? = some (.int .u8 n) ∧ xs[i]? = some (.lit (.int .u8 n), []) ∧ (Lit.int .u8 n).wf = true := by
    intro i h32
    have h1 := hi i h32
    rw [List.getElem?_eq_getElem (by omega)] at h1
    obtain ⟨n, hc, hxx, hw⟩ := DataW.trod_int Tryd.underlying5 h1
    refine ⟨n, ?_, by rw [List.getElem?_eq_getElem (by omega), hxx], hw⟩
    rw [Nat.mul_one] at hc
    have h2 := congrArg (fun l => l[0]?) hc
    simpa using h2
  have hlen : (cs.toList.map numOf8).length = 32 := by simpa using hl
  refine ⟨cs.toList.map numOf8, ?_, hlen, ?_⟩
  · congr 1
    apply Array.ext'
    rw [List.toList_toArray]
    apply List.ext_getElem?
    intro i
    by_cases h32 : i < 32
    · obtain ⟨n, h1, _, hw⟩ := each i h32
      have hb := bounds_u8 hw
      rw [h1, cb_get _ _ (by omega), List.getD_eq_getElem?_getD, List.getElem?_map, h1]
      simp only [Option.map_some, Option.getD_some, numOf8, BitVec.toNat_ofInt]
      congr 2
      omega
    · rw [List.getElem?_eq_none (by omega), List.getElem?_eq_none (by rw [cb_len]; omega)]
  · simp only [Prod.mk.injEq] at hx
    rw [hx.2]
    intro x hmem
    obtain ⟨y, hy, hxy⟩ := List.mem_flatMap.1 hmem
    obtain ⟨i, hlt, rfl⟩ := List.getElem_of_mem hy
    obtain ⟨n, _, h2, _⟩ := each i (by omega)
    rw [List.getElem?_eq_getElem hlt] at h2
    rw [Option.some.inj h2] at hxy
    cases hxy
end Go.Proofs.YtableajopaappaaDoor
/- What a slice of digests that came in gives; five arguments that came in, opened and shut (for the statements of layer 7). -/
namespace Go.Proofs.YtableajopaappaaDoor
open Go.ChangeShapes Go.WideShapes Go.ChangeAt Go.WideMaps Go.WideElems Go.RowKit
set_option maxRecDepth 100000
theorem digest_of_cells {H : Type} {enc : TypeId × Value → H} {W : World} {cs : List Value} {d : DataW H} {p : List MemPlace} {fuel : Nat} (hf : DataW.trod enc Tryd.prog W 0 (fun _ => true) true fuel 23 cs = some (d, p)) :
    ∃ dg, cs = cb dg ∧ dg.length = 32 ∧ ∀ x ∈ p, x.block < W.heap.size := by
  obtain ⟨xs, m, _, hx, hl, hn, hi⟩ := DataW.trod_array Tryd.underlying23 hf
  rw [cells_digest] at hl
  rw [cells_byte] at hi
  have each : ∀ i, i < 32 → ∃ n, cs[i]? = some (.int .u8 n) ∧ xs[i]? = some (.lit (.int .u8 n), []) ∧ (Lit.int .u8 n).wf = true := by
    intro i h32
    have h1 := hi i h32
    rw [List.getElem?_eq_getElem (by omega)] at h1
    obtain ⟨n, hc, hxx, hw⟩ := DataW.trod_int Tryd.underlying5 h1
    refine ⟨n, ?_, by rw [List.getElem?_eq_getElem (by omega), hxx], hw⟩
    rw [Nat.mul_one] at hc
    have h2 := congrArg (fun l => l[0]?) hc
    simpa using h2
  have hlen : (cs.map numOf8).length = 32 := by simpa using hl
  refine ⟨cs.map numOf8, ?_, hlen, ?_⟩
  · apply List.ext_getElem?
    intro i
    by_cases h32 : i < 32
    · obtain ⟨n, h1, _, hw⟩ := each i h32
      have hb := bounds_u8 hw
      rw [h1, cb_get _ _ (by omega), List.getD_eq_getElem?_getD, List.getElem?_map, h1]
      simp only [Option.map_some, Option.getD_some, numOf8, BitVec.toNat_ofInt]
      congr 2
      omega
    · rw [List.getElem?_eq_none (by omega), List.getElem?_eq_none (by rw [cb_len]; omega)]
  · simp only [Prod.mk.injEq] at hx
    rw [hx.2]
    intro x hmem
    obtain ⟨y, hy, hxy⟩ := List.mem_flatMap.1 hmem
    obtain ⟨i, hlt, rfl⟩ := List.getElem_of_mem hy
    obtain ⟨n, _, h2, _⟩ := each i (by omega)
    rw [List.getElem?_eq_getElem hlt] at h2
    rw [Option.some.inj h2] at hxy
    cases hxy
end Go.Proofs.YtableajopaappaaDoor
/- What a head, a signed root and a slice of signed roots that came in give: their parts (layer 11). -/
namespace Go.Proofs.YtableajopaappaaDoor
open Go.ChangeShapes Go.WideShapes Go.ChangeAt Go.WideMaps Go.WideElems Go.RowKit
set_option maxRecDepth 100000
set_option maxRecDepth 100000 in
theorem cells_signed : Tryd.prog.cellsOf 30 = 98 := by kernel_rfl
set_option maxRecDepth 100000 in
theorem cells_root : Tryd.prog.cellsOf 27 = 97 := by kernel_rfl
set_option maxRecDepth 100000 in
theorem cells_u64c : Tryd.prog.cellsOf 25 = 1 := by kernel_rfl
set_option maxRecDepth 100000 in
theorem cells_bytesc : Tryd.prog.cellsOf 28 = 1 := by kernel_rfl
theorem take_one11 {l : List Value} {k n : Nat} (hl : l.length = n) (hk : k < n) : ∃ c, (l.drop k).take 1 = [c] := by
  have h : (l.drop k).length = n - k := by rw [List.length_drop, hl]
  match hq : l.drop k, h with
  | [], h => simp at h; omega
  | c :: r, _ => exact ⟨c, rfl⟩
end Go.Proofs.YtableajopaappaaDoor
/- Evidence and slices of signed roots that came in, with their sizes (layer 12). -/
namespace Go.Proofs.YtableajopaappaaDoor
open Go.ChangeShapes Go.WideShapes Go.ChangeAt Go.WideMaps Go.WideElems Go.RowKit
set_option maxRecDepth 100000
theorem bytes_byte : Tryd.prog.bytesOf 5 = 1 := by kernel_rfl
theorem weightsAll_mem {H : Type} {P : Program} {e : TypeId} {q : Nat → Bool} : ∀ (l : List (DataW H)), (DataW.weightsAll P e l).all q = true → ∀ d ∈ l, (d.weights P e).all q = true
  | [], _, _, h => by cases h
  | x :: r, hl, d, h => by
    rw [DataW.weightsAll, List.all_append, Bool.and_eq_true] at hl
    rcases List.mem_cons.1 h with rfl | h
    · exact hl.1
    · exact weightsAll_mem r hl.2 d h
theorem reads_sized {H : Type} {enc : TypeId × Value → H} {W : World} {v : Value} {d : DataW H} {p : List MemPlace} {fuel : Nat} (hf : DataW.trod enc Tryd.prog W 0 (fun _ => true) true fuel 28 [v] = some (d, p)) :
    ∃ bs, Reads W v bs ∧ (∀ N, (d.weights Tryd.prog 28).all (· ≤ N) = true → bs.length ≤ N) ∧ ∀ x ∈ p, x.block < W.heap.size := by
  rcases open_ints Tryd.underlying28 Tryd.underlying5 cells_byte hf with ⟨hcs, hx⟩ | ⟨a, len, cap, zs, hcs, _, hl, hm, hz, hx, hcell, hwz⟩
  · simp only [List.cons.injEq, and_true] at hcs
    subst hcs
    simp only [Prod.mk.injEq] at hx
    obtain ⟨rfl, rfl⟩ := hx
    exact ⟨[], ⟨none, 0, rfl, Nat.le_refl _, fun _ => rfl, fun h => by cases h⟩, fun _ _ => Nat.zero_le _, fun _ h => by cases h⟩
  · simp only [List.cons.injEq, and_true] at hcs
    subst hcs
    simp only [Prod.mk.injEq] at hx
    obtain ⟨rfl, rfl⟩ := hx
    simp only [if_true] at hz
    have hlen : ((zs.take len).map fun n => BitVec.ofInt 8 n).length = len := by simp; omega
    obtain ⟨ab, ao, spot⟩ := a
    refine ⟨(zs.take len).map fun n => BitVec.ofInt 8 n, ⟨some ⟨ab, ao, spot⟩, cap, by rw [hlen], by rw [hlen]; exact hl, (fun h => by cases h), fun hp => ?_⟩, ?_, fun x hx => ?_⟩
    · rw [hlen] at hp ⊢
      have hspot : spot = none := by simpa [Addr.add] using World.cell?_spot (hcell 0 (by omega))
      subst hspot
      refine ⟨ab, ao, rfl, fun j hj => ?_⟩
      have hcj := hcell j (by omega)
      rw [Addr.add_lit] at hcj
      rw [hcj]
      have hb := byte_range hwz j
      have e : ((zs.take len).map fun n => BitVec.ofInt 8 n).getD j 0 = BitVec.ofInt 8 (zs.getD j 0) := by
        rw [List.getD_eq_getElem?_getD, List.getElem?_map, List.getElem?_take_of_lt hj, List.getD_eq_getElem?_getD, List.getElem?_eq_getElem (show j < zs.length by omega)]
        rfl
      rw [e, BitVec.toNat_ofInt]
      congr 2
      omega
    · intro N hN
      rw [hlen]
      rw [DataW.weights] at hN
      simp only [Tryd.underlying28, bytes_byte, Nat.mul_one, List.all_cons, Bool.and_eq_true, decide_eq_true_eq] at hN
      have h3 : (lits (H := H) .u8 (zs.take len)).length = len := by simp [lits]; omega
      have := hN.1
      omega
    · simp only [MemPlace.row, List.mem_map, List.mem_range] at hx
      obtain ⟨i, hi, rfl⟩ := hx
      have hcj := hcell i (by omega)
      have := block_lt_of_cell hcj
      simp only [Addr.add] at this
      split at this <;> exact this
set_option maxRecDepth 100000 in
theorem signed_sized {H : Type} {enc : TypeId × Value → H} {W : World} {l : List Value} {d : DataW H} {p : List MemPlace} {fuel : Nat} (hf : DataW.trod enc Tryd.prog W 0 (fun _ => true) true fuel 30 l = some (d, p)) :
    ∃ (s : SgT) (c : Value), l = sgC s c ∧ okS s ∧ Reads W c s.2 ∧ (∀ N, (d.weights Tryd.prog 30).all (· ≤ N) = true → s.2.length ≤ N) ∧ ∀ q ∈ p, q.block < W.heap.size := by
  have hp := DataW.trod_lt _ _ _ _ hf
  obtain ⟨y0, y1, n, hx, hl, h0, h1⟩ := Go.ChangeShapes.trod_struct2 Tryd.underlying30 hf
  rw [cells_signed] at hl
  rw [cells_root] at h0
  rw [cells_bytesc] at h1
  simp only at hl h0 h1
  obtain ⟨c, e1⟩ := take_one11 (k := 97) hl (by omega)
  rw [e1] at h1
  obtain ⟨dd, pp⟩ := y1
  obtain ⟨sg, hr, hsz, _⟩ := reads_sized (v := c) h1
  obtain ⟨r0, r1, r2, r3, n', hx', hl', k0, k1, k2, k3⟩ := Go.Joins.trod_struct4 Tryd.underlying27 h0
  rw [cells_u64c] at k0
  rw [cells_digest] at k1 k2 k3
  obtain ⟨m, e0, _, hw⟩ := DataW.trod_int Tryd.underlying25 k0
  obtain ⟨a1, b1⟩ := r1
  obtain ⟨a2, b2⟩ := r2
  obtain ⟨a3, b3⟩ := r3
  obtain ⟨x, f1, lx, _⟩ := digest_of_cells k1
  obtain ⟨y, f2, ly, _⟩ := digest_of_cells k2
  obtain ⟨z, f3, lz, _⟩ := digest_of_cells k3
  have hb := bounds_u64 hw
  obtain ⟨r, hr0⟩ : ∃ r, r = (l.drop 0).take 97 := ⟨_, rfl⟩
  rw [← hr0] at e0 f1 f2 f3 hl'
  rw [cells_root] at hl'
  have d1 : r = r.take 1 ++ r.drop 1 := (List.take_append_drop 1 r).symm
  have d2 : r.drop 1 = (r.drop 1).take 32 ++ r.drop 33 := by
    have := (List.take_append_drop 32 (r.drop 1)).symm
    rwa [List.drop_drop] at this
  have d3 : r.drop 33 = (r.drop 33).take 32 ++ r.drop 65 := by
    have := (List.take_append_drop 32 (r.drop 33)).symm
    rwa [List.drop_drop] at this
  have d4 : r.drop 65 = (r.drop 65).take 32 := by
    rw [List.take_of_length_le (by rw [List.length_drop]; omega)]
  rw [List.drop_zero] at e0
  have hrr : r = .int .u64 m :: (cb x ++ (cb y ++ cb z)) := by
    rw [d1, d2, d3, d4, e0, f1, f2, f3]; rfl
  have dl : l = l.take 97 ++ l.drop 97 := (List.take_append_drop 97 l).symm
  have d97 : l.drop 97 = (l.drop 97).take 1 := by rw [List.take_of_length_le (by rw [List.length_drop]; omega)]
  rw [List.drop_zero] at hr0
  refine ⟨((m.toNat, x, y, z), sg), c, ?_, okS_mk lx ly lz (by omega), hr, fun N hN => ?_, hp⟩
  rotate_left
  · simp only [Prod.mk.injEq] at hx
    rw [hx.1, DataW.weights] at hN
    simp only [Tryd.underlying30, List.map_cons, List.map_nil, DataW.weightsEach, List.all_append, Bool.and_eq_true] at hN
    exact hsz N hN.2.1
  rw [dl, ← hr0, d97, e1, hrr]
  unfold sgC
  rw [Int.toNat_of_nonneg (by omega)]
  simp
set_option maxRecDepth 100000 in
theorem readsS_sized {H : Type} {enc : TypeId × Value → H} {W : World} {v : Value} {d : DataW H} {p : List MemPlace} {fuel : Nat} (hf : DataW.trod enc Tryd.prog W 0 (fun _ => true) true fuel 24 [v] = some (d, p)) :
    ∃ l, ReadsS W v l ∧ (∀ N, (d.weights Tryd.prog 24).all (· ≤ N) = true → ∀ s ∈ l, s.2.length ≤ N) ∧ ∀ x ∈ p, x.block < W.heap.size := by
  have hp0 := DataW.trod_lt _ _ _ _ hf
  rcases Go.Deep.open_slice Tryd.underlying24 hf with ⟨hcs, hx⟩ | ⟨a, len, cap, m, n, D, Pl, hcs, _, hl, hm, hmm, hx, hV⟩
  · simp only [List.cons.injEq, and_true] at hcs
    subst hcs
    exact ⟨[], ReadsS.nil W, (fun _ _ s hs => by cases hs), hp0⟩
  · simp only [List.cons.injEq, and_true] at hcs
    subst hcs
    simp only [Prod.mk.injEq] at hx
    obtain ⟨rfl, hpl⟩ := hx
    simp only [if_true] at hmm
    subst hmm
    rw [cells_signed] at hV
    obtain ⟨B, hB⟩ := Go.Deep.choose_lt (α := SgT × Value) (p := fun i q => W.cells? 0 (a.add (i * 98)) 98 = some (sgC q.1 q.2) ∧ okS q.1 ∧ Reads W q.2 q.1.2 ∧ ∀ N, ((D i).weights Tryd.prog 30).all (· ≤ N) = true → q.1.2.length ≤ N) (fun i hi => by
      obtain ⟨cs', h1, h2⟩ := hV i hi
      obtain ⟨s, c, rfl, h3, h4, h5, _⟩ := signed_sized h2
      exact ⟨(s, c), h1, h3, h4, h5⟩)
    have hlen : ((List.range len).map fun i => (B i).1).length = len := by simp
    obtain ⟨ab, ao, spot⟩ := a
    have cell : ∀ i, i < m → ∀ j, j < 98 → W.cell? ((⟨ab, ao, spot⟩ : Addr).add (i * 98 + j)) = (sgC (B i).1 (B i).2)[j]? := by
      intro i hi j hj
      obtain ⟨h1, _⟩ := hB i hi
      obtain ⟨_, _, h4⟩ := World.cells?_some h1
      have := h4 j hj
      rw [Go.Deep.add_add] at this
      exact this
    have hspot : 0 < m → spot = none := fun hp => by
      have h := cell 0 hp 0 (by omega)
      rw [show (sgC (B 0).1 (B 0).2)[0]? = some (.int .u64 ((B 0).1.1.1 : Int)) from rfl] at h
      simpa [Addr.add] using World.cell?_spot h
    refine ⟨(List.range len).map fun i => (B i).1, ⟨⟨some ⟨ab, ao, spot⟩, m, by rw [hlen], by rw [hlen]; exact hl, (fun h => by cases h), fun hp => ?_⟩, ?_⟩, ?_, hp0⟩
    · rw [hlen] at hp ⊢
      have hs := hspot (by omega)
      subst hs
      refine ⟨ab, ao, rfl, fun j hj => ?_⟩
      have e : ((List.range len).map fun i => (B i).1).getD j zeroS = (B j).1 := by simp [hj]
      rw [e]
      refine ⟨(B j).2, ⟨fun i v hv => ?_, (hB j (by omega)).2.1⟩, (hB j (by omega)).2.2.1⟩
      have hi : i < 98 := by have := (List.getElem?_eq_some_iff.1 hv).1; rwa [len_sgC (hB j (by omega)).2.1] at this
      have h := cell j (by omega) i hi
      rw [hv, Addr.add_lit] at h
      rw [Nat.add_assoc]; exact h
    · intro s hs
      obtain ⟨i, hi, rfl⟩ := List.mem_map.1 hs
      exact (hB i (by have := List.mem_range.1 hi; omega)).2.1
    · intro N hN s hs
      rw [DataW.weights] at hN
      simp only [Tryd.underlying24, List.all_cons, List.all_append, Bool.and_eq_true, decide_eq_true_eq, List.length_map, List.length_range] at hN
      obtain ⟨i, hi, rfl⟩ := List.mem_map.1 hs
      have hi2 := List.mem_range.1 hi
      exact (hB i (by omega)).2.2.2 N (weightsAll_mem _ hN.2.1 _ (List.mem_map_of_mem hi))
set_option maxRecDepth 100000 in
theorem readable_evid : Tryd.prog.readableRec 32 = true := by kernel_rfl
set_option maxRecDepth 100000 in
theorem row_evid : 32 < Tryd.prog.types.size := of_decide_eq_true (by kernel_rfl)
set_option maxRecDepth 100000 in
theorem cells_evid : Tryd.prog.cellsOf 32 = 197 := by kernel_rfl
set_option maxRecDepth 100000 in
theorem cells_signedsc : Tryd.prog.cellsOf 24 = 1 := by kernel_rfl
set_option maxRecDepth 100000 in
theorem evid_sized {H : Type} {enc : TypeId × Value → H} {W : World} {base : Nat} {v : Value} {d : DataW H} {p : List MemPlace} (hval : Value.okWide Tryd.prog W .any base 32 v)
    (h : DataW.Trod enc Tryd.prog W 0 (fun _ => true) true 32 v d p) :
    ∃ (e : EvT) (cs : List Value), v = .agg cs.toArray ∧ EvB W e cs ∧ (∀ N, (d.weights Tryd.prog 32).all (· ≤ N) = true → ∀ s ∈ allE e, s.2.length ≤ N) ∧ ∀ q ∈ p, q.block < W.heap.size := by
  simp only [Value.okWide, Tryd.underlying32] at hval
  obtain ⟨cs, rfl, hcs, _⟩ := hval
  obtain ⟨fuel, hf⟩ := h
  have hp := DataW.trod_lt _ _ _ _ hf
  obtain ⟨y0, y1, y2, n, hx, hl, h0, h1, h2⟩ := Go.Deep.trod_struct3 Tryd.underlying32 hf
  simp only [Value.cells] at hl h0 h1 h2
  rw [cells_evid] at hl
  rw [cells_signedsc] at h0
  rw [cells_signed] at h1 h2
  obtain ⟨l⟩ := cs
  simp only at hl h0 h1 h2
  obtain ⟨d0, p0⟩ := y0
  obtain ⟨d1, p1⟩ := y1
  obtain ⟨d2, p2⟩ := y2
  obtain ⟨c, e0⟩ := take_one11 (k := 0) hl (by omega)
  rw [e0] at h0
  obtain ⟨tr, ht, hsz0, _⟩ := readsS_sized (v := c) h0
  obtain ⟨sa, ca, ea, oa, ra, hsz1, _⟩ := signed_sized h1
  obtain ⟨sb, cb2, eb, ob, rb, hsz2, _⟩ := signed_sized h2
  have d1' : l = (l.drop 0).take 1 ++ l.drop 1 := by rw [List.drop_zero]; exact (List.take_append_drop 1 l).symm
  have d2' : l.drop 1 = (l.drop 1).take 98 ++ l.drop 99 := by
    have := (List.take_append_drop 98 (l.drop 1)).symm
    rwa [List.drop_drop] at this
  have d3' : l.drop 99 = (l.drop 99).take 98 := by
    rw [List.take_of_length_le (by rw [List.length_drop]; omega)]
  have hl2 : l = evC (tr, sa, sb) c ca cb2 := by
    rw [d1', d2', d3', e0, ea, eb, evC]
    rfl
  have hE : EvIs W (tr, sa, sb) c ca cb2 := ⟨ht, ra, rb, oa, ob⟩
  refine ⟨(tr, sa, sb), l, rfl, by rw [hl2]; exact hE.evB, fun N hN s hs => ?_, hp⟩
  simp only [Prod.mk.injEq] at hx
  rw [hx.1, DataW.weights] at hN
  simp only [Tryd.underlying32, List.map_cons, List.map_nil, DataW.weightsEach, List.all_append, Bool.and_eq_true] at hN
  rcases List.mem_append.1 hs with hs | hs
  · exact hsz0 N hN.1 s hs
  · rcases List.mem_cons.1 hs with rfl | hs
    · exact hsz1 N hN.2.1
    · rw [List.mem_singleton.1 hs]; exact hsz2 N hN.2.2.1
end Go.Proofs.YtableajopaappaaDoor

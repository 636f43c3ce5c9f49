/- Texts that the proof leans on, one behind the other: ForkBack, over what fork's functions do (layer 12). ForkReads, over what fork's functions do (layer 12). The walk of the reference's Find (layer 12). .. -/
import Derived.Test.YtableajopaappaaDoorMgd
import Derived.Test.YtableajopaappaaDoorRows
import Derived.Test.YtableajopaappaaDoorMga
import Derived.ProofKit
import Derived.LaidMore
import Derived.OpenShut
import Derived.Stop.Joined
import Derived.Lib.LaidTab
import Derived.Carry
import Derived.ChangeSlices
import Derived.Test.YtableajopaappaaDoorMgb
import Derived.Deep.Slices
import Derived.ChangeSame
import Derived.Deep.Strs
import Derived.Lib.SmallJoins
import Derived.Test.YtableajopaappaaDoorMgc
/- ForkBack, over what fork's functions do (layer 12). -/
namespace Go.Proofs.YtableajopaappaaDoor
open Go.RowKit Go.Shelf
set_option maxRecDepth 100000
theorem EvB.okAll {w : World} {e : EvT} {cs : List Value} (h : EvB w e cs) : ∀ s ∈ allE e, okS s := by
  obtain ⟨vt, va, vb, _, he⟩ := h.open
  intro s hs
  rcases List.mem_append.1 hs with hs | hs
  · exact he.tr.2 s hs
  · rcases List.mem_cons.1 hs with rfl | hs
    · exact he.oa
    · rw [List.mem_singleton.1 hs]; exact he.ob
set_option maxRecDepth 100000 in
set_option maxHeartbeats 8000000 in
theorem forkBack_law (hO : FkOps) (e : EvT) (cs : List Value) (w : World) (hK : KOk w) (hE : EvB w e cs) (hsz : ∀ s ∈ allE e, s.2.length < 281474976710656) :
    Calls Tryd.prog 5 #[.agg cs.toArray] w fun r w' => r = .returned (.bool true) ∧ Below w.heap.size w w' := by
  have HEV : Hid (EvB w e cs) := hE
  have HOK : Hid (EvOk e cs) := hE.ok
  have HBW : Hid (Below w.heap.size w w) := Below.refl _ _
  obtain ⟨bl, HBL⟩ : ∃ b, Hid (b = lightR e) := ⟨_, rfl⟩
  have HL : Hid (∀ W : World, Below w.heap.size w W → Calls Tryd.prog 9 #[.agg cs.toArray] W fun r w' => r = .returned (.bool bl) ∧ Below W.heap.size W w') := fun W hh => by rw [HBL.out]; exact light12_any e cs W (HEV.out.below hh)
  have HW : Hid (∀ W : World, Below w.heap.size w W → Calls Tryd.prog 10 #[] W fun r w' => r = .returned (.bool true) ∧ Below W.heap.size W w') := fun W hh => works12_any hO W (hK.below hh hK.lt)
  cases bl with
  | false =>
    clear hO hK hE hsz HBL
    go_enter Tryd.func5, Tryd.ntmps5
    have tk0 : Hid True := trivial
    have tk1 : Hid True := trivial
    have tk2 : Hid True := trivial
    have tk3 : Hid True := trivial
    go_wp2_with (first
      | (clear tk0; with_reducible refine wpSeq_boxW 32 (.tmp 0) cs ?_ ?_ ?_ ?_
         · rfl
         · rfl
         · rfl
         intro g1 y1 nn
         replace HBW : Hid (Below w.heap.size w y1) := HBW.out.trans (nn.below.mono HBW.out.size)
         have H1 : Hid (Blk y1 g1 cs 32) := nn.blk
         clear nn
         skip)
      | (clear tk1; with_reducible refine wpSeq_loadW 32 (.tmp 1) g1 0 cs _ ?_ Tryd.underlying32 rfl ?_ ?_ ?_ ?_ ?_
         · exact H1.out.range
         · exact HOK.out.info
         · rfl
         · rfl
         · rfl)
      | (clear tk2; go_at_call 9; refine (HL.out y1 HBW.out).mono ?_; rintro e y2 ⟨rfl, hbz⟩
         replace H1 : Hid (Blk y2 g1 cs 32) := H1.out.below hbz H1.out.lt
         replace HBW : Hid (Below w.heap.size w y2) := HBW.out.trans (hbz.mono HBW.out.size)
         clear hbz )
      | (clear tk3; go_at_call 10; refine (HW.out y2 HBW.out).mono ?_; rintro e y3 ⟨rfl, hbz⟩
         replace H1 : Hid (Blk y3 g1 cs 32) := H1.out.below hbz H1.out.lt
         replace HBW : Hid (Below w.heap.size w y3) := HBW.out.trans (hbz.mono HBW.out.size)
         clear hbz ))
    go_ret
    exact ⟨rfl, HBW.out⟩
  | true =>
    have hlen := lightR_len HBL.out.symm
    have hsig := lightR_sig HBL.out.symm hsz
    have hokE : ∀ s ∈ allE e, okS s ∧ s.2.length ≤ 1048576 := fun s hs => ⟨hE.okAll s hs, by have := hsig s hs; omega⟩
    have hokb : okB e := okB_light (by omega) (fun s hs => ⟨hE.okAll s hs, hsig s hs⟩)
    obtain ⟨bz, HBZ⟩ : ∃ c, Hid (c = bytesF e) := ⟨_, rfl⟩
    have HB1 : Hid (∀ W : World, Below w.heap.size w W → Calls Tryd.prog 18 #[.agg cs.toArray] W fun r w' => ∃ v, r = .returned v ∧ Reads w' v bz ∧ Below W.heap.size W w') := fun W hh => by rw [HBZ.out]; exact hO.bytes W e cs (hK.below hh hK.lt) (HEV.out.below hh) (by omega) (fun s hs => (hokE s hs).2)
    have HR1 : Hid (∀ (W : World) (v : Value), Below w.heap.size w W → Reads W v bz → Calls Tryd.prog 13 #[v] W fun r w' => ∃ c, r = .returned (.tuple #[.agg (c : List Value).toArray, .int .i64 0]) ∧ EvB w' e c ∧ Below W.heap.size W w') := fun W v hh hv => by
      rw [HBZ.out] at hv
      have h := hO.read W v (bytesF e) (hK.below hh hK.lt) hv (bytesF_le (by omega) hokE)
      rw [readX, readE, read_back hokb] at h
      exact h
    have HQ1 : Hid (∀ W : World, Below w.heap.size w W → Calls Tryd.prog 19 #[.agg cs.toArray] W fun r w' => ∃ v, r = .returned v ∧ OwnB w' W.heap.size v bz ∧ Below W.heap.size W w') := fun W hh => by rw [HBZ.out]; exact qfBytes_any e cs W (HEV.out.below hh) (by omega) (fun s hs => (hokE s hs).2)
    have HSM : Hid (∀ (W : World) (va vb : Value), Reads W va bz → Reads W vb bz → Calls Tryd.prog 17 #[va, vb] W fun r w' => r = .returned (.bool true) ∧ Below W.heap.size W w') := fun W va vb ha hb => (same_any va vb bz bz W ha hb).mono fun r w' h => ⟨by rw [h.1, decide_eq_true rfl], by rw [h.2]; exact Below.refl _ _⟩
    have HQS : Hid (∀ (W : World) (c : List Value), Below w.heap.size w W → EvB W e c → Calls Tryd.prog 15 #[.agg c.toArray, .agg cs.toArray] W fun r w' => r = .returned (.bool true) ∧ Below W.heap.size W w') := fun W c hh hc => by
      have h := qfSame_any e e c cs W hc (HEV.out.below hh) (by omega)
      rw [(sameE_iff e e).2 rfl] at h
      exact h
    clear hO hK hE hsz HBL hlen hsig hokE hokb HBZ
    go_enter Tryd.func5, Tryd.ntmps5
    have tk0 : Hid True := trivial
    have tk1 : Hid True := trivial
    have tk2 : Hid True := trivial
    have tk3 : Hid True := trivial
    have tk4 : Hid True := trivial
    have tk5 : Hid True := trivial
    have tk6 : Hid True := trivial
    have tk7 : Hid True := trivial
    have tk8 : Hid True := trivial
    have tk9 : Hid True := trivial
    have tk10 : Hid True := trivial
    have tk11 : Hid True := trivial
    have tk12 : Hid True := trivial
    have tk13 : Hid True := trivial
    have tk14 : Hid True := trivial
    go_wp2_with (first
      | (clear tk0; with_reducible refine wpSeq_boxW 32 (.tmp 0) cs ?_ ?_ ?_ ?_
         · rfl
         · rfl
         · rfl
         intro g1 y1 nn
         replace HBW : Hid (Below w.heap.size w y1) := HBW.out.trans (nn.below.mono HBW.out.size)
         have H1 : Hid (Blk y1 g1 cs 32) := nn.blk
         clear nn
         skip)
      | (clear tk1; with_reducible refine wpSeq_loadW 32 (.tmp 1) g1 0 cs _ ?_ Tryd.underlying32 rfl ?_ ?_ ?_ ?_ ?_
         · exact H1.out.range
         · exact HOK.out.info
         · rfl
         · rfl
         · rfl)
      | (clear tk2; go_at_call 9; refine (HL.out y1 HBW.out).mono ?_; rintro e y2 ⟨rfl, hbz⟩
         replace H1 : Hid (Blk y2 g1 cs 32) := H1.out.below hbz H1.out.lt
         replace HBW : Hid (Below w.heap.size w y2) := HBW.out.trans (hbz.mono HBW.out.size)
         clear hbz )
      | (clear tk3; with_reducible refine wpSeq_loadW 32 (.tmp 1) g1 0 cs _ ?_ Tryd.underlying32 rfl ?_ ?_ ?_ ?_ ?_
         · exact H1.out.range
         · exact HOK.out.info
         · rfl
         · rfl
         · rfl)
      | (clear tk4; go_at_call 18; refine (HB1.out y2 HBW.out).mono ?_; rintro e y3 ⟨vb, rfl, hvb, hbz⟩
         replace H1 : Hid (Blk y3 g1 cs 32) := H1.out.below hbz H1.out.lt
         replace HBW : Hid (Below w.heap.size w y3) := HBW.out.trans (hbz.mono HBW.out.size)
         obtain ⟨aV, nV, cV, hvv⟩ := hvb.form
         subst hvv
         have HVB : Hid (Reads y3 (.slice aV nV cV) bz) := hvb
         clear hbz hvb)
      | (clear tk5; go_at_call 13; refine (HR1.out y3 _ HBW.out HVB.out).mono ?_; rintro e y4 ⟨c2, rfl, hev, hbz⟩
         replace H1 : Hid (Blk y4 g1 cs 32) := H1.out.below hbz H1.out.lt
         replace HVB : Hid (Reads y4 (.slice aV nV cV) bz) := HVB.out.below hbz
         replace HBW : Hid (Below w.heap.size w y4) := HBW.out.trans (hbz.mono HBW.out.size)
         have HE2 : Hid (EvOk e c2) := hev.ok
         have HB2 : Hid (EvB y4 e c2) := hev
         clear hbz hev)
      | (clear tk6; with_reducible refine wpSeq_allocE ?_ ?_ ?_
         · rfl
         · rfl
         intro g4 y5 nn)
      | (clear tk7; with_reducible refine wpSeq_storeRow 32 (.tmp 4) (.tmp 15) g4 (evC zeroE (.slice none 0 0) (.slice none 0 0) (.slice none 0 0)) c2 ?_ ?_ ?_ ?_ ?_ ?_ ?_ ?_ ?_
         · exact nn.blk
         · exact HE2.out.lz
         · exact HE2.out.info
         · exact HE2.out.one
         · rfl
         · rfl
         · rfl
         · rfl
         intro y6 hs
         have hbz := nn.below.trans (hs.only.below nn.ge nn.below.size)
         replace H1 : Hid (Blk y6 g1 cs 32) := H1.out.below hbz H1.out.lt
         replace HVB : Hid (Reads y6 (.slice aV nV cV) bz) := HVB.out.below hbz
         replace HB2 : Hid (EvB y6 e c2) := HB2.out.below hbz
         replace HBW : Hid (Below w.heap.size w y6) := HBW.out.trans (hbz.mono HBW.out.size)
         have H4 : Hid (Blk y6 g4 c2 32) := hs.blk
         clear nn hs hbz)
      | (clear tk8; with_reducible refine wpSeq_loadW 32 (.tmp 1) g1 0 cs _ ?_ Tryd.underlying32 rfl ?_ ?_ ?_ ?_ ?_
         · exact H1.out.range
         · exact HOK.out.info
         · rfl
         · rfl
         · rfl)
      | (clear tk9; go_at_call 19; refine (HQ1.out y6 HBW.out).mono ?_; rintro e y7 ⟨vq, rfl, hvq, hbz⟩
         replace H1 : Hid (Blk y7 g1 cs 32) := H1.out.below hbz H1.out.lt
         replace H4 : Hid (Blk y7 g4 c2 32) := H4.out.below hbz H4.out.lt
         replace HVB : Hid (Reads y7 (.slice aV nV cV) bz) := HVB.out.below hbz
         replace HB2 : Hid (EvB y7 e c2) := HB2.out.below hbz
         replace HBW : Hid (Below w.heap.size w y7) := HBW.out.trans (hbz.mono HBW.out.size)
         have HVQ : Hid (Reads y7 vq bz) := hvq.reads
         clear hbz hvq)
      | (clear tk10; go_at_call 17; refine (HSM.out y7 _ _ HVB.out HVQ.out).mono ?_; rintro e y8 ⟨rfl, hbz⟩
         clear HVQ
         replace H1 : Hid (Blk y8 g1 cs 32) := H1.out.below hbz H1.out.lt
         replace H4 : Hid (Blk y8 g4 c2 32) := H4.out.below hbz H4.out.lt
         replace HVB : Hid (Reads y8 (.slice aV nV cV) bz) := HVB.out.below hbz
         replace HB2 : Hid (EvB y8 e c2) := HB2.out.below hbz
         replace HBW : Hid (Below w.heap.size w y8) := HBW.out.trans (hbz.mono HBW.out.size)
         clear hbz )
      | (clear tk11; with_reducible refine wpSeq_loadW 32 (.tmp 4) g4 0 c2 _ ?_ Tryd.underlying32 rfl ?_ ?_ ?_ ?_ ?_
         · exact H4.out.range
         · exact HE2.out.info
         · rfl
         · rfl
         · rfl)
      | (clear tk12; with_reducible refine wpSeq_loadW 32 (.tmp 1) g1 0 cs _ ?_ Tryd.underlying32 rfl ?_ ?_ ?_ ?_ ?_
         · exact H1.out.range
         · exact HOK.out.info
         · rfl
         · rfl
         · rfl)
      | (clear tk13; go_at_call 15; refine (HQS.out y8 c2 HBW.out HB2.out).mono ?_; rintro e y9 ⟨rfl, hbz⟩
         replace H1 : Hid (Blk y9 g1 cs 32) := H1.out.below hbz H1.out.lt
         replace H4 : Hid (Blk y9 g4 c2 32) := H4.out.below hbz H4.out.lt
         replace HVB : Hid (Reads y9 (.slice aV nV cV) bz) := HVB.out.below hbz
         replace HB2 : Hid (EvB y9 e c2) := HB2.out.below hbz
         replace HBW : Hid (Below w.heap.size w y9) := HBW.out.trans (hbz.mono HBW.out.size)
         clear hbz )
      | (clear tk14; go_at_call 10; refine (HW.out y9 HBW.out).mono ?_; rintro e y10 ⟨rfl, hbz⟩
         replace H1 : Hid (Blk y10 g1 cs 32) := H1.out.below hbz H1.out.lt
         replace H4 : Hid (Blk y10 g4 c2 32) := H4.out.below hbz H4.out.lt
         replace HVB : Hid (Reads y10 (.slice aV nV cV) bz) := HVB.out.below hbz
         replace HB2 : Hid (EvB y10 e c2) := HB2.out.below hbz
         replace HBW : Hid (Below w.heap.size w y10) := HBW.out.trans (hbz.mono HBW.out.size)
         clear hbz ))
    go_ret
    exact ⟨rfl, HBW.out⟩
end Go.Proofs.YtableajopaappaaDoor
/- ForkReads, over what fork's functions do (layer 12). -/
namespace Go.Proofs.YtableajopaappaaDoor
open Go.RowKit Go.Shelf
set_option maxRecDepth 100000
end Go.Proofs.YtableajopaappaaDoor
/- The walk of the reference's Find (layer 12). -/
namespace Go.Proofs.YtableajopaappaaDoor
open Go.RowKit Go.Shelf
set_option maxRecDepth 100000
structure FdI (w : World) (g : Nat) (pin : Bs) (W : World) : Prop where
  pn : Blk W g (cb pin) 23
  bel : Below w.heap.size w W
theorem FdI.next {w : World} {g : Nat} {pin : Bs} {W W' : World} (h : FdI w g pin W) (hb : Below W.heap.size W W') : FdI w g pin W' := ⟨h.pn.below hb h.pn.lt, h.bel.trans (hb.mono h.bel.size)⟩
theorem FdI.drew {w : World} {g : Nat} {pin : Bs} {W : World} (h : FdI w g pin W) : FdI w g pin W.drew := h.next (Below.refl _ _).drew
theorem drop_at {l : List SgT} {k : Nat} (hk : k < l.length) : l.drop k = l.getD k zeroS :: l.drop (k + 1) := by
  have hg : l.getD k zeroS = l[k]'hk := by rw [List.getD_eq_getElem?_getD, List.getElem?_eq_getElem hk]; rfl
  rw [hg, List.getElem_cons_drop]
theorem firstU_same {l m : List SgT} {k : Nat} (hl : k < l.length) (hm : k < m.length) (h : firstU l m = (firstU (l.drop k) (m.drop k)).map (· + k)) (hs : (l.getD k zeroS).1 = (m.getD k zeroS).1) : firstU l m = (firstU (l.drop (k + 1)) (m.drop (k + 1))).map (· + (k + 1)) := by
  rw [h, drop_at hl, drop_at hm, firstU, if_pos hs, Option.map_map]
  congr 1
  funext x
  show x + 1 + k = x + (k + 1)
  omega
theorem firstU_unlike {l m : List SgT} {k : Nat} (hl : k < l.length) (hm : k < m.length) (h : firstU l m = (firstU (l.drop k) (m.drop k)).map (· + k)) (hs : (l.getD k zeroS).1 ≠ (m.getD k zeroS).1) : firstU l m = some k := by
  rw [h, drop_at hl, drop_at hm, firstU, if_neg hs]
  simp
theorem firstU_end {l m : List SgT} {k : Nat} (hk : l.length ≤ k ∨ m.length ≤ k) (h : firstU l m = (firstU (l.drop k) (m.drop k)).map (· + k)) : firstU l m = none := by
  rw [h]
  rcases hk with hk | hk
  · rw [List.drop_eq_nil_of_le hk]; cases m.drop k <;> rfl
  · rw [List.drop_eq_nil_of_le hk]; cases l.drop k <;> rfl
end Go.Proofs.YtableajopaappaaDoor
/- The walks of fork's firstUnlike and Find; what fork's functions do (layer 12). -/
namespace Go.Proofs.YtableajopaappaaDoor
open Go.RowKit Go.Shelf
set_option maxRecDepth 100000
/-- the place that is told -/
def unlikeN (l m : List SgT) : Nat := (firstU l m).getD (min l.length m.length)
set_option maxRecDepth 100000 in
set_option maxHeartbeats 8000000 in
theorem fkUnlike_any (vl vm : Value) (l m : List SgT) (w : World) (hl : ReadsS w vl l) (hm : ReadsS w vm m) (hll : l.length < 1000000) :
    Calls Tryd.prog 43 #[vl, vm] w fun r w' => r = .returned (.int .i64 (unlikeN l m : Int)) ∧ Below w.heap.size w w' := by
  obtain ⟨adl, cl, hvl⟩ := hl.form
  obtain ⟨adm, cm, hvm⟩ := hm.form
  obtain ⟨nl, HNL⟩ : ∃ n, Hid (n = l.length) := ⟨_, rfl⟩
  obtain ⟨nm, HNM⟩ : ∃ n, Hid (n = m.length) := ⟨_, rfl⟩
  obtain ⟨n, HNN⟩ : ∃ n, Hid (n = min nl nm) := ⟨_, rfl⟩
  rw [← HNL.out] at hvl
  rw [← HNM.out] at hvm
  subst hvl hvm
  have HRL : Hid (ReadsS w (.slice adl nl cl) l) := hl
  have HRM : Hid (ReadsS w (.slice adm nm cm) m) := hm
  have HLL : Hid (nl < 1000000) := by show _ < _; rw [HNL.out]; exact hll
  obtain ⟨Z, HZZ⟩ : ∃ z, Hid (z = (unlikeN l m : Int)) := ⟨_, rfl⟩
  rw [← HZZ.out]
  have HBW : Hid (Below w.heap.size w w) := Below.refl _ _
  have HNB : Hid (n ≤ nl ∧ n ≤ nm) := by rw [HNN.out]; exact ⟨Nat.min_le_left _ _, Nat.min_le_right _ _⟩
  clear hl hm hll
  go_enter Tryd.func43, Tryd.ntmps43
  have tk0 : Hid True := trivial
  go_wp2_with (first
    | (clear tk0; with_reducible refine wpSeq_min12 (.tmp 8) (.tmp 10) nl nm n HNN.out ?_ ?_ ?_ ?_ ?_
       · rfl
       · rfl
       · rfl
       · rfl))
  have HI0 : Hid (Below w.heap.size w w) := HBW.out
  clear HBW
  go_loopw [13] (fun i wr => ∃ (k : Nat), k ≤ n ∧ i = .int .i64 (k : Int) ∧ Hid (firstU l m = (firstU (l.drop k) (m.drop k)).map (· + k)) ∧ Hid (Below w.heap.size w wr)) (fun i _ => n - (intOf i).toNat)
  case atStart => exact ⟨0, by omega, rfl, (by show _ = _; simp), HI0⟩
  case round =>
    obtain ⟨k, hkn, rfl, HFU, HBW⟩ := hrel
    clear HI0
    by_cases hlt : k < n
    case neg =>
      have hlk : ¬ ((k : Int) < (n : Int)) := by omega
      have HZ : Hid (Z = (n : Int)) := by
        show _ = _
        have h0 : firstU l m = none := firstU_end (k := k) (by
          rw [← HNL.out, ← HNM.out]
          have h := HNN.out
          omega) HFU.out
        rw [HZZ.out, unlikeN, h0, HNN.out, HNL.out, HNM.out]
        rfl
      go_wp2
      go_ret
      exact ⟨by rw [HZ.out]; rfl, HBW.out⟩
    have hlk : (k : Int) < (n : Int) := by omega
    have f5 : IntKind.i64.wrap ((k : Int) + 1) = (k : Int) + 1 := by rw [IntKind.wrap_i64]; have h1 := HLL.out; have h2 := HNB.out.1; omega
    have HKL : Hid (k < nl ∧ k < nm) := by have h1 := HNB.out; exact ⟨by omega, by omega⟩
    have HL1 : Hid (k < l.length) := by show _ < _; rw [← HNL.out]; exact HKL.out.1
    have HL2 : Hid (k < m.length) := by show _ < _; rw [← HNM.out]; exact HKL.out.2
    obtain ⟨b1, o1, c1, hv1, hat1⟩ := HRL.out.at (Nat.lt_of_le_of_lt (Nat.zero_le _) HL1.out)
    obtain ⟨b2, o2, c2, hv2, hat2⟩ := HRM.out.at (Nat.lt_of_le_of_lt (Nat.zero_le _) HL2.out)
    simp only [Value.slice.injEq] at hv1 hv2
    obtain ⟨rfl, hn1, rfl⟩ := hv1
    obtain ⟨rfl, hn2, rfl⟩ := hv2
    clear hn1 hn2
    obtain ⟨v1, hs1, hr1⟩ := hat1 k HL1.out
    obtain ⟨v2, hs2, hr2⟩ := hat2 k HL2.out
    obtain ⟨s, HS⟩ : ∃ s, Hid (s = l.getD k zeroS) := ⟨_, rfl⟩
    obtain ⟨t, HT⟩ : ∃ t, Hid (t = m.getD k zeroS) := ⟨_, rfl⟩
    rw [← HS.out] at hs1 hr1
    rw [← HT.out] at hs2 hr2
    obtain ⟨rt1, HRT1⟩ : ∃ c, Hid (c = rtC s) := ⟨_, rfl⟩
    obtain ⟨rt2, HRT2⟩ : ∃ c, Hid (c = rtC t) := ⟨_, rfl⟩
    have HT1 : Hid (∀ W : World, Below w.heap.size w W → W.rangeAt b1 (o1 + k * 98) rt1) := fun W hh => by rw [HRT1.out]; exact (hs1.below hh (Nat.le_refl _)).root
    have HT2 : Hid (∀ W : World, Below w.heap.size w W → W.rangeAt b2 (o2 + k * 98) rt2) := fun W hh => by rw [HRT2.out]; exact (hs2.below hh (Nat.le_refl _)).root
    have HJ1 : Hid ((Tryd.prog.info? 27).map (·.size) = some rt1.length) := by show _ = _; rw [HRT1.out]; exact info_rtC hs1.ok
    have HJ2 : Hid ((Tryd.prog.info? 27).map (·.size) = some rt2.length) := by show _ = _; rw [HRT2.out]; exact info_rtC hs2.ok
    obtain ⟨r, HRK⟩ : ∃ r, Hid (r = decide (s.1 = t.1)) := ⟨_, rfl⟩
    have heq : ∀ wx : World, (Op.equalIn 10000 27 (.agg rt1.toArray) (.agg rt2.toArray)).run Tryd.prog wx = .ok r wx := fun wx => by rw [HRT1.out, HRT2.out, HRK.out]; exact eq_rt _ _ hs1.ok hs2.ok wx
    cases r with
    | true =>
      have HF2 : Hid (firstU l m = (firstU (l.drop (k + 1)) (m.drop (k + 1))).map (· + (k + 1))) := firstU_same HL1.out HL2.out HFU.out (by rw [← HS.out, ← HT.out]; exact of_decide_eq_true HRK.out.symm)
      clear hat1 hat2 hs1 hs2 hr1 hr2 HRT1 HRT2
      go_wp2
      refine wp_region_held_drew (S := Over (World.drew wr)) (by kernel_rfl) (Over.refl _) ?_
      intro hS
      replace HBW : Hid (Below w.heap.size w (World.drew wr)) := HBW.out.drew
      change wpAnyH _ _ _ _ _ _ _ _ (World.drew wr)
      generalize World.drew wr = y0 at *
      try simp only [Act.put, List.setIfInBounds_toArray, List.set_cons_zero, List.set_cons_succ]
      refine wpAnyH_take (i := 0) (v := .slice (some ⟨b1, o1, none⟩) nl cl) rfl (by kernel_rfl) (by kernel_rfl) (by kernel_rfl) (fun _ _ _ h => h) (Or.inl ⟨by rfl, fun wx hx => by simp [go_sem]⟩) hS ?_
      simp only [Act.put, List.getElem_toArray, List.getElem_cons_zero, List.setIfInBounds_toArray, List.set_cons_zero, List.set_cons_succ]
      refine wpAnyH_take (i := 1) (v := .int .i64 (k : Int)) rfl (by kernel_rfl) (by kernel_rfl) (by kernel_rfl) (fun _ _ _ h => h) (Or.inl ⟨by rfl, fun wx hx => by simp [go_sem]⟩) hS ?_
      simp only [Act.put, List.getElem_toArray, List.getElem_cons_succ, List.getElem_cons_zero, List.setIfInBounds_toArray, List.set_cons_zero, List.set_cons_succ]
      refine wpAnyH_take (i := 2) (v := .pointer (some ⟨b1, o1 + k * 98, none⟩)) rfl (by kernel_rfl) (by kernel_rfl) (by kernel_rfl) (fun _ _ _ h => h) (Or.inl ⟨by rfl, fun wx hx => by exact idx98 b1 o1 cl nl k HKL.out.1 _ _ _ _ rfl rfl rfl _⟩) hS ?_
      simp only [Act.put, List.getElem_toArray, List.getElem_cons_succ, List.getElem_cons_zero, List.setIfInBounds_toArray, List.set_cons_zero, List.set_cons_succ]
      refine wpAnyH_take (i := 3) (v := .pointer (some ⟨b1, o1 + k * 98, none⟩)) rfl (by kernel_rfl) (by kernel_rfl) (by kernel_rfl) (fun _ _ _ h => h) (Or.inl ⟨by rfl, fun wx hx => by simp [go_sem]⟩) hS ?_
      simp only [Act.put, List.getElem_toArray, List.getElem_cons_succ, List.getElem_cons_zero, List.setIfInBounds_toArray, List.set_cons_zero, List.set_cons_succ]
      refine wpAnyH_take (i := 4) (v := .agg rt1.toArray) rfl (by kernel_rfl) (by kernel_rfl) (by kernel_rfl) (fun _ _ _ h => h) (Or.inl ⟨by rfl, fun wx hx => by exact load_run 27 _ rfl b1 (o1 + k * 98) rfl rt1 _ (HT1.out _ (HBW.out.trans (Below.mono hx HBW.out.size))) Tryd.underlying27 rfl HJ1.out⟩) hS ?_
      simp only [Act.put, List.getElem_toArray, List.getElem_cons_succ, List.getElem_cons_zero, List.setIfInBounds_toArray, List.set_cons_zero, List.set_cons_succ]
      refine wpAnyH_take (i := 5) (v := .slice (some ⟨b2, o2, none⟩) nm cm) rfl (by kernel_rfl) (by kernel_rfl) (by kernel_rfl) (fun _ _ _ h => h) (Or.inl ⟨by rfl, fun wx hx => by simp [go_sem]⟩) hS ?_
      simp only [Act.put, List.getElem_toArray, List.getElem_cons_succ, List.getElem_cons_zero, List.setIfInBounds_toArray, List.set_cons_zero, List.set_cons_succ]
      refine wpAnyH_take (i := 6) (v := .int .i64 (k : Int)) rfl (by kernel_rfl) (by kernel_rfl) (by kernel_rfl) (fun _ _ _ h => h) (Or.inl ⟨by rfl, fun wx hx => by simp [go_sem]⟩) hS ?_
      simp only [Act.put, List.getElem_toArray, List.getElem_cons_succ, List.getElem_cons_zero, List.setIfInBounds_toArray, List.set_cons_zero, List.set_cons_succ]
      refine wpAnyH_take (i := 7) (v := .pointer (some ⟨b2, o2 + k * 98, none⟩)) rfl (by kernel_rfl) (by kernel_rfl) (by kernel_rfl) (fun _ _ _ h => h) (Or.inl ⟨by rfl, fun wx hx => by exact idx98 b2 o2 cm nm k HKL.out.2 _ _ _ _ rfl rfl rfl _⟩) hS ?_
      simp only [Act.put, List.getElem_toArray, List.getElem_cons_succ, List.getElem_cons_zero, List.setIfInBounds_toArray, List.set_cons_zero, List.set_cons_succ]
      refine wpAnyH_take (i := 8) (v := .pointer (some ⟨b2, o2 + k * 98, none⟩)) rfl (by kernel_rfl) (by kernel_rfl) (by kernel_rfl) (fun _ _ _ h => h) (Or.inl ⟨by rfl, fun wx hx => by simp [go_sem]⟩) hS ?_
      simp only [Act.put, List.getElem_toArray, List.getElem_cons_succ, List.getElem_cons_zero, List.setIfInBounds_toArray, List.set_cons_zero, List.set_cons_succ]
      refine wpAnyH_take (i := 9) (v := .agg rt2.toArray) rfl (by kernel_rfl) (by kernel_rfl) (by kernel_rfl) (fun _ _ _ h => h) (Or.inl ⟨by rfl, fun wx hx => by exact load_run 27 _ rfl b2 (o2 + k * 98) rfl rt2 _ (HT2.out _ (HBW.out.trans (Below.mono hx HBW.out.size))) Tryd.underlying27 rfl HJ2.out⟩) hS ?_
      simp only [Act.put, List.getElem_toArray, List.getElem_cons_succ, List.getElem_cons_zero, List.setIfInBounds_toArray, List.set_cons_zero, List.set_cons_succ]
      refine wpAnyH_take (i := 10) (v := .bool false) rfl (by kernel_rfl) (by kernel_rfl) (by kernel_rfl) (fun _ _ _ h => h) (Or.inl ⟨by rfl, fun wx hx => by simp [go_sem, heq]⟩) hS ?_
      simp only [Act.put, List.getElem_toArray, List.getElem_cons_succ, List.getElem_cons_zero, List.setIfInBounds_toArray, List.set_cons_zero, List.set_cons_succ]
      refine wpAnyH_done (by kernel_rfl) ?_ _
      go_wp2
      go_roundw
      case rel => exact ⟨k + 1, by omega, by simp, HF2, HBW.out.trans (Below.mono hS HBW.out.size)⟩
      case measure => simp [intOf]; omega
    | false =>
      have HZ : Hid (Z = (k : Int)) := by
        show _ = _
        rw [HZZ.out, unlikeN, firstU_unlike HL1.out HL2.out HFU.out (by rw [← HS.out, ← HT.out]; exact of_decide_eq_false HRK.out.symm)]
        rfl
      clear hat1 hat2 hs1 hs2 hr1 hr2 HRT1 HRT2
      go_wp2
      refine wp_region_held_drew (S := Over (World.drew wr)) (by kernel_rfl) (Over.refl _) ?_
      intro hS
      replace HBW : Hid (Below w.heap.size w (World.drew wr)) := HBW.out.drew
      change wpAnyH _ _ _ _ _ _ _ _ (World.drew wr)
      generalize World.drew wr = y0 at *
      try simp only [Act.put, List.setIfInBounds_toArray, List.set_cons_zero, List.set_cons_succ]
      refine wpAnyH_take (i := 0) (v := .slice (some ⟨b1, o1, none⟩) nl cl) rfl (by kernel_rfl) (by kernel_rfl) (by kernel_rfl) (fun _ _ _ h => h) (Or.inl ⟨by rfl, fun wx hx => by simp [go_sem]⟩) hS ?_
      simp only [Act.put, List.getElem_toArray, List.getElem_cons_zero, List.setIfInBounds_toArray, List.set_cons_zero, List.set_cons_succ]
      refine wpAnyH_take (i := 1) (v := .int .i64 (k : Int)) rfl (by kernel_rfl) (by kernel_rfl) (by kernel_rfl) (fun _ _ _ h => h) (Or.inl ⟨by rfl, fun wx hx => by simp [go_sem]⟩) hS ?_
      simp only [Act.put, List.getElem_toArray, List.getElem_cons_succ, List.getElem_cons_zero, List.setIfInBounds_toArray, List.set_cons_zero, List.set_cons_succ]
      refine wpAnyH_take (i := 2) (v := .pointer (some ⟨b1, o1 + k * 98, none⟩)) rfl (by kernel_rfl) (by kernel_rfl) (by kernel_rfl) (fun _ _ _ h => h) (Or.inl ⟨by rfl, fun wx hx => by exact idx98 b1 o1 cl nl k HKL.out.1 _ _ _ _ rfl rfl rfl _⟩) hS ?_
      simp only [Act.put, List.getElem_toArray, List.getElem_cons_succ, List.getElem_cons_zero, List.setIfInBounds_toArray, List.set_cons_zero, List.set_cons_succ]
      refine wpAnyH_take (i := 3) (v := .pointer (some ⟨b1, o1 + k * 98, none⟩)) rfl (by kernel_rfl) (by kernel_rfl) (by kernel_rfl) (fun _ _ _ h => h) (Or.inl ⟨by rfl, fun wx hx => by simp [go_sem]⟩) hS ?_
      simp only [Act.put, List.getElem_toArray, List.getElem_cons_succ, List.getElem_cons_zero, List.setIfInBounds_toArray, List.set_cons_zero, List.set_cons_succ]
      refine wpAnyH_take (i := 4) (v := .agg rt1.toArray) rfl (by kernel_rfl) (by kernel_rfl) (by kernel_rfl) (fun _ _ _ h => h) (Or.inl ⟨by rfl, fun wx hx => by exact load_run 27 _ rfl b1 (o1 + k * 98) rfl rt1 _ (HT1.out _ (HBW.out.trans (Below.mono hx HBW.out.size))) Tryd.underlying27 rfl HJ1.out⟩) hS ?_
      simp only [Act.put, List.getElem_toArray, List.getElem_cons_succ, List.getElem_cons_zero, List.setIfInBounds_toArray, List.set_cons_zero, List.set_cons_succ]
      refine wpAnyH_take (i := 5) (v := .slice (some ⟨b2, o2, none⟩) nm cm) rfl (by kernel_rfl) (by kernel_rfl) (by kernel_rfl) (fun _ _ _ h => h) (Or.inl ⟨by rfl, fun wx hx => by simp [go_sem]⟩) hS ?_
      simp only [Act.put, List.getElem_toArray, List.getElem_cons_succ, List.getElem_cons_zero, List.setIfInBounds_toArray, List.set_cons_zero, List.set_cons_succ]
      refine wpAnyH_take (i := 6) (v := .int .i64 (k : Int)) rfl (by kernel_rfl) (by kernel_rfl) (by kernel_rfl) (fun _ _ _ h => h) (Or.inl ⟨by rfl, fun wx hx => by simp [go_sem]⟩) hS ?_
      simp only [Act.put, List.getElem_toArray, List.getElem_cons_succ, List.getElem_cons_zero, List.setIfInBounds_toArray, List.set_cons_zero, List.set_cons_succ]
      refine wpAnyH_take (i := 7) (v := .pointer (some ⟨b2, o2 + k * 98, none⟩)) rfl (by kernel_rfl) (by kernel_rfl) (by kernel_rfl) (fun _ _ _ h => h) (Or.inl ⟨by rfl, fun wx hx => by exact idx98 b2 o2 cm nm k HKL.out.2 _ _ _ _ rfl rfl rfl _⟩) hS ?_
      simp only [Act.put, List.getElem_toArray, List.getElem_cons_succ, List.getElem_cons_zero, List.setIfInBounds_toArray, List.set_cons_zero, List.set_cons_succ]
      refine wpAnyH_take (i := 8) (v := .pointer (some ⟨b2, o2 + k * 98, none⟩)) rfl (by kernel_rfl) (by kernel_rfl) (by kernel_rfl) (fun _ _ _ h => h) (Or.inl ⟨by rfl, fun wx hx => by simp [go_sem]⟩) hS ?_
      simp only [Act.put, List.getElem_toArray, List.getElem_cons_succ, List.getElem_cons_zero, List.setIfInBounds_toArray, List.set_cons_zero, List.set_cons_succ]
      refine wpAnyH_take (i := 9) (v := .agg rt2.toArray) rfl (by kernel_rfl) (by kernel_rfl) (by kernel_rfl) (fun _ _ _ h => h) (Or.inl ⟨by rfl, fun wx hx => by exact load_run 27 _ rfl b2 (o2 + k * 98) rfl rt2 _ (HT2.out _ (HBW.out.trans (Below.mono hx HBW.out.size))) Tryd.underlying27 rfl HJ2.out⟩) hS ?_
      simp only [Act.put, List.getElem_toArray, List.getElem_cons_succ, List.getElem_cons_zero, List.setIfInBounds_toArray, List.set_cons_zero, List.set_cons_succ]
      refine wpAnyH_take (i := 10) (v := .bool true) rfl (by kernel_rfl) (by kernel_rfl) (by kernel_rfl) (fun _ _ _ h => h) (Or.inl ⟨by rfl, fun wx hx => by simp [go_sem, heq]⟩) hS ?_
      simp only [Act.put, List.getElem_toArray, List.getElem_cons_succ, List.getElem_cons_zero, List.setIfInBounds_toArray, List.set_cons_zero, List.set_cons_succ]
      refine wpAnyH_done (by kernel_rfl) ?_ _
      go_wp2
      go_ret
      exact ⟨by rw [HZ.out]; rfl, HBW.out.trans (Below.mono hS HBW.out.size)⟩
set_option maxRecDepth 100000 in
set_option maxHeartbeats 8000000 in
theorem fkFind_any (pin : Bs) (vl vm : Value) (l m : List SgT) (w : World) (hK : KOk w) (hp : pin.length = 32) (hl : ReadsS w vl l) (hm : ReadsS w vm m) (hl40 : l.length ≤ 40) (_ : m.length ≤ 40) (hzl : ∀ s ∈ l, s.2.length ≤ 524288) (hzm : ∀ s ∈ m, s.2.length ≤ 524288) :
    Calls Tryd.prog 21 #[.agg (cb pin).toArray, vl, vm] w fun r w' => ∃ cs, r = .returned (.tuple #[.agg (cs : List Value).toArray, .bool (findF pin l m).isSome]) ∧ EvB w' (findE pin l m) cs ∧ Below w.heap.size w w' := by
  obtain ⟨adl, cl, hvl⟩ := hl.form
  obtain ⟨adm, cm, hvm⟩ := hm.form
  obtain ⟨nl, HNL⟩ : ∃ n, Hid (n = l.length) := ⟨_, rfl⟩
  obtain ⟨nm, HNM⟩ : ∃ n, Hid (n = m.length) := ⟨_, rfl⟩
  obtain ⟨n, HNN⟩ : ∃ n, Hid (n = min nl nm) := ⟨_, rfl⟩
  have hcl0 : ∀ k, k ≤ l.length → k ≤ cl := fun k hk => by
    obtain ⟨⟨ad', cap, hv, hc, _⟩, _⟩ := id hl
    rw [hvl] at hv
    simp only [Value.slice.injEq] at hv
    obtain ⟨_, _, rfl⟩ := hv
    omega
  rw [← HNL.out] at hvl
  rw [← HNM.out] at hvm
  subst hvl hvm
  have HRL : Hid (ReadsS w (.slice adl nl cl) l) := hl
  have HRM : Hid (ReadsS w (.slice adm nm cm) m) := hm
  have HCL : Hid (∀ k, k ≤ l.length → k ≤ cl) := hcl0
  have HPL : Hid (pin.length = 32) := hp
  have HIP : Hid ((Tryd.prog.info? 23).map (·.size) = some (cb pin).length) := by show _ = _; rw [cb_len, hp]; exact info_digest
  have HL40 : Hid (l.length ≤ 40) := hl40
  have HZL : Hid ((∀ s ∈ l, s.2.length ≤ 524288) ∧ ∀ s ∈ m, s.2.length ≤ 524288) := ⟨hzl, hzm⟩
  have HKW : Hid (∀ W : World, Below w.heap.size w W → KOk W) := fun W hh => hK.below hh hK.lt
  have HBW : Hid (Below w.heap.size w w) := Below.refl _ _
  obtain ⟨cz, HCZ⟩ : ∃ c, Hid (c = evC zeroE (.slice none 0 0) (.slice none 0 0) (.slice none 0 0)) := ⟨_, rfl⟩
  have HOZ : Hid (EvOk zeroE cz) := by rw [HCZ.out]; exact (EvB.zero w).ok
  have hcu : ∀ W : World, Below w.heap.size w W → Calls Tryd.prog 43 #[.slice adl nl cl, .slice adm nm cm] W fun r w' => r = .returned (.int .i64 (unlikeN l m : Int)) ∧ Below W.heap.size W w' := fun W hh => fkUnlike_any _ _ l m W (HRL.out.below hh) (HRM.out.below hh) (by omega)
  clear hl hm hp hK hl40 hzl hzm hcl0
  cases hfu : firstU l m with
  | none =>
    have HF0 : Hid (findF pin l m = none) := by show _ = _; rw [findF, hfu]
    have HFI : Hid ((findF pin l m).isSome = false) := by show _ = _; rw [HF0.out]; rfl
    have HFE : Hid (findE pin l m = zeroE) := by show _ = _; rw [findE, HF0.out]; rfl
    have HCU : Hid (∀ W : World, Below w.heap.size w W → Calls Tryd.prog 43 #[.slice adl nl cl, .slice adm nm cm] W fun r w' => r = .returned (.int .i64 (n : Int)) ∧ Below W.heap.size W w') := fun W hh => by
      have h := hcu W hh
      rw [unlikeN, hfu, ← HNL.out, ← HNM.out] at h
      rw [HNN.out]
      exact h
    clear hcu hfu
    go_enter Tryd.func21, Tryd.ntmps21
    have tk0 : Hid True := trivial
    have tk1 : Hid True := trivial
    have tk2 : Hid True := trivial
    have tk3 : Hid True := trivial
    have tk20 : Hid True := trivial
    have tk21 : Hid True := trivial
    go_wp2_with (first
      | (clear tk0; with_reducible refine wpSeq_boxW 23 (.tmp 0) (cb pin) ?_ ?_ ?_ ?_
         · rfl
         · rfl
         · rfl
         intro g3 y1 nn
         have HG3 : Hid (Blk y1 g3 (cb pin) 23) := nn.blk
         replace HBW : Hid (Below w.heap.size w y1) := nn.below
         clear nn)
      | (clear tk1; with_reducible refine wpSeq_allocE ?_ ?_ ?_
         · rfl
         · rfl
         intro g6 y2 nn
         have HG6 : Hid (w.heap.size ≤ g6) := Nat.le_trans HBW.out.size nn.ge
         have H6 : Hid (Blk y2 g6 cz 32) := by rw [HCZ.out]; exact nn.blk
         replace HG3 : Hid (Blk y2 g3 (cb pin) 23) := HG3.out.below nn.below HG3.out.lt
         replace HBW : Hid (Below w.heap.size w y2) := HBW.out.trans (nn.below.mono HBW.out.size)
         clear nn)
      | (clear tk2; go_at_call 43; refine (HCU.out y2 HBW.out).mono ?_; rintro e0 y3 ⟨rfl, hbz⟩
         replace HG3 : Hid (Blk y3 g3 (cb pin) 23) := HG3.out.below hbz HG3.out.lt
         replace H6 : Hid (Blk y3 g6 cz 32) := H6.out.below hbz H6.out.lt
         replace HBW : Hid (Below w.heap.size w y3) := HBW.out.trans (hbz.mono HBW.out.size)
         clear hbz)
      | (clear tk3; with_reducible refine wpSeq_min12 (.tmp 17) (.tmp 19) nl nm n HNN.out ?_ ?_ ?_ ?_ ?_
         · rfl
         · rfl
         · rfl
         · rfl)
      | (clear tk20; with_reducible refine wpSeq_build 32 [] cz ?_ ?_ ?_ ?_
         · exact (built_evid []).trans (by rw [HCZ.out]; rfl)
         · rfl
         · rfl)
      | (clear tk21; with_reducible refine wpSeq_storeRow 32 (.tmp 6) (.tmp 22) g6 cz cz ?_ ?_ ?_ ?_ ?_ ?_ ?_ ?_ ?_
         · exact H6.out
         · rfl
         · exact HOZ.out.info
         · exact HOZ.out.one
         · rfl
         · rfl
         · rfl
         · rfl
         intro y99 hs9))
    exact bodyPost_ret (results_row_tmp (by rfl) _ _ g6 _ rfl (var_evB hs9.blk HOZ.out)) rfl ⟨cz, by rw [HFI.out]; rfl, by rw [HFE.out, HCZ.out]; exact EvB.zero _, HBW.out.trans (hs9.only.below HG6.out HBW.out.size)⟩
  | some k =>
    obtain ⟨hk1, hk2, hne, hlike⟩ := firstU_some l m k hfu
    have HKL : Hid (k < nl ∧ k < nm) := by rw [HNL.out, HNM.out]; exact ⟨hk1, hk2⟩
    have HCU : Hid (∀ W : World, Below w.heap.size w W → Calls Tryd.prog 43 #[.slice adl nl cl, .slice adm nm cm] W fun r w' => r = .returned (.int .i64 (k : Int)) ∧ Below W.heap.size W w') := fun W hh => by
      have h := hcu W hh
      rw [unlikeN, hfu] at h
      exact h
    have qn : ((k : Int) == (n : Int)) = false := by
      rw [beq_eq_false_iff_ne]
      have h1 := HKL.out
      have h2 := HNN.out
      omega
    have HFU : Hid (firstU l m = some k) := hfu
    clear hcu hfu hk1 hk2 hne hlike
    have HL1 : Hid (k < l.length) := by show _ < _; rw [← HNL.out]; exact HKL.out.1
    have HL2 : Hid (k < m.length) := by show _ < _; rw [← HNM.out]; exact HKL.out.2
    obtain ⟨b1, o1, c1, hv1, hat1⟩ := HRL.out.at (Nat.lt_of_le_of_lt (Nat.zero_le _) HL1.out)
    obtain ⟨b2, o2, c2, hv2, hat2⟩ := HRM.out.at (Nat.lt_of_le_of_lt (Nat.zero_le _) HL2.out)
    simp only [Value.slice.injEq] at hv1 hv2
    obtain ⟨rfl, hn1, rfl⟩ := hv1
    obtain ⟨rfl, hn2, rfl⟩ := hv2
    clear hn1 hn2
    obtain ⟨v1, hs1, hr1⟩ := hat1 k HL1.out
    obtain ⟨v2, hs2, hr2⟩ := hat2 k HL2.out
    obtain ⟨s, HS⟩ : ∃ s, Hid (s = l.getD k zeroS) := ⟨_, rfl⟩
    obtain ⟨t, HT⟩ : ∃ t, Hid (t = m.getD k zeroS) := ⟨_, rfl⟩
    rw [← HS.out] at hs1 hr1
    rw [← HT.out] at hs2 hr2
    have HKC : Hid (k ≤ cl) := HCL.out k (Nat.le_of_lt HL1.out)
    obtain ⟨a1, n1, d1, hw1⟩ := hr1.form
    obtain ⟨a2, n2, d2, hw2⟩ := hr2.form
    subst hw1 hw2
    obtain ⟨ck1, HK1⟩ : ∃ c, Hid (c = sgC s (.slice a1 n1 d1)) := ⟨_, rfl⟩
    obtain ⟨ck2, HK2⟩ : ∃ c, Hid (c = sgC t (.slice a2 n2 d2)) := ⟨_, rfl⟩
    have HR1 : Hid (∀ W : World, Below w.heap.size w W → W.rangeAt b1 (o1 + k * 98) ck1) := fun W hh => by rw [HK1.out]; exact (hs1.below hh (Nat.le_refl _)).all
    have HR2 : Hid (∀ W : World, Below w.heap.size w W → W.rangeAt b2 (o2 + k * 98) ck2) := fun W hh => by rw [HK2.out]; exact (hs2.below hh (Nat.le_refl _)).all
    have HI1 : Hid ((Tryd.prog.info? 30).map (·.size) = some ck1.length) := by show _ = _; rw [HK1.out]; exact info_sgC hs1.ok _
    have HI2 : Hid ((Tryd.prog.info? 30).map (·.size) = some ck2.length) := by show _ = _; rw [HK2.out]; exact info_sgC hs2.ok _
    obtain ⟨e, HE⟩ : ∃ e, Hid (e = (l.take k, s, t)) := ⟨_, rfl⟩
    obtain ⟨ce, HCE⟩ : ∃ c, Hid (c = evC e (.slice (some ⟨b1, o1, none⟩) k cl) (.slice a1 n1 d1) (.slice a2 n2 d2)) := ⟨_, rfl⟩
    have HBE : Hid (∀ ps : List (Nat × Value), ps = [(0, .slice (some ⟨b1, o1, none⟩) k cl), (1, .agg ck1.toArray), (2, .agg ck2.toArray)] → Tryd.prog.built 32 ps = some ce.toArray) := fun ps hps => by subst hps; rw [HCE.out, HK1.out, HK2.out, HE.out]; exact (built_evid _).trans (fill_ev (e := (l.take k, s, t)) hs1.ok hs2.ok)
    have HEB : Hid (∀ W : World, Below w.heap.size w W → EvB W e ce) := fun W hh => by rw [HCE.out, HE.out]; exact EvIs.evB (e := (l.take k, s, t)) ⟨(HRL.out.below hh).take (Nat.le_of_lt HL1.out), hr1.below hh, hr2.below hh, hs1.ok, hs2.ok⟩
    have HOK : Hid (EvOk e ce) := (HEB.out w HBW.out).ok
    have HLE : Hid (e.1.length ≤ 40) := by rw [HE.out]; show (l.take k).length ≤ _; rw [List.length_take]; have := HL40.out; omega
    have HSA : Hid (∀ s ∈ allE e, okS s ∧ s.2.length ≤ 524288) := by
      rw [HE.out]
      intro x hx
      have ms : s ∈ l := by rw [HS.out, List.getD_eq_getElem?_getD, List.getElem?_eq_getElem HL1.out]; exact List.getElem_mem HL1.out
      have mt : t ∈ m := by rw [HT.out, List.getD_eq_getElem?_getD, List.getElem?_eq_getElem HL2.out]; exact List.getElem_mem HL2.out
      rcases List.mem_append.1 hx with hx | hx
      · exact ⟨HRL.out.2 x (List.mem_of_mem_take hx), HZL.out.1 x (List.mem_of_mem_take hx)⟩
      · rcases List.mem_cons.1 hx with rfl | hx
        · exact ⟨hs1.ok, HZL.out.1 _ ms⟩
        · rw [List.mem_singleton.1 hx]; exact ⟨hs2.ok, HZL.out.2 _ mt⟩
    have HFD : Hid (readF (bytesF e) = some e) := read_back (okB_light (by have := HLE.out; omega) HSA.out)
    obtain ⟨ck, HCK0⟩ : ∃ c, Hid (c = checkF pin e) := ⟨_, rfl⟩
    have HFF : Hid (findF pin l m = if ck = 0 then some e else none) := by show _ = _; rw [findF, HFU.out, HCK0.out, HE.out, HS.out, HT.out]
    have HCK : Hid (∀ W : World, Below w.heap.size w W → Calls Tryd.prog 11 #[.agg (cb pin).toArray, .agg ce.toArray] W fun r' w' => r' = .returned (.int .i64 ck) ∧ Below W.heap.size W w') := fun W hh => by rw [HCK0.out]; exact fkCheck_any pin e ce W (HKW.out W hh) HPL.out (HEB.out W hh) (by have := HLE.out; omega)
    have HCB : Hid (∀ W : World, Below w.heap.size w W → Calls Tryd.prog 18 #[.agg ce.toArray] W fun r' w' => ∃ v, r' = .returned v ∧ Reads w' v (bytesF e) ∧ Below W.heap.size W w') := fun W hh => fkBytes_any e ce W (HEB.out W hh) (by have := HLE.out; omega) (fun s hs => by have := (HSA.out s hs).2; omega)
    have HCR : Hid (∀ (W : World) (v : Value), Reads W v (bytesF e) → Calls Tryd.prog 13 #[v] W fun r w' => ∃ cs, r = .returned (.tuple #[.agg (cs : List Value).toArray, .int .i64 0]) ∧ EvF W w' e cs ∧ Below W.heap.size W w') := fun W v hr => by
      have h := fkRead_own v (bytesF e) W hr
      rw [readX, readE, HFD.out] at h
      exact h
    clear hat1 hat2 hs1 hs2 hr1 hr2 HCE HK1 HK2
    by_cases hck : ck = 0
    case pos =>
      have qc : (ck == 0) = true := by rw [beq_iff_eq]; exact hck
      have pc : (ck != 0) = false := by rw [bne, qc]; rfl
      have HFI : Hid ((findF pin l m).isSome = true) := by show _ = _; rw [HFF.out, if_pos hck]; rfl
      have HFE : Hid (findE pin l m = e) := by show _ = _; rw [findE, HFF.out, if_pos hck]; rfl
      clear hck
      go_enter Tryd.func21, Tryd.ntmps21
      have tk0 : Hid True := trivial
      have tk1 : Hid True := trivial
      have tk2 : Hid True := trivial
      have tk3 : Hid True := trivial
      go_upto_region 4 with (first
        | (clear tk0; with_reducible refine wpSeq_boxW 23 (.tmp 0) (cb pin) ?_ ?_ ?_ ?_
           · rfl
           · rfl
           · rfl
           intro g3 y1 nn
           have HG3 : Hid (Blk y1 g3 (cb pin) 23) := nn.blk
           replace HBW : Hid (Below w.heap.size w y1) := nn.below
           clear nn)
        | (clear tk1; with_reducible refine wpSeq_allocE ?_ ?_ ?_
           · rfl
           · rfl
           intro g6 y2 nn
           have HG6 : Hid (w.heap.size ≤ g6) := Nat.le_trans HBW.out.size nn.ge
           have H6 : Hid (Blk y2 g6 cz 32) := by rw [HCZ.out]; exact nn.blk
           replace HG3 : Hid (Blk y2 g3 (cb pin) 23) := HG3.out.below nn.below HG3.out.lt
           replace HBW : Hid (Below w.heap.size w y2) := HBW.out.trans (nn.below.mono HBW.out.size)
           clear nn)
        | (clear tk2; go_at_call 43; refine (HCU.out y2 HBW.out).mono ?_; rintro e0 y3 ⟨rfl, hbz⟩
           replace HG3 : Hid (Blk y3 g3 (cb pin) 23) := HG3.out.below hbz HG3.out.lt
           replace H6 : Hid (Blk y3 g6 cz 32) := H6.out.below hbz H6.out.lt
           replace HBW : Hid (Below w.heap.size w y3) := HBW.out.trans (hbz.mono HBW.out.size)
           clear hbz)
        | (clear tk3; with_reducible refine wpSeq_min12 (.tmp 17) (.tmp 19) nl nm n HNN.out ?_ ?_ ?_ ?_ ?_
           · rfl
           · rfl
           · rfl
           · rfl))
      refine wp_region_held_drew (S := Over (World.drew y3)) (by kernel_rfl) (Over.refl _) ?_
      intro hS
      replace HBW : Hid (Below w.heap.size w (World.drew y3)) := HBW.out.drew
      replace HG3 : Hid (Blk (World.drew y3) g3 (cb pin) 23) := HG3.out.drew
      replace H6 : Hid (Blk (World.drew y3) g6 cz 32) := H6.out.drew
      change wpAnyH _ _ _ _ _ _ _ _ (World.drew y3)
      generalize World.drew y3 = y0 at *
      try simp only [Act.put, List.setIfInBounds_toArray, List.set_cons_zero, List.set_cons_succ]
      refine wpAnyH_take (i := 0) (v := .slice (some ⟨b1, o1, none⟩) nl cl) rfl (by kernel_rfl) (by kernel_rfl) (by kernel_rfl) (fun _ _ _ h => h) (Or.inl ⟨by rfl, fun wx hx => by simp [go_sem]⟩) hS ?_
      simp only [Act.put, List.getElem_toArray, List.getElem_cons_zero, List.setIfInBounds_toArray, List.set_cons_zero, List.set_cons_succ]
      refine wpAnyH_take (i := 1) (v := .int .i64 (k : Int)) rfl (by kernel_rfl) (by kernel_rfl) (by kernel_rfl) (fun _ _ _ h => h) (Or.inl ⟨by rfl, fun wx hx => by simp [go_sem]⟩) hS ?_
      simp only [Act.put, List.getElem_toArray, List.getElem_cons_succ, List.getElem_cons_zero, List.setIfInBounds_toArray, List.set_cons_zero, List.set_cons_succ]
      refine wpAnyH_take (i := 2) (v := .slice (some ⟨b1, o1, none⟩) k cl) rfl (by kernel_rfl) (by kernel_rfl) (by kernel_rfl) (fun _ _ _ h => h) (Or.inl ⟨by rfl, fun wx hx => by exact takeS_op _ _ _ _ rfl (some ⟨b1, o1, none⟩) nl cl k rfl rfl HKC.out wx⟩) hS ?_
      simp only [Act.put, List.getElem_toArray, List.getElem_cons_succ, List.getElem_cons_zero, List.setIfInBounds_toArray, List.set_cons_zero, List.set_cons_succ]
      refine wpAnyH_take (i := 3) (v := .slice (some ⟨b1, o1, none⟩) nl cl) rfl (by kernel_rfl) (by kernel_rfl) (by kernel_rfl) (fun _ _ _ h => h) (Or.inl ⟨by rfl, fun wx hx => by simp [go_sem]⟩) hS ?_
      simp only [Act.put, List.getElem_toArray, List.getElem_cons_succ, List.getElem_cons_zero, List.setIfInBounds_toArray, List.set_cons_zero, List.set_cons_succ]
      refine wpAnyH_take (i := 4) (v := .int .i64 (k : Int)) rfl (by kernel_rfl) (by kernel_rfl) (by kernel_rfl) (fun _ _ _ h => h) (Or.inl ⟨by rfl, fun wx hx => by simp [go_sem]⟩) hS ?_
      simp only [Act.put, List.getElem_toArray, List.getElem_cons_succ, List.getElem_cons_zero, List.setIfInBounds_toArray, List.set_cons_zero, List.set_cons_succ]
      refine wpAnyH_take (i := 5) (v := .pointer (some ⟨b1, o1 + k * 98, none⟩)) rfl (by kernel_rfl) (by kernel_rfl) (by kernel_rfl) (fun _ _ _ h => h) (Or.inl ⟨by rfl, fun wx hx => by exact idx98 b1 o1 cl nl k HKL.out.1 _ _ _ _ rfl rfl rfl _⟩) hS ?_
      simp only [Act.put, List.getElem_toArray, List.getElem_cons_succ, List.getElem_cons_zero, List.setIfInBounds_toArray, List.set_cons_zero, List.set_cons_succ]
      refine wpAnyH_take (i := 6) (v := .agg ck1.toArray) rfl (by kernel_rfl) (by kernel_rfl) (by kernel_rfl) (fun _ _ _ h => h) (Or.inl ⟨by rfl, fun wx hx => by exact load_run 30 _ rfl b1 (o1 + k * 98) rfl ck1 _ (HR1.out _ (HBW.out.trans (Below.mono hx HBW.out.size))) Tryd.underlying30 rfl HI1.out⟩) hS ?_
      simp only [Act.put, List.getElem_toArray, List.getElem_cons_succ, List.getElem_cons_zero, List.setIfInBounds_toArray, List.set_cons_zero, List.set_cons_succ]
      refine wpAnyH_take (i := 7) (v := .slice (some ⟨b2, o2, none⟩) nm cm) rfl (by kernel_rfl) (by kernel_rfl) (by kernel_rfl) (fun _ _ _ h => h) (Or.inl ⟨by rfl, fun wx hx => by simp [go_sem]⟩) hS ?_
      simp only [Act.put, List.getElem_toArray, List.getElem_cons_succ, List.getElem_cons_zero, List.setIfInBounds_toArray, List.set_cons_zero, List.set_cons_succ]
      refine wpAnyH_take (i := 8) (v := .int .i64 (k : Int)) rfl (by kernel_rfl) (by kernel_rfl) (by kernel_rfl) (fun _ _ _ h => h) (Or.inl ⟨by rfl, fun wx hx => by simp [go_sem]⟩) hS ?_
      simp only [Act.put, List.getElem_toArray, List.getElem_cons_succ, List.getElem_cons_zero, List.setIfInBounds_toArray, List.set_cons_zero, List.set_cons_succ]
      refine wpAnyH_take (i := 9) (v := .pointer (some ⟨b2, o2 + k * 98, none⟩)) rfl (by kernel_rfl) (by kernel_rfl) (by kernel_rfl) (fun _ _ _ h => h) (Or.inl ⟨by rfl, fun wx hx => by exact idx98 b2 o2 cm nm k HKL.out.2 _ _ _ _ rfl rfl rfl _⟩) hS ?_
      simp only [Act.put, List.getElem_toArray, List.getElem_cons_succ, List.getElem_cons_zero, List.setIfInBounds_toArray, List.set_cons_zero, List.set_cons_succ]
      refine wpAnyH_take (i := 10) (v := .agg ck2.toArray) rfl (by kernel_rfl) (by kernel_rfl) (by kernel_rfl) (fun _ _ _ h => h) (Or.inl ⟨by rfl, fun wx hx => by exact load_run 30 _ rfl b2 (o2 + k * 98) rfl ck2 _ (HR2.out _ (HBW.out.trans (Below.mono hx HBW.out.size))) Tryd.underlying30 rfl HI2.out⟩) hS ?_
      simp only [Act.put, List.getElem_toArray, List.getElem_cons_succ, List.getElem_cons_zero, List.setIfInBounds_toArray, List.set_cons_zero, List.set_cons_succ]
      refine wpAnyH_take (i := 11) (v := .agg ce.toArray) rfl (by kernel_rfl) (by kernel_rfl) (by kernel_rfl) (fun _ _ _ h => h) (Or.inl ⟨by rfl, fun wx hx => by refine build_op _ _ 32 [(0, .tmp 25), (1, .tmp 29), (2, .tmp 33)] rfl _ ?_ _; exact HBE.out _ rfl⟩) hS ?_
      simp only [Act.put, List.getElem_toArray, List.getElem_cons_succ, List.getElem_cons_zero, List.setIfInBounds_toArray, List.set_cons_zero, List.set_cons_succ]
      have hb := below_alloc y0 (.cells (evC zeroE (.slice none 0 0) (.slice none 0 0) (.slice none 0 0)).toArray 32)
      have hba : Blk (y0.alloc (.cells (evC zeroE (.slice none 0 0) (.slice none 0 0) (.slice none 0 0)).toArray 32)) y0.heap.size (evC zeroE (.slice none 0 0) (.slice none 0 0) (.slice none 0 0)) 32 := Blk.new _ _ _
      have hsz : y0.heap.size ≤ y0.heap.size := Below.size hS
      replace hS := Over.more hS hb
      refine wpAnyH_step 12 (.pointer (some ⟨y0.heap.size, 0, none⟩)) (y0.alloc (.cells (evC zeroE (.slice none 0 0) (.slice none 0 0) (.slice none 0 0)).toArray 32)) (by kernel_rfl) rfl (by rfl) (alloc_ev _ _ rfl _) hS ?_
      simp only [Act.put, List.getElem_toArray, List.getElem_cons_succ, List.getElem_cons_zero, List.setIfInBounds_toArray, List.set_cons_zero, List.set_cons_succ]
      clear hb
      generalize y0.alloc (.cells (evC zeroE (.slice none 0 0) (.slice none 0 0) (.slice none 0 0)).toArray 32) = z1 at *
      obtain ⟨ga, HGA⟩ : ∃ z, Hid (z = y0.heap.size) := ⟨_, rfl⟩
      have hgw : y0.heap.size ≤ ga := by rw [HGA.out]; exact hsz
      rw [← HGA.out] at hba ⊢
      clear HGA hsz
      refine wpAnyH_storeRow 13 32 (.tmp 9) (.tmp 34) ga (evC zeroE (.slice none 0 0) (.slice none 0 0) (.slice none 0 0)) (ce) hba HOK.out.lz HOK.out.info HOK.out.one (by kernel_rfl) rfl (by rfl) rfl rfl rfl ?_
      intro yE hs
      replace hS : Over y0 yE := Below.trans hS (hs.only.below hgw (Below.size hS))
      refine ⟨hS, ?_⟩
      simp only [Act.put, List.getElem_toArray, List.getElem_cons_succ, List.getElem_cons_zero]
      refine wpAnyH_done (by kernel_rfl) ?_ _
      replace HG3 : Hid (Blk yE g3 (cb pin) 23) := HG3.out.below hS HG3.out.lt
      replace H6 : Hid (Blk yE g6 cz 32) := H6.out.below hS H6.out.lt
      replace HBW : Hid (Below w.heap.size w yE) := HBW.out.trans (Below.mono hS HBW.out.size)
      have H9 : Hid (Blk yE ga ce 32) := hs.blk
      clear hs hS hgw
      have tk30 : Hid True := trivial
      have tk40 : Hid True := trivial
      have tk41 : Hid True := trivial
      have tk42 : Hid True := trivial
      have tk43 : Hid True := trivial
      have tk44 : Hid True := trivial
      have tk45 : Hid True := trivial
      have tk46 : Hid True := trivial
      have tk47 : Hid True := trivial
      have tk48 : Hid True := trivial
      go_wp2_with (first
        | (clear tk40; with_reducible refine wpSeq_loadW 23 (.tmp 3) g3 0 (cb pin) _ ?_ Tryd.underlying23 rfl ?_ ?_ ?_ ?_ ?_
           · exact HG3.out.range
           · exact HIP.out
           · rfl
           · rfl
           · rfl)
        | (clear tk41; with_reducible refine wpSeq_loadW 32 (.tmp 9) ga 0 ce _ ?_ Tryd.underlying32 rfl ?_ ?_ ?_ ?_ ?_
           · exact H9.out.range
           · exact HOK.out.info
           · rfl
           · rfl
           · rfl)
        | (clear tk42; go_at_call 11; refine (HCK.out yE HBW.out).mono ?_; rintro e y41 ⟨rfl, hbz⟩
           replace HG3 : Hid (Blk y41 g3 (cb pin) 23) := HG3.out.below hbz HG3.out.lt
           replace H6 : Hid (Blk y41 g6 cz 32) := H6.out.below hbz H6.out.lt
           replace H9 : Hid (Blk y41 ga ce 32) := H9.out.below hbz H9.out.lt
           replace HBW : Hid (Below w.heap.size w y41) := HBW.out.trans (hbz.mono HBW.out.size)
           clear hbz )
        | (clear tk43; with_reducible refine wpSeq_loadW 32 (.tmp 9) ga 0 ce _ ?_ Tryd.underlying32 rfl ?_ ?_ ?_ ?_ ?_
           · exact H9.out.range
           · exact HOK.out.info
           · rfl
           · rfl
           · rfl)
        | (clear tk44; go_at_call 18; refine (HCB.out y41 HBW.out).mono ?_; rintro e y42 ⟨vb, rfl, hrb, hbz⟩
           replace HG3 : Hid (Blk y42 g3 (cb pin) 23) := HG3.out.below hbz HG3.out.lt
           replace H6 : Hid (Blk y42 g6 cz 32) := H6.out.below hbz H6.out.lt
           replace H9 : Hid (Blk y42 ga ce 32) := H9.out.below hbz H9.out.lt
           replace HBW : Hid (Below w.heap.size w y42) := HBW.out.trans (hbz.mono HBW.out.size)
           obtain ⟨ab, nb, db, hvb⟩ := hrb.form
           subst hvb
           have HRB : Hid (Reads y42 (.slice ab nb db) (bytesF e)) := hrb
           clear hbz hrb)
        | (clear tk45; go_at_call 13; refine (HCR.out y42 _ HRB.out).mono ?_; rintro e y43 ⟨cs2, rfl, hef, hbz⟩
           have HLT6 : Hid (g6 < y42.heap.size) := H6.out.lt
           replace HG3 : Hid (Blk y43 g3 (cb pin) 23) := HG3.out.below hbz HG3.out.lt
           replace H6 : Hid (Blk y43 g6 cz 32) := H6.out.below hbz H6.out.lt
           replace H9 : Hid (Blk y43 ga ce 32) := H9.out.below hbz H9.out.lt
           replace HBW : Hid (Below w.heap.size w y43) := HBW.out.trans (hbz.mono HBW.out.size)
           have HB8 : Hid (Below y42.heap.size y42 y43) := hbz
           have HEF : Hid (EvF y42 y43 e cs2) := hef
           have HOE2 : Hid (EvOk e cs2) := hef.evB.ok
           have HG68 : Hid (g6 < y42.heap.size) := HLT6.out
           clear hbz hef HLT6)
        | (clear tk46; with_reducible refine wpSeq_allocE ?_ ?_ ?_
           · rfl
           · rfl
           intro g10 y44 nn)
        | (clear tk47; with_reducible refine wpSeq_storeRow 32 (.tmp 10) (.tmp 44) g10 (evC zeroE (.slice none 0 0) (.slice none 0 0) (.slice none 0 0)) cs2 ?_ ?_ ?_ ?_ ?_ ?_ ?_ ?_ ?_
           · exact nn.blk
           · exact HOE2.out.lz
           · exact HOE2.out.info
           · exact HOE2.out.one
           · rfl
           · rfl
           · rfl
           · rfl
           intro y45 hs
           have hbz := nn.below.trans (hs.only.below nn.ge nn.below.size)
           have HBK : Hid (Below y43.heap.size y43 y45) := hbz
           replace HG3 : Hid (Blk y45 g3 (cb pin) 23) := HG3.out.below hbz HG3.out.lt
           replace H6 : Hid (Blk y45 g6 cz 32) := H6.out.below hbz H6.out.lt
           replace H9 : Hid (Blk y45 ga ce 32) := H9.out.below hbz H9.out.lt
           replace HBW : Hid (Below w.heap.size w y45) := HBW.out.trans (hbz.mono HBW.out.size)
           have H10 : Hid (Blk y45 g10 cs2 32) := hs.blk
           clear nn hs hbz)
        | (clear tk48; with_reducible refine wpSeq_loadW 32 (.tmp 10) g10 0 cs2 _ ?_ Tryd.underlying32 rfl ?_ ?_ ?_ ?_ ?_
           · exact H10.out.range
           · exact HOE2.out.info
           · rfl
           · rfl
           · rfl)
        | (clear tk30; with_reducible refine wpSeq_storeRow 32 (.tmp 6) (.tmp 46) g6 cz cs2 ?_ ?_ ?_ ?_ ?_ ?_ ?_ ?_ ?_
           · exact H6.out
           · rw [HCZ.out]; exact HOE2.out.lz
           · exact HOE2.out.info
           · exact HOE2.out.one
           · rfl
           · rfl
           · rfl
           · rfl
           intro y99 hs9))
      exact bodyPost_ret (results_row_tmp (by rfl) _ _ g6 _ rfl (var_evB hs9.blk HOE2.out)) rfl ⟨cs2, by rw [HFI.out]; rfl, by
        rw [HFE.out]
        refine HEF.out y99 fun j h1 h2 => ?_
        have h3 := HG68.out
        rw [hs9.only.block j (by omega) (Nat.lt_of_lt_of_le h2 HBK.out.size), HBK.out.block j h2], HBW.out.trans (hs9.only.below HG6.out HBW.out.size)⟩
    case neg =>
      have qc : (ck == 0) = false := by rw [beq_eq_false_iff_ne]; exact hck
      have pc : (ck != 0) = true := by rw [bne, qc]; rfl
      have HF0 : Hid (findF pin l m = none) := by show _ = _; rw [HFF.out, if_neg hck]
      have HFI : Hid ((findF pin l m).isSome = false) := by show _ = _; rw [HF0.out]; rfl
      have HFE : Hid (findE pin l m = zeroE) := by show _ = _; rw [findE, HF0.out]; rfl
      clear hck
      go_enter Tryd.func21, Tryd.ntmps21
      have tk0 : Hid True := trivial
      have tk1 : Hid True := trivial
      have tk2 : Hid True := trivial
      have tk3 : Hid True := trivial
      go_upto_region 4 with (first
        | (clear tk0; with_reducible refine wpSeq_boxW 23 (.tmp 0) (cb pin) ?_ ?_ ?_ ?_
           · rfl
           · rfl
           · rfl
           intro g3 y1 nn
           have HG3 : Hid (Blk y1 g3 (cb pin) 23) := nn.blk
           replace HBW : Hid (Below w.heap.size w y1) := nn.below
           clear nn)
        | (clear tk1; with_reducible refine wpSeq_allocE ?_ ?_ ?_
           · rfl
           · rfl
           intro g6 y2 nn
           have HG6 : Hid (w.heap.size ≤ g6) := Nat.le_trans HBW.out.size nn.ge
           have H6 : Hid (Blk y2 g6 cz 32) := by rw [HCZ.out]; exact nn.blk
           replace HG3 : Hid (Blk y2 g3 (cb pin) 23) := HG3.out.below nn.below HG3.out.lt
           replace HBW : Hid (Below w.heap.size w y2) := HBW.out.trans (nn.below.mono HBW.out.size)
           clear nn)
        | (clear tk2; go_at_call 43; refine (HCU.out y2 HBW.out).mono ?_; rintro e0 y3 ⟨rfl, hbz⟩
           replace HG3 : Hid (Blk y3 g3 (cb pin) 23) := HG3.out.below hbz HG3.out.lt
           replace H6 : Hid (Blk y3 g6 cz 32) := H6.out.below hbz H6.out.lt
           replace HBW : Hid (Below w.heap.size w y3) := HBW.out.trans (hbz.mono HBW.out.size)
           clear hbz)
        | (clear tk3; with_reducible refine wpSeq_min12 (.tmp 17) (.tmp 19) nl nm n HNN.out ?_ ?_ ?_ ?_ ?_
           · rfl
           · rfl
           · rfl
           · rfl))
      refine wp_region_held_drew (S := Over (World.drew y3)) (by kernel_rfl) (Over.refl _) ?_
      intro hS
      replace HBW : Hid (Below w.heap.size w (World.drew y3)) := HBW.out.drew
      replace HG3 : Hid (Blk (World.drew y3) g3 (cb pin) 23) := HG3.out.drew
      replace H6 : Hid (Blk (World.drew y3) g6 cz 32) := H6.out.drew
      change wpAnyH _ _ _ _ _ _ _ _ (World.drew y3)
      generalize World.drew y3 = y0 at *
      try simp only [Act.put, List.setIfInBounds_toArray, List.set_cons_zero, List.set_cons_succ]
      refine wpAnyH_take (i := 0) (v := .slice (some ⟨b1, o1, none⟩) nl cl) rfl (by kernel_rfl) (by kernel_rfl) (by kernel_rfl) (fun _ _ _ h => h) (Or.inl ⟨by rfl, fun wx hx => by simp [go_sem]⟩) hS ?_
      simp only [Act.put, List.getElem_toArray, List.getElem_cons_zero, List.setIfInBounds_toArray, List.set_cons_zero, List.set_cons_succ]
      refine wpAnyH_take (i := 1) (v := .int .i64 (k : Int)) rfl (by kernel_rfl) (by kernel_rfl) (by kernel_rfl) (fun _ _ _ h => h) (Or.inl ⟨by rfl, fun wx hx => by simp [go_sem]⟩) hS ?_
      simp only [Act.put, List.getElem_toArray, List.getElem_cons_succ, List.getElem_cons_zero, List.setIfInBounds_toArray, List.set_cons_zero, List.set_cons_succ]
      refine wpAnyH_take (i := 2) (v := .slice (some ⟨b1, o1, none⟩) k cl) rfl (by kernel_rfl) (by kernel_rfl) (by kernel_rfl) (fun _ _ _ h => h) (Or.inl ⟨by rfl, fun wx hx => by exact takeS_op _ _ _ _ rfl (some ⟨b1, o1, none⟩) nl cl k rfl rfl HKC.out wx⟩) hS ?_
      simp only [Act.put, List.getElem_toArray, List.getElem_cons_succ, List.getElem_cons_zero, List.setIfInBounds_toArray, List.set_cons_zero, List.set_cons_succ]
      refine wpAnyH_take (i := 3) (v := .slice (some ⟨b1, o1, none⟩) nl cl) rfl (by kernel_rfl) (by kernel_rfl) (by kernel_rfl) (fun _ _ _ h => h) (Or.inl ⟨by rfl, fun wx hx => by simp [go_sem]⟩) hS ?_
      simp only [Act.put, List.getElem_toArray, List.getElem_cons_succ, List.getElem_cons_zero, List.setIfInBounds_toArray, List.set_cons_zero, List.set_cons_succ]
      refine wpAnyH_take (i := 4) (v := .int .i64 (k : Int)) rfl (by kernel_rfl) (by kernel_rfl) (by kernel_rfl) (fun _ _ _ h => h) (Or.inl ⟨by rfl, fun wx hx => by simp [go_sem]⟩) hS ?_
      simp only [Act.put, List.getElem_toArray, List.getElem_cons_succ, List.getElem_cons_zero, List.setIfInBounds_toArray, List.set_cons_zero, List.set_cons_succ]
      refine wpAnyH_take (i := 5) (v := .pointer (some ⟨b1, o1 + k * 98, none⟩)) rfl (by kernel_rfl) (by kernel_rfl) (by kernel_rfl) (fun _ _ _ h => h) (Or.inl ⟨by rfl, fun wx hx => by exact idx98 b1 o1 cl nl k HKL.out.1 _ _ _ _ rfl rfl rfl _⟩) hS ?_
      simp only [Act.put, List.getElem_toArray, List.getElem_cons_succ, List.getElem_cons_zero, List.setIfInBounds_toArray, List.set_cons_zero, List.set_cons_succ]
      refine wpAnyH_take (i := 6) (v := .agg ck1.toArray) rfl (by kernel_rfl) (by kernel_rfl) (by kernel_rfl) (fun _ _ _ h => h) (Or.inl ⟨by rfl, fun wx hx => by exact load_run 30 _ rfl b1 (o1 + k * 98) rfl ck1 _ (HR1.out _ (HBW.out.trans (Below.mono hx HBW.out.size))) Tryd.underlying30 rfl HI1.out⟩) hS ?_
      simp only [Act.put, List.getElem_toArray, List.getElem_cons_succ, List.getElem_cons_zero, List.setIfInBounds_toArray, List.set_cons_zero, List.set_cons_succ]
      refine wpAnyH_take (i := 7) (v := .slice (some ⟨b2, o2, none⟩) nm cm) rfl (by kernel_rfl) (by kernel_rfl) (by kernel_rfl) (fun _ _ _ h => h) (Or.inl ⟨by rfl, fun wx hx => by simp [go_sem]⟩) hS ?_
      simp only [Act.put, List.getElem_toArray, List.getElem_cons_succ, List.getElem_cons_zero, List.setIfInBounds_toArray, List.set_cons_zero, List.set_cons_succ]
      refine wpAnyH_take (i := 8) (v := .int .i64 (k : Int)) rfl (by kernel_rfl) (by kernel_rfl) (by kernel_rfl) (fun _ _ _ h => h) (Or.inl ⟨by rfl, fun wx hx => by simp [go_sem]⟩) hS ?_
      simp only [Act.put, List.getElem_toArray, List.getElem_cons_succ, List.getElem_cons_zero, List.setIfInBounds_toArray, List.set_cons_zero, List.set_cons_succ]
      refine wpAnyH_take (i := 9) (v := .pointer (some ⟨b2, o2 + k * 98, none⟩)) rfl (by kernel_rfl) (by kernel_rfl) (by kernel_rfl) (fun _ _ _ h => h) (Or.inl ⟨by rfl, fun wx hx => by exact idx98 b2 o2 cm nm k HKL.out.2 _ _ _ _ rfl rfl rfl _⟩) hS ?_
      simp only [Act.put, List.getElem_toArray, List.getElem_cons_succ, List.getElem_cons_zero, List.setIfInBounds_toArray, List.set_cons_zero, List.set_cons_succ]
      refine wpAnyH_take (i := 10) (v := .agg ck2.toArray) rfl (by kernel_rfl) (by kernel_rfl) (by kernel_rfl) (fun _ _ _ h => h) (Or.inl ⟨by rfl, fun wx hx => by exact load_run 30 _ rfl b2 (o2 + k * 98) rfl ck2 _ (HR2.out _ (HBW.out.trans (Below.mono hx HBW.out.size))) Tryd.underlying30 rfl HI2.out⟩) hS ?_
      simp only [Act.put, List.getElem_toArray, List.getElem_cons_succ, List.getElem_cons_zero, List.setIfInBounds_toArray, List.set_cons_zero, List.set_cons_succ]
      refine wpAnyH_take (i := 11) (v := .agg ce.toArray) rfl (by kernel_rfl) (by kernel_rfl) (by kernel_rfl) (fun _ _ _ h => h) (Or.inl ⟨by rfl, fun wx hx => by refine build_op _ _ 32 [(0, .tmp 25), (1, .tmp 29), (2, .tmp 33)] rfl _ ?_ _; exact HBE.out _ rfl⟩) hS ?_
      simp only [Act.put, List.getElem_toArray, List.getElem_cons_succ, List.getElem_cons_zero, List.setIfInBounds_toArray, List.set_cons_zero, List.set_cons_succ]
      have hb := below_alloc y0 (.cells (evC zeroE (.slice none 0 0) (.slice none 0 0) (.slice none 0 0)).toArray 32)
      have hba : Blk (y0.alloc (.cells (evC zeroE (.slice none 0 0) (.slice none 0 0) (.slice none 0 0)).toArray 32)) y0.heap.size (evC zeroE (.slice none 0 0) (.slice none 0 0) (.slice none 0 0)) 32 := Blk.new _ _ _
      have hsz : y0.heap.size ≤ y0.heap.size := Below.size hS
      replace hS := Over.more hS hb
      refine wpAnyH_step 12 (.pointer (some ⟨y0.heap.size, 0, none⟩)) (y0.alloc (.cells (evC zeroE (.slice none 0 0) (.slice none 0 0) (.slice none 0 0)).toArray 32)) (by kernel_rfl) rfl (by rfl) (alloc_ev _ _ rfl _) hS ?_
      simp only [Act.put, List.getElem_toArray, List.getElem_cons_succ, List.getElem_cons_zero, List.setIfInBounds_toArray, List.set_cons_zero, List.set_cons_succ]
      clear hb
      generalize y0.alloc (.cells (evC zeroE (.slice none 0 0) (.slice none 0 0) (.slice none 0 0)).toArray 32) = z1 at *
      obtain ⟨ga, HGA⟩ : ∃ z, Hid (z = y0.heap.size) := ⟨_, rfl⟩
      have hgw : y0.heap.size ≤ ga := by rw [HGA.out]; exact hsz
      rw [← HGA.out] at hba ⊢
      clear HGA hsz
      refine wpAnyH_storeRow 13 32 (.tmp 9) (.tmp 34) ga (evC zeroE (.slice none 0 0) (.slice none 0 0) (.slice none 0 0)) (ce) hba HOK.out.lz HOK.out.info HOK.out.one (by kernel_rfl) rfl (by rfl) rfl rfl rfl ?_
      intro yE hs
      replace hS : Over y0 yE := Below.trans hS (hs.only.below hgw (Below.size hS))
      refine ⟨hS, ?_⟩
      simp only [Act.put, List.getElem_toArray, List.getElem_cons_succ, List.getElem_cons_zero]
      refine wpAnyH_done (by kernel_rfl) ?_ _
      replace HG3 : Hid (Blk yE g3 (cb pin) 23) := HG3.out.below hS HG3.out.lt
      replace H6 : Hid (Blk yE g6 cz 32) := H6.out.below hS H6.out.lt
      replace HBW : Hid (Below w.heap.size w yE) := HBW.out.trans (Below.mono hS HBW.out.size)
      have H9 : Hid (Blk yE ga ce 32) := hs.blk
      clear hs hS hgw
      have tk20 : Hid True := trivial
      have tk21 : Hid True := trivial
      have tk40 : Hid True := trivial
      have tk41 : Hid True := trivial
      have tk42 : Hid True := trivial
      go_wp2_with (first
        | (clear tk40; with_reducible refine wpSeq_loadW 23 (.tmp 3) g3 0 (cb pin) _ ?_ Tryd.underlying23 rfl ?_ ?_ ?_ ?_ ?_
           · exact HG3.out.range
           · exact HIP.out
           · rfl
           · rfl
           · rfl)
        | (clear tk41; with_reducible refine wpSeq_loadW 32 (.tmp 9) ga 0 ce _ ?_ Tryd.underlying32 rfl ?_ ?_ ?_ ?_ ?_
           · exact H9.out.range
           · exact HOK.out.info
           · rfl
           · rfl
           · rfl)
        | (clear tk42; go_at_call 11; refine (HCK.out yE HBW.out).mono ?_; rintro e y41 ⟨rfl, hbz⟩
           replace HG3 : Hid (Blk y41 g3 (cb pin) 23) := HG3.out.below hbz HG3.out.lt
           replace H6 : Hid (Blk y41 g6 cz 32) := H6.out.below hbz H6.out.lt
           replace H9 : Hid (Blk y41 ga ce 32) := H9.out.below hbz H9.out.lt
           replace HBW : Hid (Below w.heap.size w y41) := HBW.out.trans (hbz.mono HBW.out.size)
           clear hbz )
        | (clear tk20; with_reducible refine wpSeq_build 32 [] cz ?_ ?_ ?_ ?_
           · exact (built_evid []).trans (by rw [HCZ.out]; rfl)
           · rfl
           · rfl)
        | (clear tk21; with_reducible refine wpSeq_storeRow 32 (.tmp 6) (.tmp 39) g6 cz cz ?_ ?_ ?_ ?_ ?_ ?_ ?_ ?_ ?_
           · exact H6.out
           · rfl
           · exact HOZ.out.info
           · exact HOZ.out.one
           · rfl
           · rfl
           · rfl
           · rfl
           intro y99 hs9))
      exact bodyPost_ret (results_row_tmp (by rfl) _ _ g6 _ rfl (var_evB hs9.blk HOZ.out)) rfl ⟨cz, by rw [HFI.out]; rfl, by rw [HFE.out, HCZ.out]; exact EvB.zero _, HBW.out.trans (hs9.only.below HG6.out HBW.out.size)⟩
/-- what fork's functions do -/
theorem fkOps : FkOps where
  check := fun W pin e cs hK hp hE hn => fkCheck_any pin e cs W hK hp hE hn
  bytes := fun W e cs _ hE h64 hsz => fkBytes_any e cs W hE h64 hsz
  read := fun W v b _ hb _ => fkRead_any v b W hb
  accept := fun W pin v b hK hp hb _ => fkAccept_any pin v b W hK hp hb
  find := fun W pin v u l m hK hp hl hm h1 h2 h3 h4 => fkFind_any pin v u l m W hK hp hl hm h1 h2 h3 h4
end Go.Proofs.YtableajopaappaaDoor
/- What the listed variable gives: the rounds' words lie where the walks look for them. -/
namespace Go.Proofs.YtableajopaappaaDoor
open Go.ChangeShapes Go.WideShapes Go.ChangeAt Go.WideMaps Go.WideElems Go.RowKit
set_option maxRecDepth 100000
theorem own : ownKnob Tryd.prog.godebug = none := by kernel_rfl
theorem gKw : Tryd.prog.globalNamed "blazon/sha.roundWords" = some 0 := by kernel_rfl
theorem tKw : (Tryd.prog.globals[0]?).map (·.type) = some 134 := by kernel_rfl
def laidK : List (String × DataW Unit) := [("blazon/sha.roundWords", Rows.laid_blazon_sha_roundWords)]
def kzs : List Int := kw.map fun x => (x.toNat : Int)
theorem laid_tab : (Rows.laid_blazon_sha_roundWords : DataW Unit) = Lib.tabData .u32 kzs := by kernel_rfl
theorem door_met (os : Os) (args : Array Value) : laidMetH Tryd.prog laidK ((World.doorLaid Tryd.prog 400 os).forCall (fun _ _ => 0) ⟨#[], args, []⟩).memory :=
  laidMetH_of_parts3 (fuel := 8) (laidMet_of_run' 8 (by kernel_rfl) (by kernel_rfl)) (by kernel_rfl) (by kernel_rfl)
theorem getD_toNat (l : List (BitVec 32)) (j : Nat) : (l.map fun x => (x.toNat : Int)).getD j 0 = ((l.getD j 0).toNat : Int) := by
  rw [List.getD_eq_getElem?_getD, List.getD_eq_getElem?_getD, List.getElem?_map]
  cases l[j]? <;> rfl
theorem kok_of_laid {W : World} (h : laidMetH Tryd.prog laidK W) : KOk W := by
  rw [MakeChecks.laidMetH_plain _ _ _ (by kernel_rfl)] at h
  unfold laidK at h
  rw [laid_tab] at h
  have hT := Lib.tabIs_of_head gKw tKw Tryd.underlying134 Tryd.underlying114 (by kernel_rfl) (by kernel_rfl) h
  intro j hj
  rw [hT.cell gKw j (by simpa [kzs, kw] using hj), kzs, getD_toNat]
end Go.Proofs.YtableajopaappaaDoor
/- What a slice of bytes that came in gives: the bytes that it reads as; and that it reads so still behind a call that changed no old block. -/
namespace Go.Proofs.YtableajopaappaaDoor
open Go.ChangeShapes Go.WideShapes Go.ChangeAt Go.WideMaps Go.WideElems Go.RowKit
set_option maxRecDepth 100000
theorem cells_byte : Tryd.prog.cellsOf 5 = 1 := by kernel_rfl
theorem laid_out : laidOutB Tryd.prog = true := by kernel_rfl
theorem byte_range {zs : List Int} (h : ∀ n ∈ zs, (Lit.int .u8 n).wf = true) (j : Nat) : 0 ≤ zs.getD j 0 ∧ zs.getD j 0 < 256 := by
  rw [List.getD_eq_getElem?_getD]
  cases hj : zs[j]? with
  | none => simp
  | some n =>
    have := h n (List.mem_of_getElem? hj)
    have := bounds_u8 this
    simp
    omega
end Go.Proofs.YtableajopaappaaDoor
/- What a digest that came in gives: its 32 bytes. -/
namespace Go.Proofs.YtableajopaappaaDoor
open Go.ChangeShapes Go.WideShapes Go.ChangeAt Go.WideMaps Go.WideElems Go.RowKit
set_option maxRecDepth 100000
theorem cells_digest : Tryd.prog.cellsOf 23 = 32 := by kernel_rfl
def numOf8 : Value → BitVec 8
  | .int _ n => BitVec.ofInt 8 n
  | _ => 0
end Go.Proofs.YtableajopaappaaDoor
/- What a slice of digests that came in gives; five arguments that came in, opened and shut (for the statements of layer 7). -/
namespace Go.Proofs.YtableajopaappaaDoor
open Go.ChangeShapes Go.WideShapes Go.ChangeAt Go.WideMaps Go.WideElems Go.RowKit
set_option maxRecDepth 100000
theorem digest_of_cells {H : Type} {enc : TypeId × Value → H} {W : World} {cs : List Value} {d : DataW H} {p : List MemPlace} {fuel : Nat} (hf : DataW.trod enc Tryd.prog W 0 (fun _ => true) true fuel 23 cs = some (d, p)) :
    ∃ dg, cs = cb dg ∧ dg.length = 32 ∧ ∀ x ∈ p, x.block < W.heap.size := by
  obtain ⟨xs, m, _, hx, hl, hn, hi⟩ := DataW.trod_array Tryd.underlying23 hf
  rw [cells_digest] at hl
  rw [cells_byte] at hi
  have each : ∀ i, i < 32 → ∃ n, cs[i]? = some (.int .u8 n) ∧ xs[i]? = some (.lit (.int .u8 n), []) ∧ (Lit.int .u8 n).wf = true := by
    intro i h32
    have h1 := hi i h32
    rw [List.getElem?_eq_getElem (by omega)] at h1
    obtain ⟨n, hc, hxx, hw⟩ := DataW.trod_int Tryd.underlying5 h1
    refine ⟨n, ?_, by rw [List.getElem?_eq_getElem (by omega), hxx], hw⟩
    rw [Nat.mul_one] at hc
    have h2 := congrArg (fun l => l[0]?) hc
    simpa using h2
  have hlen : (cs.map numOf8).length = 32 := by simpa using hl
  refine ⟨cs.map numOf8, ?_, hlen, ?_⟩
  · apply List.ext_getElem?
    intro i
    by_cases h32 : i < 32
    · obtain ⟨n, h1, _, hw⟩ := each i h32
      have hb := bounds_u8 hw
      rw [h1, cb_get _ _ (by omega), List.getD_eq_getElem?_getD, List.getElem?_map, h1]
      simp only [Option.map_some, Option.getD_some, numOf8, BitVec.toNat_ofInt]
      congr 2
      omega
    · rw [List.getElem?_eq_none (by omega), List.getElem?_eq_none (by rw [cb_len]; omega)]
  · simp only [Prod.mk.injEq] at hx
    rw [hx.2]
    intro x hmem
    obtain ⟨y, hy, hxy⟩ := List.mem_flatMap.1 hmem
    obtain ⟨i, hlt, rfl⟩ := List.getElem_of_mem hy
    obtain ⟨n, _, h2, _⟩ := each i (by omega)
    rw [List.getElem?_eq_getElem hlt] at h2
    rw [Option.some.inj h2] at hxy
    cases hxy
end Go.Proofs.YtableajopaappaaDoor
/- What a head, a signed root and a slice of signed roots that came in give: their parts (layer 11). -/
namespace Go.Proofs.YtableajopaappaaDoor
open Go.ChangeShapes Go.WideShapes Go.ChangeAt Go.WideMaps Go.WideElems Go.RowKit
set_option maxRecDepth 100000
set_option maxRecDepth 100000 in
theorem cells_signed : Tryd.prog.cellsOf 30 = 98 := by kernel_rfl
set_option maxRecDepth 100000 in
theorem cells_root : Tryd.prog.cellsOf 27 = 97 := by kernel_rfl
set_option maxRecDepth 100000 in
theorem cells_u64c : Tryd.prog.cellsOf 25 = 1 := by kernel_rfl
set_option maxRecDepth 100000 in
theorem cells_bytesc : Tryd.prog.cellsOf 28 = 1 := by kernel_rfl
theorem take_one11 {l : List Value} {k n : Nat} (hl : l.length = n) (hk : k < n) : ∃ c, (l.drop k).take 1 = [c] := by
  have h : (l.drop k).length = n - k := by rw [List.length_drop, hl]
  match hq : l.drop k, h with
  | [], h => simp at h; omega
  | c :: r, _ => exact ⟨c, rfl⟩
end Go.Proofs.YtableajopaappaaDoor
/- Evidence and slices of signed roots that came in, with their sizes (layer 12). -/
namespace Go.Proofs.YtableajopaappaaDoor
open Go.ChangeShapes Go.WideShapes Go.ChangeAt Go.WideMaps Go.WideElems Go.RowKit
set_option maxRecDepth 100000
theorem bytes_byte : Tryd.prog.bytesOf 5 = 1 := by kernel_rfl
theorem weightsAll_mem {H : Type} {P : Program} {e : TypeId} {q : Nat → Bool} : ∀ (l : List (DataW H)), (DataW.weightsAll P e l).all q = true → ∀ d ∈ l, (d.weights P e).all q = true
  | [], _, _, h => by cases h
  | x :: r, hl, d, h => by
    rw [DataW.weightsAll, List.all_append, Bool.and_eq_true] at hl
    rcases List.mem_cons.1 h with rfl | h
    · exact hl.1
    · exact weightsAll_mem r hl.2 d h
theorem reads_sized {H : Type} {enc : TypeId × Value → H} {W : World} {v : Value} {d : DataW H} {p : List MemPlace} {fuel : Nat} (hf : DataW.trod enc Tryd.prog W 0 (fun _ => true) true fuel 28 [v] = some (d, p)) :
    ∃ bs, Reads W v bs ∧ (∀ N, (d.weights Tryd.prog 28).all (· ≤ N) = true → bs.length ≤ N) ∧ ∀ x ∈ p, x.block < W.heap.size := by
  rcases open_ints Tryd.underlying28 Tryd.underlying5 cells_byte hf with ⟨hcs, hx⟩ | ⟨a, len, cap, zs, hcs, _, hl, hm, hz, hx, hcell, hwz⟩
  · simp only [List.cons.injEq, and_true] at hcs
    subst hcs
    simp only [Prod.mk.injEq] at hx
    obtain ⟨rfl, rfl⟩ := hx
    exact ⟨[], ⟨none, 0, rfl, Nat.le_refl _, fun _ => rfl, fun h => by cases h⟩, fun _ _ => Nat.zero_le _, fun _ h => by cases h⟩
  · simp only [List.cons.injEq, and_true] at hcs
    subst hcs
    simp only [Prod.mk.injEq] at hx
    obtain ⟨rfl, rfl⟩ := hx
    simp only [if_true] at hz
    have hlen : ((zs.take len).map fun n => BitVec.ofInt 8 n).length = len := by simp; omega
    obtain ⟨ab, ao, spot⟩ := a
    refine ⟨(zs.take len).map fun n => BitVec.ofInt 8 n, ⟨some ⟨ab, ao, spot⟩, cap, by rw [hlen], by rw [hlen]; exact hl, (fun h => by cases h), fun hp => ?_⟩, ?_, fun x hx => ?_⟩
    · rw [hlen] at hp ⊢
      have hspot : spot = none := by simpa [Addr.add] using World.cell?_spot (hcell 0 (by omega))
      subst hspot
      refine ⟨ab, ao, rfl, fun j hj => ?_⟩
      have hcj := hcell j (by omega)
      rw [Addr.add_lit] at hcj
      rw [hcj]
      have hb := byte_range hwz j
      have e : ((zs.take len).map fun n => BitVec.ofInt 8 n).getD j 0 = BitVec.ofInt 8 (zs.getD j 0) := by
        rw [List.getD_eq_getElem?_getD, List.getElem?_map, List.getElem?_take_of_lt hj, List.getD_eq_getElem?_getD, List.getElem?_eq_getElem (show j < zs.length by omega)]
        rfl
      rw [e, BitVec.toNat_ofInt]
      congr 2
      omega
    · intro N hN
      rw [hlen]
      rw [DataW.weights] at hN
      simp only [Tryd.underlying28, bytes_byte, Nat.mul_one, List.all_cons, Bool.and_eq_true, decide_eq_true_eq] at hN
      have h3 : (lits (H := H) .u8 (zs.take len)).length = len := by simp [lits]; omega
      have := hN.1
      omega
    · simp only [MemPlace.row, List.mem_map, List.mem_range] at hx
      obtain ⟨i, hi, rfl⟩ := hx
      have hcj := hcell i (by omega)
      have := block_lt_of_cell hcj
      simp only [Addr.add] at this
      split at this <;> exact this
set_option maxRecDepth 100000 in
theorem signed_sized {H : Type} {enc : TypeId × Value → H} {W : World} {l : List Value} {d : DataW H} {p : List MemPlace} {fuel : Nat} (hf : DataW.trod enc Tryd.prog W 0 (fun _ => true) true fuel 30 l = some (d, p)) :
    ∃ (s : SgT) (c : Value), l = sgC s c ∧ okS s ∧ Reads W c s.2 ∧ (∀ N, (d.weights Tryd.prog 30).all (· ≤ N) = true → s.2.length ≤ N) ∧ ∀ q ∈ p, q.block < W.heap.size := by
  have hp := DataW.trod_lt _ _ _ _ hf
  obtain ⟨y0, y1, n, hx, hl, h0, h1⟩ := Go.ChangeShapes.trod_struct2 Tryd.underlying30 hf
  rw [cells_signed] at hl
  rw [cells_root] at h0
  rw [cells_bytesc] at h1
  simp only at hl h0 h1
  obtain ⟨c, e1⟩ := take_one11 (k := 97) hl (by omega)
  rw [e1] at h1
  obtain ⟨dd, pp⟩ := y1
  obtain ⟨sg, hr, hsz, _⟩ := reads_sized (v := c) h1
  obtain ⟨r0, r1, r2, r3, n', hx', hl', k0, k1, k2, k3⟩ := Go.Joins.trod_struct4 Tryd.underlying27 h0
  rw [cells_u64c] at k0
  rw [cells_digest] at k1 k2 k3
  obtain ⟨m, e0, _, hw⟩ := DataW.trod_int Tryd.underlying25 k0
  obtain ⟨a1, b1⟩ := r1
  obtain ⟨a2, b2⟩ := r2
  obtain ⟨a3, b3⟩ := r3
  obtain ⟨x, f1, lx, _⟩ := digest_of_cells k1
  obtain ⟨y, f2, ly, _⟩ := digest_of_cells k2
  obtain ⟨z, f3, lz, _⟩ := digest_of_cells k3
  have hb := bounds_u64 hw
  obtain ⟨r, hr0⟩ : ∃ r, r = (l.drop 0).take 97 := ⟨_, rfl⟩
  rw [← hr0] at e0 f1 f2 f3 hl'
  rw [cells_root] at hl'
  have d1 : r = r.take 1 ++ r.drop 1 := (List.take_append_drop 1 r).symm
  have d2 : r.drop 1 = (r.drop 1).take 32 ++ r.drop 33 := by
    have := (List.take_append_drop 32 (r.drop 1)).symm
    rwa [List.drop_drop] at this
  have d3 : r.drop 33 = (r.drop 33).take 32 ++ r.drop 65 := by
    have := (List.take_append_drop 32 (r.drop 33)).symm
    rwa [List.drop_drop] at this
  have d4 : r.drop 65 = (r.drop 65).take 32 := by
    rw [List.take_of_length_le (by rw [List.length_drop]; omega)]
  rw [List.drop_zero] at e0
  have hrr : r = .int .u64 m :: (cb x ++ (cb y ++ cb z)) := by
    rw [d1, d2, d3, d4, e0, f1, f2, f3]; rfl
  have dl : l = l.take 97 ++ l.drop 97 := (List.take_append_drop 97 l).symm
  have d97 : l.drop 97 = (l.drop 97).take 1 := by rw [List.take_of_length_le (by rw [List.length_drop]; omega)]
  rw [List.drop_zero] at hr0
  refine ⟨((m.toNat, x, y, z), sg), c, ?_, okS_mk lx ly lz (by omega), hr, fun N hN => ?_, hp⟩
  rotate_left
  · simp only [Prod.mk.injEq] at hx
    rw [hx.1, DataW.weights] at hN
    simp only [Tryd.underlying30, List.map_cons, List.map_nil, DataW.weightsEach, List.all_append, Bool.and_eq_true] at hN
    exact hsz N hN.2.1
  rw [dl, ← hr0, d97, e1, hrr]
  unfold sgC
  rw [Int.toNat_of_nonneg (by omega)]
  simp
set_option maxRecDepth 100000 in
theorem readsS_sized {H : Type} {enc : TypeId × Value → H} {W : World} {v : Value} {d : DataW H} {p : List MemPlace} {fuel : Nat} (hf : DataW.trod enc Tryd.prog W 0 (fun _ => true) true fuel 24 [v] = some (d, p)) :
    ∃ l, ReadsS W v l ∧ (∀ N, (d.weights Tryd.prog 24).all (· ≤ N) = true → ∀ s ∈ l, s.2.length ≤ N) ∧ ∀ x ∈ p, x.block < W.heap.size := by
  have hp0 := DataW.trod_lt _ _ _ _ hf
  rcases Go.Deep.open_slice Tryd.underlying24 hf with ⟨hcs, hx⟩ | ⟨a, len, cap, m, n, D, Pl, hcs, _, hl, hm, hmm, hx, hV⟩
  · simp only [List.cons.injEq, and_true] at hcs
    subst hcs
    exact ⟨[], ReadsS.nil W, (fun _ _ s hs => by cases hs), hp0⟩
  · simp only [List.cons.injEq, and_true] at hcs
    subst hcs
    simp only [Prod.mk.injEq] at hx
    obtain ⟨rfl, hpl⟩ := hx
    simp only [if_true] at hmm
    subst hmm
    rw [cells_signed] at hV
    obtain ⟨B, hB⟩ := Go.Deep.choose_lt (α := SgT × Value) (p := fun i q => W.cells? 0 (a.add (i * 98)) 98 = some (sgC q.1 q.2) ∧ okS q.1 ∧ Reads W q.2 q.1.2 ∧ ∀ N, ((D i).weights Tryd.prog 30).all (· ≤ N) = true → q.1.2.length ≤ N) (fun i hi => by
      obtain ⟨cs', h1, h2⟩ := hV i hi
      obtain ⟨s, c, rfl, h3, h4, h5, _⟩ := signed_sized h2
      exact ⟨(s, c), h1, h3, h4, h5⟩)
    have hlen : ((List.range len).map fun i => (B i).1).length = len := by simp
    obtain ⟨ab, ao, spot⟩ := a
    have cell : ∀ i, i < m → ∀ j, j < 98 → W.cell? ((⟨ab, ao, spot⟩ : Addr).add (i * 98 + j)) = (sgC (B i).1 (B i).2)[j]? := by
      intro i hi j hj
      obtain ⟨h1, _⟩ := hB i hi
      obtain ⟨_, _, h4⟩ := World.cells?_some h1
      have := h4 j hj
      rw [Go.Deep.add_add] at this
      exact this
    have hspot : 0 < m → spot = none := fun hp => by
      have h := cell 0 hp 0 (by omega)
      rw [show (sgC (B 0).1 (B 0).2)[0]? = some (.int .u64 ((B 0).1.1.1 : Int)) from rfl] at h
      simpa [Addr.add] using World.cell?_spot h
    refine ⟨(List.range len).map fun i => (B i).1, ⟨⟨some ⟨ab, ao, spot⟩, m, by rw [hlen], by rw [hlen]; exact hl, (fun h => by cases h), fun hp => ?_⟩, ?_⟩, ?_, hp0⟩
    · rw [hlen] at hp ⊢
      have hs := hspot (by omega)
      subst hs
      refine ⟨ab, ao, rfl, fun j hj => ?_⟩
      have e : ((List.range len).map fun i => (B i).1).getD j zeroS = (B j).1 := by simp [hj]
      rw [e]
      refine ⟨(B j).2, ⟨fun i v hv => ?_, (hB j (by omega)).2.1⟩, (hB j (by omega)).2.2.1⟩
      have hi : i < 98 := by have := (List.getElem?_eq_some_iff.1 hv).1; rwa [len_sgC (hB j (by omega)).2.1] at this
      have h := cell j (by omega) i hi
      rw [hv, Addr.add_lit] at h
      rw [Nat.add_assoc]; exact h
    · intro s hs
      obtain ⟨i, hi, rfl⟩ := List.mem_map.1 hs
      exact (hB i (by have := List.mem_range.1 hi; omega)).2.1
    · intro N hN s hs
      rw [DataW.weights] at hN
      simp only [Tryd.underlying24, List.all_cons, List.all_append, Bool.and_eq_true, decide_eq_true_eq, List.length_map, List.length_range] at hN
      obtain ⟨i, hi, rfl⟩ := List.mem_map.1 hs
      have hi2 := List.mem_range.1 hi
      exact (hB i (by omega)).2.2.2 N (weightsAll_mem _ hN.2.1 _ (List.mem_map_of_mem hi))
set_option maxRecDepth 100000 in
theorem readable_evid : Tryd.prog.readableRec 32 = true := by kernel_rfl
set_option maxRecDepth 100000 in
theorem row_evid : 32 < Tryd.prog.types.size := of_decide_eq_true (by kernel_rfl)
set_option maxRecDepth 100000 in
theorem cells_evid : Tryd.prog.cellsOf 32 = 197 := by kernel_rfl
set_option maxRecDepth 100000 in
theorem cells_signedsc : Tryd.prog.cellsOf 24 = 1 := by kernel_rfl
set_option maxRecDepth 100000 in
theorem evid_sized {H : Type} {enc : TypeId × Value → H} {W : World} {base : Nat} {v : Value} {d : DataW H} {p : List MemPlace} (hval : Value.okWide Tryd.prog W .any base 32 v)
    (h : DataW.Trod enc Tryd.prog W 0 (fun _ => true) true 32 v d p) :
    ∃ (e : EvT) (cs : List Value), v = .agg cs.toArray ∧ EvB W e cs ∧ (∀ N, (d.weights Tryd.prog 32).all (· ≤ N) = true → ∀ s ∈ allE e, s.2.length ≤ N) ∧ ∀ q ∈ p, q.block < W.heap.size := by
  simp only [Value.okWide, Tryd.underlying32] at hval
  obtain ⟨cs, rfl, hcs, _⟩ := hval
  obtain ⟨fuel, hf⟩ := h
  have hp := DataW.trod_lt _ _ _ _ hf
  obtain ⟨y0, y1, y2, n, hx, hl, h0, h1, h2⟩ := Go.Deep.trod_struct3 Tryd.underlying32 hf
  simp only [Value.cells] at hl h0 h1 h2
  rw [cells_evid] at hl
  rw [cells_signedsc] at h0
  rw [cells_signed] at h1 h2
  obtain ⟨l⟩ := cs
  simp only at hl h0 h1 h2
  obtain ⟨d0, p0⟩ := y0
  obtain ⟨d1, p1⟩ := y1
  obtain ⟨d2, p2⟩ := y2
  obtain ⟨c, e0⟩ := take_one11 (k := 0) hl (by omega)
  rw [e0] at h0
  obtain ⟨tr, ht, hsz0, _⟩ := readsS_sized (v := c) h0
  obtain ⟨sa, ca, ea, oa, ra, hsz1, _⟩ := signed_sized h1
  obtain ⟨sb, cb2, eb, ob, rb, hsz2, _⟩ := signed_sized h2
  have d1' : l = (l.drop 0).take 1 ++ l.drop 1 := by rw [List.drop_zero]; exact (List.take_append_drop 1 l).symm
  have d2' : l.drop 1 = (l.drop 1).take 98 ++ l.drop 99 := by
    have := (List.take_append_drop 98 (l.drop 1)).symm
    rwa [List.drop_drop] at this
  have d3' : l.drop 99 = (l.drop 99).take 98 := by
    rw [List.take_of_length_le (by rw [List.length_drop]; omega)]
  have hl2 : l = evC (tr, sa, sb) c ca cb2 := by
    rw [d1', d2', d3', e0, ea, eb, evC]
    rfl
  have hE : EvIs W (tr, sa, sb) c ca cb2 := ⟨ht, ra, rb, oa, ob⟩
  refine ⟨(tr, sa, sb), l, rfl, by rw [hl2]; exact hE.evB, fun N hN s hs => ?_, hp⟩
  simp only [Prod.mk.injEq] at hx
  rw [hx.1, DataW.weights] at hN
  simp only [Tryd.underlying32, List.map_cons, List.map_nil, DataW.weightsEach, List.all_append, Bool.and_eq_true] at hN
  rcases List.mem_append.1 hs with hs | hs
  · exact hsz0 N hN.1 s hs
  · rcases List.mem_cons.1 hs with rfl | hs
    · exact hsz1 N hN.2.1
    · rw [List.mem_singleton.1 hs]; exact hsz2 N hN.2.2.1
end Go.Proofs.YtableajopaappaaDoor

/- Texts that the proof leans on, one behind the other: ForkFinds, over what fork\'s functions do (layer 12). What the listed variable gives: the rounds' words lie where the walks look for them. What a slice of bytes that came in gives: the bytes that it reads as; and that it reads so still behind a call that changed no old block. .. -/
import Derived.Test.YtableajopaappaaDoorMge
import Derived.Test.YtableajopaappaaDoorRows
import Derived.Test.YtableajopaappaaDoorMga
import Derived.ProofKit
import Derived.LaidMore
import Derived.OpenShut
import Derived.Stop.Joined
import Derived.Lib.LaidTab
import Derived.Carry
import Derived.ChangeSlices
import Derived.Test.YtableajopaappaaDoorMgb
import Derived.Deep.Slices
import Derived.ChangeSame
import Derived.Deep.Strs
import Derived.Lib.SmallJoins
import Derived.Test.YtableajopaappaaDoorMgd
/- ForkFinds, over what fork\'s functions do (layer 12). -/
namespace Go.Proofs.YtableajopaappaaDoor
open Go.RowKit Go.Shelf
set_option maxRecDepth 100000
/-- whether some of the first k roots are unlike -/
def anyU (l m : List SgT) : Nat → Bool
  | 0 => false
  | k + 1 => anyU l m k || decide ((l.getD k zeroS).1 ≠ (m.getD k zeroS).1)
theorem anyU_more (l m : List SgT) (k : Nat) : anyU l m (k + 1) = (anyU l m k || decide ((l.getD k zeroS).1 ≠ (m.getD k zeroS).1)) := rfl
theorem anyU_iff (l m : List SgT) : ∀ k, anyU l m k = true ↔ ∃ j, j < k ∧ (l.getD j zeroS).1 ≠ (m.getD j zeroS).1
  | 0 => ⟨(fun h => by cases h), fun ⟨j, hj, _⟩ => absurd hj (Nat.not_lt_zero j)⟩
  | k + 1 => by
    rw [anyU_more, Bool.or_eq_true, anyU_iff l m k, decide_eq_true_eq]
    constructor
    · rintro (⟨j, hj, h⟩ | h)
      · exact ⟨j, by omega, h⟩
      · exact ⟨k, by omega, h⟩
    · rintro ⟨j, hj, h⟩
      by_cases hjk : j = k
      · subst hjk; exact Or.inr h
      · exact Or.inl ⟨j, by omega, h⟩
theorem anyU_end {l m : List SgT} {k : Nat} (h1 : k ≤ l.length ∧ k ≤ m.length) (h2 : l.length ≤ k ∨ m.length ≤ k) : anyU l m k = (firstU l m).isSome := by
  rw [Bool.eq_iff_iff, anyU_iff]
  cases hf : firstU l m with
  | none =>
    simp only [Option.isSome_none, Bool.false_eq_true, iff_false]
    rintro ⟨j, hj, h⟩
    exact h (firstU_none l m hf j (by omega) (by omega))
  | some i =>
    simp only [Option.isSome_some, iff_true]
    obtain ⟨a, b, c, _⟩ := firstU_some l m i hf
    exact ⟨i, by omega, c⟩
theorem findF_both {pin : Bs} {l m : List SgT} (hl : (walkR (stR pin) l).2.2 = 0) (hm : (walkR (stR pin) m).2.2 = 0) : (findF pin l m).isSome = (firstU l m).isSome := by
  unfold findF
  cases hf : firstU l m with
  | none => rfl
  | some i =>
    simp only
    rw [if_pos (find_holds hl hm hf)]
    rfl
theorem findF_is {pin : Bs} {l m : List SgT} {e : EvT} (h : findF pin l m = some e) : ∃ i, i < l.length ∧ i < m.length ∧ e = (l.take i, l.getD i zeroS, m.getD i zeroS) ∧ checkF pin e = 0 := by
  unfold findF at h
  cases hf : firstU l m with
  | none => rw [hf] at h; cases h
  | some i =>
    rw [hf] at h
    simp only at h
    split at h
    · rename_i hc
      simp only [Option.some.injEq] at h
      obtain ⟨a, b, _⟩ := firstU_some l m i hf
      exact ⟨i, a, b, h.symm, by rw [← h]; exact hc⟩
    · cases h
theorem mem_getS {l : List SgT} {k : Nat} (hk : k < l.length) : l.getD k zeroS ∈ l := by
  rw [List.getD_eq_getElem?_getD, List.getElem?_eq_getElem hk]
  exact List.getElem_mem hk
set_option maxRecDepth 100000 in
set_option maxHeartbeats 8000000 in
theorem forkFinds_law (hO : FkOps) (pin : Bs) (vl vm : Value) (l m : List SgT) (w : World) (hK : KOk w) (hp : pin.length = 32) (hl : ReadsS w vl l) (hm : ReadsS w vm m) (hzl : ∀ s ∈ l, s.2.length < 281474976710656) (hzm : ∀ s ∈ m, s.2.length < 281474976710656) :
    Calls Tryd.prog 6 #[.agg (cb pin).toArray, vl, vm] w fun r w' => r = .returned (.bool true) ∧ Below w.heap.size w w' := by
  obtain ⟨adl, cl, hvl⟩ := hl.form
  obtain ⟨adm, cm, hvm⟩ := hm.form
  obtain ⟨nl, HNL⟩ : ∃ n, Hid (n = l.length) := ⟨_, rfl⟩
  obtain ⟨nm, HNM⟩ : ∃ n, Hid (n = m.length) := ⟨_, rfl⟩
  rw [← HNL.out] at hvl
  rw [← HNM.out] at hvm
  subst hvl hvm
  have HRL : Hid (ReadsS w (.slice adl nl cl) l) := hl
  have HRM : Hid (ReadsS w (.slice adm nm cm) m) := hm
  have HRL0 : Hid (ReadsS w (.slice adl nl cl) l) := hl
  have HRM0 : Hid (ReadsS w (.slice adm nm cm) m) := hm
  have HPL : Hid (pin.length = 32) := hp
  have HIP : Hid ((Tryd.prog.info? 23).map (·.size) = some (cb pin).length) := by show _ = _; rw [cb_len, hp]; exact info_digest
  have HBW : Hid (Below w.heap.size w w) := Below.refl _ _
  have HW : Hid (∀ W : World, Below w.heap.size w W → Calls Tryd.prog 10 #[] W fun r w' => r = .returned (.bool true) ∧ Below W.heap.size W w') := fun W hh => works12_any hO W (hK.below hh hK.lt)
  obtain ⟨bL, HBL⟩ : ∃ b, Hid (b = fewR l) := ⟨_, rfl⟩
  obtain ⟨bM, HBM⟩ : ∃ b, Hid (b = fewR m) := ⟨_, rfl⟩
  have HF1 : Hid (∀ W : World, Below w.heap.size w W → Calls Tryd.prog 20 #[.slice adl nl cl] W fun r w' => r = .returned (.bool bL) ∧ Below W.heap.size W w') := fun W hh => by rw [HBL.out]; exact (few12_any _ l W (HRL0.out.below hh)).mono fun r w' h => ⟨h.1, by rw [h.2]; exact Below.refl _ _⟩
  have HF2 : Hid (∀ W : World, Below w.heap.size w W → Calls Tryd.prog 20 #[.slice adm nm cm] W fun r w' => r = .returned (.bool bM) ∧ Below W.heap.size W w') := fun W hh => by rw [HBM.out]; exact (few12_any _ m W (HRM0.out.below hh)).mono fun r w' h => ⟨h.1, by rw [h.2]; exact Below.refl _ _⟩
  cases bL with
  | false =>
    clear hO hK hp hl hm hzl hzm HBL HBM
    go_enter Tryd.func6, Tryd.ntmps6
    have tk0 : Hid True := trivial
    have tk1 : Hid True := trivial
    have tk2 : Hid True := trivial
    go_wp2_with (first
      | (clear tk0; with_reducible refine wpSeq_boxW 23 (.tmp 0) (cb pin) ?_ ?_ ?_ ?_
         · rfl
         · rfl
         · rfl
         intro g3 y1 nn
         replace HRL : Hid (ReadsS y1 (.slice adl nl cl) l) := HRL.out.below nn.below
         replace HRM : Hid (ReadsS y1 (.slice adm nm cm) m) := HRM.out.below nn.below
         replace HBW : Hid (Below w.heap.size w y1) := HBW.out.trans (nn.below.mono HBW.out.size)
         have H3 : Hid (Blk y1 g3 (cb pin) 23) := nn.blk
         clear nn
         skip)
      | (clear tk1; go_at_call 20; refine (HF1.out y1 HBW.out).mono ?_; rintro e y2 ⟨rfl, hbz⟩
         replace H3 : Hid (Blk y2 g3 (cb pin) 23) := H3.out.below hbz H3.out.lt
         replace HRL : Hid (ReadsS y2 (.slice adl nl cl) l) := HRL.out.below hbz
         replace HRM : Hid (ReadsS y2 (.slice adm nm cm) m) := HRM.out.below hbz
         replace HBW : Hid (Below w.heap.size w y2) := HBW.out.trans (hbz.mono HBW.out.size)
         clear hbz )
      | (clear tk2; go_at_call 10; refine (HW.out y2 HBW.out).mono ?_; rintro e y3 ⟨rfl, hbz⟩
         replace H3 : Hid (Blk y3 g3 (cb pin) 23) := H3.out.below hbz H3.out.lt
         replace HRL : Hid (ReadsS y3 (.slice adl nl cl) l) := HRL.out.below hbz
         replace HRM : Hid (ReadsS y3 (.slice adm nm cm) m) := HRM.out.below hbz
         replace HBW : Hid (Below w.heap.size w y3) := HBW.out.trans (hbz.mono HBW.out.size)
         clear hbz ))
    go_ret
    exact ⟨rfl, HBW.out⟩
  | true =>
    cases bM with
    | false =>
      clear hO hK hp hl hm hzl hzm HBL HBM
      go_enter Tryd.func6, Tryd.ntmps6
      have tk0 : Hid True := trivial
      have tk1 : Hid True := trivial
      have tk2 : Hid True := trivial
      have tk3 : Hid True := trivial
      go_wp2_with (first
        | (clear tk0; with_reducible refine wpSeq_boxW 23 (.tmp 0) (cb pin) ?_ ?_ ?_ ?_
           · rfl
           · rfl
           · rfl
           intro g3 y1 nn
           replace HRL : Hid (ReadsS y1 (.slice adl nl cl) l) := HRL.out.below nn.below
           replace HRM : Hid (ReadsS y1 (.slice adm nm cm) m) := HRM.out.below nn.below
           replace HBW : Hid (Below w.heap.size w y1) := HBW.out.trans (nn.below.mono HBW.out.size)
           have H3 : Hid (Blk y1 g3 (cb pin) 23) := nn.blk
           clear nn
           skip)
        | (clear tk1; go_at_call 20; refine (HF1.out y1 HBW.out).mono ?_; rintro e y2 ⟨rfl, hbz⟩
           replace H3 : Hid (Blk y2 g3 (cb pin) 23) := H3.out.below hbz H3.out.lt
           replace HRL : Hid (ReadsS y2 (.slice adl nl cl) l) := HRL.out.below hbz
           replace HRM : Hid (ReadsS y2 (.slice adm nm cm) m) := HRM.out.below hbz
           replace HBW : Hid (Below w.heap.size w y2) := HBW.out.trans (hbz.mono HBW.out.size)
           clear hbz )
        | (clear tk2; go_at_call 20; refine (HF2.out y2 HBW.out).mono ?_; rintro e y3 ⟨rfl, hbz⟩
           replace H3 : Hid (Blk y3 g3 (cb pin) 23) := H3.out.below hbz H3.out.lt
           replace HRL : Hid (ReadsS y3 (.slice adl nl cl) l) := HRL.out.below hbz
           replace HRM : Hid (ReadsS y3 (.slice adm nm cm) m) := HRM.out.below hbz
           replace HBW : Hid (Below w.heap.size w y3) := HBW.out.trans (hbz.mono HBW.out.size)
           clear hbz )
        | (clear tk3; go_at_call 10; refine (HW.out y3 HBW.out).mono ?_; rintro e y4 ⟨rfl, hbz⟩
           replace H3 : Hid (Blk y4 g3 (cb pin) 23) := H3.out.below hbz H3.out.lt
           replace HRL : Hid (ReadsS y4 (.slice adl nl cl) l) := HRL.out.below hbz
           replace HRM : Hid (ReadsS y4 (.slice adm nm cm) m) := HRM.out.below hbz
           replace HBW : Hid (Below w.heap.size w y4) := HBW.out.trans (hbz.mono HBW.out.size)
           clear hbz ))
      go_ret
      exact ⟨rfl, HBW.out⟩
    | true =>
      have hll := fewR_len HBL.out.symm
      have hml := fewR_len HBM.out.symm
      have hsl := fewR_sig HBL.out.symm hzl
      have hsm := fewR_sig HBM.out.symm hzm
      have HL40 : Hid (nl ≤ 40 ∧ nm ≤ 40) := by rw [HNL.out, HNM.out]; exact ⟨hll, hml⟩
      obtain ⟨e, HEE⟩ : ∃ e, Hid (e = findE pin l m) := ⟨_, rfl⟩
      obtain ⟨hL, HHL⟩ : ∃ h, Hid (h = (walkR (stR pin) l).1) := ⟨_, rfl⟩
      obtain ⟨kL, HKL⟩ : ∃ h, Hid (h = ((walkR (stR pin) l).2.1 : Int)) := ⟨_, rfl⟩
      obtain ⟨aL, HAL⟩ : ∃ h, Hid (h = (walkR (stR pin) l).2.2) := ⟨_, rfl⟩
      obtain ⟨hM, HHM⟩ : ∃ h, Hid (h = (walkR (stR pin) m).1) := ⟨_, rfl⟩
      obtain ⟨kM, HKM⟩ : ∃ h, Hid (h = ((walkR (stR pin) m).2.1 : Int)) := ⟨_, rfl⟩
      obtain ⟨aM, HAM⟩ : ∃ h, Hid (h = (walkR (stR pin) m).2.2) := ⟨_, rfl⟩
      have HOL : Hid (okH hL) := by rw [HHL.out]; exact walk_okH _ _ (okH_mk rfl HPL.out (by decide)) HRL0.out.2
      have HOM : Hid (okH hM) := by rw [HHM.out]; exact walk_okH _ _ (okH_mk rfl HPL.out (by decide)) HRM0.out.2
      have HST : Hid (∀ W : World, Calls Tryd.prog 24 #[.agg (cb pin).toArray] W fun r w' => r = .returned (.agg (hdC (0, zb32, pin)).toArray) ∧ Below W.heap.size W w') := fun W => chStart_any pin W HPL.out
      have HWL : Hid (∀ W : World, Below w.heap.size w W → Calls Tryd.prog 23 #[.agg (hdC (0, zb32, pin)).toArray, .slice adl nl cl] W fun r w' => r = .returned (.tuple #[.agg (hdC hL).toArray, .int .i64 kL, .int .i64 aL]) ∧ Below W.heap.size W w') := fun W hh => by rw [HHL.out, HKL.out, HAL.out]; exact chWalk_any _ _ l W (fun W h s vs hK oh os hr => chFollow_any h s vs W hK oh os hr) (hK.below hh hK.lt) (okH_mk rfl HPL.out (by decide)) (HRL0.out.below hh) (by omega)
      have HWM : Hid (∀ W : World, Below w.heap.size w W → Calls Tryd.prog 23 #[.agg (hdC (0, zb32, pin)).toArray, .slice adm nm cm] W fun r w' => r = .returned (.tuple #[.agg (hdC hM).toArray, .int .i64 kM, .int .i64 aM]) ∧ Below W.heap.size W w') := fun W hh => by rw [HHM.out, HKM.out, HAM.out]; exact chWalk_any _ _ m W (fun W h s vs hK oh os hr => chFollow_any h s vs W hK oh os hr) (hK.below hh hK.lt) (okH_mk rfl HPL.out (by decide)) (HRM0.out.below hh) (by omega)
      have HBOTH0 : Hid (aL = 0 → aM = 0 → (findF pin l m).isSome = (firstU l m).isSome) := by rw [HAL.out, HAM.out]; exact fun h1 h2 => findF_both h1 h2
      obtain ⟨ok, HOKF0⟩ : ∃ b, Hid (b = (findF pin l m).isSome) := ⟨_, rfl⟩
      have HBOTH : Hid (aL = 0 → aM = 0 → ok = (firstU l m).isSome) := by rw [HOKF0.out]; exact HBOTH0.out
      obtain ⟨kz, HKZ⟩ : ∃ b, Hid (b = findZ pin l m) := ⟨_, rfl⟩
      have HFD : Hid (∀ W : World, Below w.heap.size w W → ReadsS W (.slice adl nl cl) l → ReadsS W (.slice adm nm cm) m → Calls Tryd.prog 21 #[.agg (cb pin).toArray, .slice adl nl cl, .slice adm nm cm] W fun r w' => ∃ c, r = .returned (.tuple #[.agg (c : List Value).toArray, .bool ok]) ∧ EvB w' e c ∧ Below W.heap.size W w') := fun W hh h1 h2 => by rw [HOKF0.out, HEE.out]; exact hO.find W pin _ _ l m (hK.below hh hK.lt) HPL.out h1 h2 hll hml hsl hsm
      have HQF : Hid (∀ W : World, Below w.heap.size w W → Calls Tryd.prog 22 #[.agg (cb pin).toArray, .slice adl nl cl, .slice adm nm cm] W fun r w' => r = .returned (.int .i64 kz) ∧ Below W.heap.size W w') := fun W hh => by rw [HKZ.out]; exact qfFind_any pin _ _ l m W HPL.out (HRL0.out.below hh) (HRM0.out.below hh) (by omega)
      clear HHL HKL HAL HHM HKM HAM HBOTH0
      cases hF : findF pin l m with
      | none =>
        have hok : ok = false := by rw [HOKF0.out, hF]; rfl
        have hkz : kz = -1 := by rw [HKZ.out]; unfold findZ; rw [hF]
        subst hok hkz
        clear hO hK hp hl hm hzl hzm HBL HBM hll hml hsl hsm hF HOKF0 HKZ HEE
        go_enter Tryd.func6, Tryd.ntmps6
        have tk0 : Hid True := trivial
        have tk1 : Hid True := trivial
        have tk2 : Hid True := trivial
        have tk3 : Hid True := trivial
        have tk4 : Hid True := trivial
        have tk5 : Hid True := trivial
        have tk6 : Hid True := trivial
        have tk7 : Hid True := trivial
        have tk8 : Hid True := trivial
        go_upto_region 5 with (first
          | (clear tk0; with_reducible refine wpSeq_boxW 23 (.tmp 0) (cb pin) ?_ ?_ ?_ ?_
             · rfl
             · rfl
             · rfl
             intro g3 y1 nn
             replace HRL : Hid (ReadsS y1 (.slice adl nl cl) l) := HRL.out.below nn.below
             replace HRM : Hid (ReadsS y1 (.slice adm nm cm) m) := HRM.out.below nn.below
             replace HBW : Hid (Below w.heap.size w y1) := HBW.out.trans (nn.below.mono HBW.out.size)
             have H3 : Hid (Blk y1 g3 (cb pin) 23) := nn.blk
             clear nn
             skip)
          | (clear tk1; go_at_call 20; refine (HF1.out y1 HBW.out).mono ?_; rintro e y2 ⟨rfl, hbz⟩
             replace H3 : Hid (Blk y2 g3 (cb pin) 23) := H3.out.below hbz H3.out.lt
             replace HRL : Hid (ReadsS y2 (.slice adl nl cl) l) := HRL.out.below hbz
             replace HRM : Hid (ReadsS y2 (.slice adm nm cm) m) := HRM.out.below hbz
             replace HBW : Hid (Below w.heap.size w y2) := HBW.out.trans (hbz.mono HBW.out.size)
             clear hbz )
          | (clear tk2; go_at_call 20; refine (HF2.out y2 HBW.out).mono ?_; rintro e y3 ⟨rfl, hbz⟩
             replace H3 : Hid (Blk y3 g3 (cb pin) 23) := H3.out.below hbz H3.out.lt
             replace HRL : Hid (ReadsS y3 (.slice adl nl cl) l) := HRL.out.below hbz
             replace HRM : Hid (ReadsS y3 (.slice adm nm cm) m) := HRM.out.below hbz
             replace HBW : Hid (Below w.heap.size w y3) := HBW.out.trans (hbz.mono HBW.out.size)
             clear hbz )
          | (clear tk3; with_reducible refine wpSeq_loadW 23 (.tmp 3) g3 0 (cb pin) _ ?_ Tryd.underlying23 rfl ?_ ?_ ?_ ?_ ?_
             · exact H3.out.range
             · exact HIP.out
             · rfl
             · rfl
             · rfl)
          | (clear tk4; go_at_call 21; refine (HFD.out y3 HBW.out HRL.out HRM.out).mono ?_; rintro e y4 ⟨c7, rfl, hev, hbz⟩
             replace H3 : Hid (Blk y4 g3 (cb pin) 23) := H3.out.below hbz H3.out.lt
             replace HRL : Hid (ReadsS y4 (.slice adl nl cl) l) := HRL.out.below hbz
             replace HRM : Hid (ReadsS y4 (.slice adm nm cm) m) := HRM.out.below hbz
             replace HBW : Hid (Below w.heap.size w y4) := HBW.out.trans (hbz.mono HBW.out.size)
             have HE7 : Hid (EvOk e c7) := hev.ok
             obtain ⟨ad7, cc7, htr0⟩ := hev.ok.tr
             have HTR : Hid (∀ (W : World) (g : Nat), Blk W g c7 32 → W.cell? ⟨g, 0, none⟩ = some (.slice ad7 e.1.length cc7)) := htr0
             have HB7 : Hid (EvB y4 e c7) := hev
             clear hbz hev htr0)
          | (clear tk5; with_reducible refine wpSeq_allocE ?_ ?_ ?_
             · rfl
             · rfl
             intro g7 y5 nn)
          | (clear tk6; with_reducible refine wpSeq_storeRow 32 (.tmp 7) (.tmp 32) g7 (evC zeroE (.slice none 0 0) (.slice none 0 0) (.slice none 0 0)) c7 ?_ ?_ ?_ ?_ ?_ ?_ ?_ ?_ ?_
             · exact nn.blk
             · exact HE7.out.lz
             · exact HE7.out.info
             · exact HE7.out.one
             · rfl
             · rfl
             · rfl
             · rfl
             intro y6 hs
             have hbz := nn.below.trans (hs.only.below nn.ge nn.below.size)
             replace H3 : Hid (Blk y6 g3 (cb pin) 23) := H3.out.below hbz H3.out.lt
             replace HRL : Hid (ReadsS y6 (.slice adl nl cl) l) := HRL.out.below hbz
             replace HRM : Hid (ReadsS y6 (.slice adm nm cm) m) := HRM.out.below hbz
             replace HB7 : Hid (EvB y6 e c7) := HB7.out.below hbz
             replace HBW : Hid (Below w.heap.size w y6) := HBW.out.trans (hbz.mono HBW.out.size)
             have H7 : Hid (Blk y6 g7 c7 32) := hs.blk
             clear nn hs hbz)
          | (clear tk7; with_reducible refine wpSeq_loadW 23 (.tmp 3) g3 0 (cb pin) _ ?_ Tryd.underlying23 rfl ?_ ?_ ?_ ?_ ?_
             · exact H3.out.range
             · exact HIP.out
             · rfl
             · rfl
             · rfl)
          | (clear tk8; go_at_call 22; refine (HQF.out y6 HBW.out).mono ?_; rintro e y7 ⟨rfl, hbz⟩
             replace H3 : Hid (Blk y7 g3 (cb pin) 23) := H3.out.below hbz H3.out.lt
             replace H7 : Hid (Blk y7 g7 c7 32) := H7.out.below hbz H7.out.lt
             replace HRL : Hid (ReadsS y7 (.slice adl nl cl) l) := HRL.out.below hbz
             replace HRM : Hid (ReadsS y7 (.slice adm nm cm) m) := HRM.out.below hbz
             replace HB7 : Hid (EvB y7 e c7) := HB7.out.below hbz
             replace HBW : Hid (Below w.heap.size w y7) := HBW.out.trans (hbz.mono HBW.out.size)
             clear hbz ))
        refine wp_region_held_drew (S := Over (World.drew y7)) (by kernel_rfl) (Over.refl _) ?_
        intro hS
        replace H3 : Hid (Blk (World.drew y7) g3 (cb pin) 23) := H3.out.drew
        replace H7 : Hid (Blk (World.drew y7) g7 c7 32) := H7.out.drew
        replace HB7 : Hid (EvB (World.drew y7) e c7) := HB7.out.below (Below.refl _ _).drew
        replace HBW : Hid (Below w.heap.size w (World.drew y7)) := HBW.out.drew
        change wpAnyH _ _ _ _ _ _ _ _ (World.drew y7)
        generalize World.drew y7 = y0 at *
        try simp only [Act.put, List.setIfInBounds_toArray, List.set_cons_zero, List.set_cons_succ]
        refine wpAnyH_take (i := 0) (v := .bool false) rfl (by kernel_rfl) (by kernel_rfl) (by kernel_rfl) (fun _ _ _ h => h) (Or.inl ⟨by rfl, fun wx hx => by simp [go_sem]⟩) hS ?_
        simp only [Act.put, List.getElem_toArray, List.getElem_cons_zero, List.setIfInBounds_toArray, List.set_cons_zero, List.set_cons_succ]
        refine wpAnyH_take (i := 1) (v := .int .i64 (-1)) rfl (by kernel_rfl) (by kernel_rfl) (by kernel_rfl) (fun _ _ _ h => h) (Or.inl ⟨by rfl, fun wx hx => by simp [go_sem]⟩) hS ?_
        simp only [Act.put, List.getElem_toArray, List.getElem_cons_succ, List.getElem_cons_zero, List.setIfInBounds_toArray, List.set_cons_zero, List.set_cons_succ]
        refine wpAnyH_take (i := 2) (v := .bool false) rfl (by kernel_rfl) (by kernel_rfl) (by kernel_rfl) (fun _ _ _ h => h) (Or.inl ⟨by rfl, fun wx hx => by simp [go_sem]⟩) hS ?_
        simp only [Act.put, List.getElem_toArray, List.getElem_cons_succ, List.getElem_cons_zero, List.setIfInBounds_toArray, List.set_cons_zero, List.set_cons_succ]
        refine wpAnyH_take (i := 3) (v := .bool false) rfl (by kernel_rfl) (by kernel_rfl) (by kernel_rfl) (fun _ _ _ h => h) (Or.inl ⟨by rfl, fun wx hx => by simp [go_sem]⟩) hS ?_
        simp only [Act.put, List.getElem_toArray, List.getElem_cons_succ, List.getElem_cons_zero, List.setIfInBounds_toArray, List.set_cons_zero, List.set_cons_succ]
        refine wpAnyH_take (i := 4) (v := .bool false) rfl (by kernel_rfl) (by kernel_rfl) (by kernel_rfl) (fun _ _ _ h => h) (Or.inl ⟨by rfl, fun wx hx => by simp [go_sem]⟩) hS ?_
        simp only [Act.put, List.getElem_toArray, List.getElem_cons_succ, List.getElem_cons_zero, List.setIfInBounds_toArray, List.set_cons_zero, List.set_cons_succ]
        refine wpAnyH_take (i := 5) (v := .bool false) rfl (by kernel_rfl) (by kernel_rfl) (by kernel_rfl) (fun _ _ _ h => h) (Or.inl ⟨by rfl, fun wx hx => by simp [go_sem]⟩) hS ?_
        simp only [Act.put, List.getElem_toArray, List.getElem_cons_succ, List.getElem_cons_zero, List.setIfInBounds_toArray, List.set_cons_zero, List.set_cons_succ]
        refine wpAnyH_take (i := 6) (v := .bool false) rfl (by kernel_rfl) (by kernel_rfl) (by kernel_rfl) (fun _ _ _ h => h) (Or.inl ⟨by rfl, fun wx hx => by simp [go_sem]⟩) hS ?_
        simp only [Act.put, List.getElem_toArray, List.getElem_cons_succ, List.getElem_cons_zero, List.setIfInBounds_toArray, List.set_cons_zero, List.set_cons_succ]
        refine wpAnyH_take (i := 7) (v := undef) rfl (by kernel_rfl) (by kernel_rfl) (by kernel_rfl) (fun _ _ _ h => h) (Or.inr ⟨by rfl, rfl⟩) hS ?_
        simp only [Act.put, List.getElem_toArray, List.getElem_cons_succ, List.getElem_cons_zero, List.setIfInBounds_toArray, List.set_cons_zero, List.set_cons_succ]
        refine wpAnyH_take (i := 8) (v := undef) rfl (by kernel_rfl) (by kernel_rfl) (by kernel_rfl) (fun _ _ _ h => h) (Or.inr ⟨by rfl, rfl⟩) hS ?_
        simp only [Act.put, List.getElem_toArray, List.getElem_cons_succ, List.getElem_cons_zero, List.setIfInBounds_toArray, List.set_cons_zero, List.set_cons_succ]
        refine wpAnyH_take (i := 9) (v := undef) rfl (by kernel_rfl) (by kernel_rfl) (by kernel_rfl) (fun _ _ _ h => h) (Or.inr ⟨by rfl, rfl⟩) hS ?_
        simp only [Act.put, List.getElem_toArray, List.getElem_cons_succ, List.getElem_cons_zero, List.setIfInBounds_toArray, List.set_cons_zero, List.set_cons_succ]
        refine wpAnyH_take (i := 10) (v := undef) rfl (by kernel_rfl) (by kernel_rfl) (by kernel_rfl) (fun _ _ _ h => h) (Or.inr ⟨by rfl, rfl⟩) hS ?_
        simp only [Act.put, List.getElem_toArray, List.getElem_cons_succ, List.getElem_cons_zero, List.setIfInBounds_toArray, List.set_cons_zero, List.set_cons_succ]
        refine wpAnyH_take (i := 11) (v := undef) rfl (by kernel_rfl) (by kernel_rfl) (by kernel_rfl) (fun _ _ _ h => h) (Or.inr ⟨by rfl, rfl⟩) hS ?_
        simp only [Act.put, List.getElem_toArray, List.getElem_cons_succ, List.getElem_cons_zero, List.setIfInBounds_toArray, List.set_cons_zero, List.set_cons_succ]
        refine wpAnyH_take (i := 12) (v := undef) rfl (by kernel_rfl) (by kernel_rfl) (by kernel_rfl) (fun _ _ _ h => h) (Or.inr ⟨by rfl, rfl⟩) hS ?_
        simp only [Act.put, List.getElem_toArray, List.getElem_cons_succ, List.getElem_cons_zero, List.setIfInBounds_toArray, List.set_cons_zero, List.set_cons_succ]
        refine wpAnyH_take (i := 13) (v := undef) rfl (by kernel_rfl) (by kernel_rfl) (by kernel_rfl) (fun _ _ _ h => h) (Or.inr ⟨by rfl, rfl⟩) hS ?_
        simp only [Act.put, List.getElem_toArray, List.getElem_cons_succ, List.getElem_cons_zero, List.setIfInBounds_toArray, List.set_cons_zero, List.set_cons_succ]
        refine wpAnyH_take (i := 14) (v := undef) rfl (by kernel_rfl) (by kernel_rfl) (by kernel_rfl) (fun _ _ _ h => h) (Or.inr ⟨by rfl, rfl⟩) hS ?_
        simp only [Act.put, List.getElem_toArray, List.getElem_cons_succ, List.getElem_cons_zero, List.setIfInBounds_toArray, List.set_cons_zero, List.set_cons_succ]
        refine wpAnyH_take (i := 15) (v := undef) rfl (by kernel_rfl) (by kernel_rfl) (by kernel_rfl) (fun _ _ _ h => h) (Or.inr ⟨by rfl, rfl⟩) hS ?_
        simp only [Act.put, List.getElem_toArray, List.getElem_cons_succ, List.getElem_cons_zero, List.setIfInBounds_toArray, List.set_cons_zero, List.set_cons_succ]
        refine wpAnyH_take (i := 16) (v := undef) rfl (by kernel_rfl) (by kernel_rfl) (by kernel_rfl) (fun _ _ _ h => h) (Or.inr ⟨by rfl, rfl⟩) hS ?_
        simp only [Act.put, List.getElem_toArray, List.getElem_cons_succ, List.getElem_cons_zero, List.setIfInBounds_toArray, List.set_cons_zero, List.set_cons_succ]
        refine wpAnyH_take (i := 17) (v := undef) rfl (by kernel_rfl) (by kernel_rfl) (by kernel_rfl) (fun _ _ _ h => h) (Or.inr ⟨by rfl, rfl⟩) hS ?_
        simp only [Act.put, List.getElem_toArray, List.getElem_cons_succ, List.getElem_cons_zero, List.setIfInBounds_toArray, List.set_cons_zero, List.set_cons_succ]
        refine wpAnyH_take (i := 18) (v := undef) rfl (by kernel_rfl) (by kernel_rfl) (by kernel_rfl) (fun _ _ _ h => h) (Or.inr ⟨by rfl, rfl⟩) hS ?_
        simp only [Act.put, List.getElem_toArray, List.getElem_cons_succ, List.getElem_cons_zero, List.setIfInBounds_toArray, List.set_cons_zero, List.set_cons_succ]
        refine wpAnyH_take (i := 19) (v := undef) rfl (by kernel_rfl) (by kernel_rfl) (by kernel_rfl) (fun _ _ _ h => h) (Or.inr ⟨by rfl, rfl⟩) hS ?_
        simp only [Act.put, List.getElem_toArray, List.getElem_cons_succ, List.getElem_cons_zero, List.setIfInBounds_toArray, List.set_cons_zero, List.set_cons_succ]
        refine wpAnyH_take (i := 20) (v := undef) rfl (by kernel_rfl) (by kernel_rfl) (by kernel_rfl) (fun _ _ _ h => h) (Or.inr ⟨by rfl, rfl⟩) hS ?_
        simp only [Act.put, List.getElem_toArray, List.getElem_cons_succ, List.getElem_cons_zero, List.setIfInBounds_toArray, List.set_cons_zero, List.set_cons_succ]
        refine wpAnyH_take (i := 21) (v := undef) rfl (by kernel_rfl) (by kernel_rfl) (by kernel_rfl) (fun _ _ _ h => h) (Or.inr ⟨by rfl, rfl⟩) hS ?_
        simp only [Act.put, List.getElem_toArray, List.getElem_cons_succ, List.getElem_cons_zero, List.setIfInBounds_toArray, List.set_cons_zero, List.set_cons_succ]
        refine wpAnyH_take (i := 22) (v := undef) rfl (by kernel_rfl) (by kernel_rfl) (by kernel_rfl) (fun _ _ _ h => h) (Or.inr ⟨by rfl, rfl⟩) hS ?_
        simp only [Act.put, List.getElem_toArray, List.getElem_cons_succ, List.getElem_cons_zero, List.setIfInBounds_toArray, List.set_cons_zero, List.set_cons_succ]
        refine wpAnyH_take (i := 23) (v := undef) rfl (by kernel_rfl) (by kernel_rfl) (by kernel_rfl) (fun _ _ _ h => h) (Or.inr ⟨by rfl, rfl⟩) hS ?_
        simp only [Act.put, List.getElem_toArray, List.getElem_cons_succ, List.getElem_cons_zero, List.setIfInBounds_toArray, List.set_cons_zero, List.set_cons_succ]
        refine wpAnyH_take (i := 24) (v := undef) rfl (by kernel_rfl) (by kernel_rfl) (by kernel_rfl) (fun _ _ _ h => h) (Or.inr ⟨by rfl, rfl⟩) hS ?_
        simp only [Act.put, List.getElem_toArray, List.getElem_cons_succ, List.getElem_cons_zero, List.setIfInBounds_toArray, List.set_cons_zero, List.set_cons_succ]
        refine wpAnyH_take (i := 25) (v := .bool false) rfl (by kernel_rfl) (by kernel_rfl) (by kernel_rfl) (fun _ _ _ h => h) (Or.inl ⟨by rfl, fun wx hx => by simp [go_sem]⟩) hS ?_
        simp only [Act.put, List.getElem_toArray, List.getElem_cons_succ, List.getElem_cons_zero, List.setIfInBounds_toArray, List.set_cons_zero, List.set_cons_succ]
        refine wpAnyH_take (i := 26) (v := .bool false) rfl (by kernel_rfl) (by kernel_rfl) (by kernel_rfl) (fun _ _ _ h => h) (Or.inl ⟨by rfl, fun wx hx => by simp [go_sem]⟩) hS ?_
        simp only [Act.put, List.getElem_toArray, List.getElem_cons_succ, List.getElem_cons_zero, List.setIfInBounds_toArray, List.set_cons_zero, List.set_cons_succ]
        refine wpAnyH_done (by kernel_rfl) ?_ _
        replace H3 : Hid (Blk y0 g3 (cb pin) 23) := H3.out.below hS H3.out.lt
        replace HBW : Hid (Below w.heap.size w y0) := HBW.out.trans (Below.mono hS HBW.out.size)
        replace HRL : Hid (ReadsS y0 (.slice adl nl cl) l) := HRL0.out.below HBW.out
        replace HRM : Hid (ReadsS y0 (.slice adm nm cm) m) := HRM0.out.below HBW.out
        clear hS H7 HB7 HE7 HTR
        generalize y0 = zz at *
        have tk100 : Hid True := trivial
        have tk101 : Hid True := trivial
        have tk102 : Hid True := trivial
        have tk103 : Hid True := trivial
        have tk104 : Hid True := trivial
        have tk105 : Hid True := trivial
        have tk106 : Hid True := trivial
        have tk107 : Hid True := trivial
        have tk108 : Hid True := trivial
        have tk109 : Hid True := trivial
        go_wp2_with (first
          | (clear tk100; with_reducible refine wpSeq_loadW 23 (.tmp 3) g3 0 (cb pin) _ ?_ Tryd.underlying23 rfl ?_ ?_ ?_ ?_ ?_
             · exact H3.out.range
             · exact HIP.out
             · rfl
             · rfl
             · rfl)
          | (clear tk101; go_at_call 24; refine (HST.out zz).mono ?_; rintro e y101 ⟨rfl, hbz⟩
             replace H3 : Hid (Blk y101 g3 (cb pin) 23) := H3.out.below hbz H3.out.lt
             replace HRL : Hid (ReadsS y101 (.slice adl nl cl) l) := HRL.out.below hbz
             replace HRM : Hid (ReadsS y101 (.slice adm nm cm) m) := HRM.out.below hbz
             replace HBW : Hid (Below w.heap.size w y101) := HBW.out.trans (hbz.mono HBW.out.size)
             clear hbz )
          | (clear tk102; go_at_call 23; refine (HWL.out y101 HBW.out).mono ?_; rintro e y102 ⟨rfl, hbz⟩
             replace H3 : Hid (Blk y102 g3 (cb pin) 23) := H3.out.below hbz H3.out.lt
             replace HRL : Hid (ReadsS y102 (.slice adl nl cl) l) := HRL.out.below hbz
             replace HRM : Hid (ReadsS y102 (.slice adm nm cm) m) := HRM.out.below hbz
             replace HBW : Hid (Below w.heap.size w y102) := HBW.out.trans (hbz.mono HBW.out.size)
             clear hbz )
          | (clear tk103; with_reducible refine wpSeq_allocH ?_ ?_ ?_
             · rfl
             · rfl
             intro g10 y103 nn)
          | (clear tk104; with_reducible refine wpSeq_storeRow 50 (.tmp 10) (.tmp 70) g10 (hdC zeroH) (hdC hL) ?_ ?_ ?_ ?_ ?_ ?_ ?_ ?_ ?_
             · exact nn.blk
             · first | (with_reducible rfl) | rw [len_hdC HOL.out, len_hdC okH_zero]
             · exact info_hdC HOL.out
             · exact hdC_one _
             · rfl
             · rfl
             · rfl
             · rfl
             intro y104 hs
             have hbz := nn.below.trans (hs.only.below nn.ge nn.below.size)
             replace H3 : Hid (Blk y104 g3 (cb pin) 23) := H3.out.below hbz H3.out.lt
             replace HRL : Hid (ReadsS y104 (.slice adl nl cl) l) := HRL.out.below hbz
             replace HRM : Hid (ReadsS y104 (.slice adm nm cm) m) := HRM.out.below hbz
             replace HBW : Hid (Below w.heap.size w y104) := HBW.out.trans (hbz.mono HBW.out.size)
             have H10 : Hid (Blk y104 g10 (hdC hL) 50) := hs.blk
             clear nn hs hbz)
          | (clear tk105; with_reducible refine wpSeq_loadW 23 (.tmp 3) g3 0 (cb pin) _ ?_ Tryd.underlying23 rfl ?_ ?_ ?_ ?_ ?_
             · exact H3.out.range
             · exact HIP.out
             · rfl
             · rfl
             · rfl)
          | (clear tk106; go_at_call 24; refine (HST.out y104).mono ?_; rintro e y105 ⟨rfl, hbz⟩
             replace H3 : Hid (Blk y105 g3 (cb pin) 23) := H3.out.below hbz H3.out.lt
             replace H10 : Hid (Blk y105 g10 (hdC hL) 50) := H10.out.below hbz H10.out.lt
             replace HRL : Hid (ReadsS y105 (.slice adl nl cl) l) := HRL.out.below hbz
             replace HRM : Hid (ReadsS y105 (.slice adm nm cm) m) := HRM.out.below hbz
             replace HBW : Hid (Below w.heap.size w y105) := HBW.out.trans (hbz.mono HBW.out.size)
             clear hbz )
          | (clear tk107; go_at_call 23; refine (HWM.out y105 HBW.out).mono ?_; rintro e y106 ⟨rfl, hbz⟩
             replace H3 : Hid (Blk y106 g3 (cb pin) 23) := H3.out.below hbz H3.out.lt
             replace H10 : Hid (Blk y106 g10 (hdC hL) 50) := H10.out.below hbz H10.out.lt
             replace HRL : Hid (ReadsS y106 (.slice adl nl cl) l) := HRL.out.below hbz
             replace HRM : Hid (ReadsS y106 (.slice adm nm cm) m) := HRM.out.below hbz
             replace HBW : Hid (Below w.heap.size w y106) := HBW.out.trans (hbz.mono HBW.out.size)
             clear hbz )
          | (clear tk108; with_reducible refine wpSeq_allocH ?_ ?_ ?_
             · rfl
             · rfl
             intro g13 y107 nn)
          | (clear tk109; with_reducible refine wpSeq_storeRow 50 (.tmp 13) (.tmp 78) g13 (hdC zeroH) (hdC hM) ?_ ?_ ?_ ?_ ?_ ?_ ?_ ?_ ?_
             · exact nn.blk
             · first | (with_reducible rfl) | rw [len_hdC HOM.out, len_hdC okH_zero]
             · exact info_hdC HOM.out
             · exact hdC_one _
             · rfl
             · rfl
             · rfl
             · rfl
             intro y108 hs
             have hbz := nn.below.trans (hs.only.below nn.ge nn.below.size)
             replace H3 : Hid (Blk y108 g3 (cb pin) 23) := H3.out.below hbz H3.out.lt
             replace H10 : Hid (Blk y108 g10 (hdC hL) 50) := H10.out.below hbz H10.out.lt
             replace HRL : Hid (ReadsS y108 (.slice adl nl cl) l) := HRL.out.below hbz
             replace HRM : Hid (ReadsS y108 (.slice adm nm cm) m) := HRM.out.below hbz
             replace HBW : Hid (Below w.heap.size w y108) := HBW.out.trans (hbz.mono HBW.out.size)
             have H13 : Hid (Blk y108 g13 (hdC hM) 50) := hs.blk
             clear nn hs hbz))
        have HBI0 : Hid (Below w.heap.size w y108) := HBW.out
        clear HBW H3 H10 H13 HRL HRM
        go_loopw [16, 17] (fun u i wr => ∃ (k : Nat) (z : Bool), (k ≤ nl ∧ k ≤ nm) ∧ i = .int .i64 (k : Int) ∧ u = .bool z ∧ Hid (z = anyU l m k) ∧ Hid (Below w.heap.size w wr)) (fun _ i _ => nl - (intOf i).toNat)
        case atStart => exact ⟨0, false, by omega, rfl, rfl, rfl, HBI0⟩
        case round =>
          obtain ⟨k, z, hkn, rfl, rfl, HAU, HBI⟩ := hrel
          clear HBI0
          by_cases hlt : k < nl
          case neg =>
            have hlk : ¬ ((k : Int) < (nl : Int)) := by omega
            have HAE : Hid (z = (firstU l m).isSome) := by show _ = _; rw [HAU.out]; exact anyU_end (by rw [← HNL.out, ← HNM.out]; omega) (by rw [← HNL.out, ← HNM.out]; omega)
            by_cases haL : aL = 0
            case neg =>
              have qL : (aL == 0) = false := by rw [beq_eq_false_iff_ne]; exact haL
              have pL : (aL != 0) = true := by rw [bne, qL]; rfl
              clear haL
              have tk120 : Hid True := trivial
              go_wp2_with (first
                | (clear tk120; go_at_call 10; refine (HW.out wr HBI.out).mono ?_; rintro e y121 ⟨rfl, hbz⟩
                   replace HBI : Hid (Below w.heap.size w y121) := HBI.out.trans (hbz.mono HBI.out.size)
                   clear hbz ))
              go_ret
              exact ⟨rfl, HBI.out⟩
            case pos =>
              have qL : (aL == 0) = true := by rw [beq_iff_eq]; exact haL
              have pL : (aL != 0) = false := by rw [bne, qL]; rfl
              by_cases haM : aM = 0
              case neg =>
                have qM : (aM == 0) = false := by rw [beq_eq_false_iff_ne]; exact haM
                have pM : (aM != 0) = true := by rw [bne, qM]; rfl
                clear haL haM
                have tk120 : Hid True := trivial
                go_wp2_with (first
                  | (clear tk120; go_at_call 10; refine (HW.out wr HBI.out).mono ?_; rintro e y121 ⟨rfl, hbz⟩
                     replace HBI : Hid (Below w.heap.size w y121) := HBI.out.trans (hbz.mono HBI.out.size)
                     clear hbz ))
                go_ret
                exact ⟨rfl, HBI.out⟩
              case pos =>
                have qM : (aM == 0) = true := by rw [beq_iff_eq]; exact haM
                have pM : (aM != 0) = false := by rw [bne, qM]; rfl
                have hz : z = false := by rw [HAE.out]; exact (HBOTH.out haL haM).symm
                subst hz
                clear haL haM
                have tk120 : Hid True := trivial
                go_wp2_with (first
                  | (clear tk120; go_at_call 10; refine (HW.out wr HBI.out).mono ?_; rintro e y121 ⟨rfl, hbz⟩
                     replace HBI : Hid (Below w.heap.size w y121) := HBI.out.trans (hbz.mono HBI.out.size)
                     clear hbz ))
                go_ret
                exact ⟨rfl, HBI.out⟩
          have hlk : (k : Int) < (nl : Int) := by omega
          by_cases hmt : k < nm
          case neg =>
            have hmk : ¬ ((k : Int) < (nm : Int)) := by omega
            have HAE : Hid (z = (firstU l m).isSome) := by show _ = _; rw [HAU.out]; exact anyU_end (by rw [← HNL.out, ← HNM.out]; omega) (by rw [← HNL.out, ← HNM.out]; omega)
            by_cases haL : aL = 0
            case neg =>
              have qL : (aL == 0) = false := by rw [beq_eq_false_iff_ne]; exact haL
              have pL : (aL != 0) = true := by rw [bne, qL]; rfl
              clear haL
              have tk120 : Hid True := trivial
              go_wp2_with (first
                | (clear tk120; go_at_call 10; refine (HW.out wr HBI.out).mono ?_; rintro e y121 ⟨rfl, hbz⟩
                   replace HBI : Hid (Below w.heap.size w y121) := HBI.out.trans (hbz.mono HBI.out.size)
                   clear hbz ))
              go_ret
              exact ⟨rfl, HBI.out⟩
            case pos =>
              have qL : (aL == 0) = true := by rw [beq_iff_eq]; exact haL
              have pL : (aL != 0) = false := by rw [bne, qL]; rfl
              by_cases haM : aM = 0
              case neg =>
                have qM : (aM == 0) = false := by rw [beq_eq_false_iff_ne]; exact haM
                have pM : (aM != 0) = true := by rw [bne, qM]; rfl
                clear haL haM
                have tk120 : Hid True := trivial
                go_wp2_with (first
                  | (clear tk120; go_at_call 10; refine (HW.out wr HBI.out).mono ?_; rintro e y121 ⟨rfl, hbz⟩
                     replace HBI : Hid (Below w.heap.size w y121) := HBI.out.trans (hbz.mono HBI.out.size)
                     clear hbz ))
                go_ret
                exact ⟨rfl, HBI.out⟩
              case pos =>
                have qM : (aM == 0) = true := by rw [beq_iff_eq]; exact haM
                have pM : (aM != 0) = false := by rw [bne, qM]; rfl
                have hz : z = false := by rw [HAE.out]; exact (HBOTH.out haL haM).symm
                subst hz
                clear haL haM
                have tk120 : Hid True := trivial
                go_wp2_with (first
                  | (clear tk120; go_at_call 10; refine (HW.out wr HBI.out).mono ?_; rintro e y121 ⟨rfl, hbz⟩
                     replace HBI : Hid (Below w.heap.size w y121) := HBI.out.trans (hbz.mono HBI.out.size)
                     clear hbz ))
                go_ret
                exact ⟨rfl, HBI.out⟩
          have hmk : (k : Int) < (nm : Int) := by omega
          have f5 : IntKind.i64.wrap ((k : Int) + 1) = (k : Int) + 1 := by rw [IntKind.wrap_i64]; have := HL40.out; omega
          have HL1 : Hid (k < l.length) := by show _ < _; rw [← HNL.out]; exact hlt
          have HL2 : Hid (k < m.length) := by show _ < _; rw [← HNM.out]; exact hmt
          obtain ⟨b1, o1, c1, hv1, hat1⟩ := HRL0.out.at (Nat.lt_of_le_of_lt (Nat.zero_le _) HL1.out)
          obtain ⟨b2, o2, c2, hv2, hat2⟩ := HRM0.out.at (Nat.lt_of_le_of_lt (Nat.zero_le _) HL2.out)
          simp only [Value.slice.injEq] at hv1 hv2
          obtain ⟨rfl, hn1, rfl⟩ := hv1
          obtain ⟨rfl, hn2, rfl⟩ := hv2
          clear hn1 hn2
          cases z with
          | true =>
            clear hat1 hat2
            go_wp2
            refine wp_region_held_drew (S := Over (World.drew wr)) (by kernel_rfl) (Over.refl _) ?_
            intro hS
            replace HBI : Hid (Below w.heap.size w (World.drew wr)) := HBI.out.drew
            change wpAnyH _ _ _ _ _ _ _ _ (World.drew wr)
            generalize World.drew wr = y0 at *
            try simp only [Act.put, List.setIfInBounds_toArray, List.set_cons_zero, List.set_cons_succ]
            refine wpAnyH_take (i := 0) (v := .bool true) rfl (by kernel_rfl) (by kernel_rfl) (by kernel_rfl) (fun _ _ _ h => h) (Or.inl ⟨by rfl, fun wx hx => by simp [go_sem]⟩) hS ?_
            simp only [Act.put, List.getElem_toArray, List.getElem_cons_zero, List.setIfInBounds_toArray, List.set_cons_zero, List.set_cons_succ]
            refine wpAnyH_take (i := 1) (v := .bool true) rfl (by kernel_rfl) (by kernel_rfl) (by kernel_rfl) (fun _ _ _ h => h) (Or.inl ⟨by rfl, fun wx hx => by simp [go_sem]⟩) hS ?_
            simp only [Act.put, List.getElem_toArray, List.getElem_cons_succ, List.getElem_cons_zero, List.setIfInBounds_toArray, List.set_cons_zero, List.set_cons_succ]
            refine wpAnyH_take (i := 2) (v := undef) rfl (by kernel_rfl) (by kernel_rfl) (by kernel_rfl) (fun _ _ _ h => h) (Or.inr ⟨by rfl, rfl⟩) hS ?_
            simp only [Act.put, List.getElem_toArray, List.getElem_cons_succ, List.getElem_cons_zero, List.setIfInBounds_toArray, List.set_cons_zero, List.set_cons_succ]
            refine wpAnyH_take (i := 3) (v := undef) rfl (by kernel_rfl) (by kernel_rfl) (by kernel_rfl) (fun _ _ _ h => h) (Or.inr ⟨by rfl, rfl⟩) hS ?_
            simp only [Act.put, List.getElem_toArray, List.getElem_cons_succ, List.getElem_cons_zero, List.setIfInBounds_toArray, List.set_cons_zero, List.set_cons_succ]
            refine wpAnyH_take (i := 4) (v := undef) rfl (by kernel_rfl) (by kernel_rfl) (by kernel_rfl) (fun _ _ _ h => h) (Or.inr ⟨by rfl, rfl⟩) hS ?_
            simp only [Act.put, List.getElem_toArray, List.getElem_cons_succ, List.getElem_cons_zero, List.setIfInBounds_toArray, List.set_cons_zero, List.set_cons_succ]
            refine wpAnyH_take (i := 5) (v := undef) rfl (by kernel_rfl) (by kernel_rfl) (by kernel_rfl) (fun _ _ _ h => h) (Or.inr ⟨by rfl, rfl⟩) hS ?_
            simp only [Act.put, List.getElem_toArray, List.getElem_cons_succ, List.getElem_cons_zero, List.setIfInBounds_toArray, List.set_cons_zero, List.set_cons_succ]
            refine wpAnyH_take (i := 6) (v := undef) rfl (by kernel_rfl) (by kernel_rfl) (by kernel_rfl) (fun _ _ _ h => h) (Or.inr ⟨by rfl, rfl⟩) hS ?_
            simp only [Act.put, List.getElem_toArray, List.getElem_cons_succ, List.getElem_cons_zero, List.setIfInBounds_toArray, List.set_cons_zero, List.set_cons_succ]
            refine wpAnyH_take (i := 7) (v := undef) rfl (by kernel_rfl) (by kernel_rfl) (by kernel_rfl) (fun _ _ _ h => h) (Or.inr ⟨by rfl, rfl⟩) hS ?_
            simp only [Act.put, List.getElem_toArray, List.getElem_cons_succ, List.getElem_cons_zero, List.setIfInBounds_toArray, List.set_cons_zero, List.set_cons_succ]
            refine wpAnyH_take (i := 8) (v := undef) rfl (by kernel_rfl) (by kernel_rfl) (by kernel_rfl) (fun _ _ _ h => h) (Or.inr ⟨by rfl, rfl⟩) hS ?_
            simp only [Act.put, List.getElem_toArray, List.getElem_cons_succ, List.getElem_cons_zero, List.setIfInBounds_toArray, List.set_cons_zero, List.set_cons_succ]
            refine wpAnyH_take (i := 9) (v := undef) rfl (by kernel_rfl) (by kernel_rfl) (by kernel_rfl) (fun _ _ _ h => h) (Or.inr ⟨by rfl, rfl⟩) hS ?_
            simp only [Act.put, List.getElem_toArray, List.getElem_cons_succ, List.getElem_cons_zero, List.setIfInBounds_toArray, List.set_cons_zero, List.set_cons_succ]
            refine wpAnyH_take (i := 10) (v := undef) rfl (by kernel_rfl) (by kernel_rfl) (by kernel_rfl) (fun _ _ _ h => h) (Or.inr ⟨by rfl, rfl⟩) hS ?_
            simp only [Act.put, List.getElem_toArray, List.getElem_cons_succ, List.getElem_cons_zero, List.setIfInBounds_toArray, List.set_cons_zero, List.set_cons_succ]
            refine wpAnyH_take (i := 11) (v := undef) rfl (by kernel_rfl) (by kernel_rfl) (by kernel_rfl) (fun _ _ _ h => h) (Or.inr ⟨by rfl, rfl⟩) hS ?_
            simp only [Act.put, List.getElem_toArray, List.getElem_cons_succ, List.getElem_cons_zero, List.setIfInBounds_toArray, List.set_cons_zero, List.set_cons_succ]
            refine wpAnyH_take (i := 12) (v := undef) rfl (by kernel_rfl) (by kernel_rfl) (by kernel_rfl) (fun _ _ _ h => h) (Or.inr ⟨by rfl, rfl⟩) hS ?_
            simp only [Act.put, List.getElem_toArray, List.getElem_cons_succ, List.getElem_cons_zero, List.setIfInBounds_toArray, List.set_cons_zero, List.set_cons_succ]
            refine wpAnyH_take (i := 13) (v := .bool true) rfl (by kernel_rfl) (by kernel_rfl) (by kernel_rfl) (fun _ _ _ h => h) (Or.inl ⟨by rfl, fun wx hx => by simp [go_sem]⟩) hS ?_
            simp only [Act.put, List.getElem_toArray, List.getElem_cons_succ, List.getElem_cons_zero, List.setIfInBounds_toArray, List.set_cons_zero, List.set_cons_succ]
            refine wpAnyH_take (i := 14) (v := .bool true) rfl (by kernel_rfl) (by kernel_rfl) (by kernel_rfl) (fun _ _ _ h => h) (Or.inl ⟨by rfl, fun wx hx => by simp [go_sem]⟩) hS ?_
            simp only [Act.put, List.getElem_toArray, List.getElem_cons_succ, List.getElem_cons_zero, List.setIfInBounds_toArray, List.set_cons_zero, List.set_cons_succ]
            refine wpAnyH_done (by kernel_rfl) ?_ _
            go_wp2
            go_roundw
            case rel => exact ⟨k + 1, true, by omega, by simp, rfl, (by show _ = _; rw [anyU_more, ← HAU.out]; rfl), HBI.out.trans (Below.mono hS HBI.out.size)⟩
            case measure => simp [intOf]; omega
          | false =>
            obtain ⟨v1, hs1, hr1⟩ := hat1 k HL1.out
            obtain ⟨v2, hs2, hr2⟩ := hat2 k HL2.out
            obtain ⟨s, HS⟩ : ∃ s, Hid (s = l.getD k zeroS) := ⟨_, rfl⟩
            obtain ⟨t, HT⟩ : ∃ t, Hid (t = m.getD k zeroS) := ⟨_, rfl⟩
            rw [← HS.out] at hs1 hr1
            rw [← HT.out] at hs2 hr2
            obtain ⟨rt1, HRT1⟩ : ∃ c, Hid (c = rtC s) := ⟨_, rfl⟩
            obtain ⟨rt2, HRT2⟩ : ∃ c, Hid (c = rtC t) := ⟨_, rfl⟩
            have HT1 : Hid (∀ W : World, Below w.heap.size w W → W.rangeAt b1 (o1 + k * 98) rt1) := fun W hh => by rw [HRT1.out]; exact (hs1.below hh (Nat.le_refl _)).root
            have HT2 : Hid (∀ W : World, Below w.heap.size w W → W.rangeAt b2 (o2 + k * 98) rt2) := fun W hh => by rw [HRT2.out]; exact (hs2.below hh (Nat.le_refl _)).root
            have HJ1 : Hid ((Tryd.prog.info? 27).map (·.size) = some rt1.length) := by show _ = _; rw [HRT1.out]; exact info_rtC hs1.ok
            have HJ2 : Hid ((Tryd.prog.info? 27).map (·.size) = some rt2.length) := by show _ = _; rw [HRT2.out]; exact info_rtC hs2.ok
            obtain ⟨r, HRK⟩ : ∃ r, Hid (r = decide (s.1 = t.1)) := ⟨_, rfl⟩
            have heq : ∀ wx : World, (Op.equalIn 10000 27 (.agg rt1.toArray) (.agg rt2.toArray)).run Tryd.prog wx = .ok r wx := fun wx => by rw [HRT1.out, HRT2.out, HRK.out]; exact eq_rt _ _ hs1.ok hs2.ok wx
            clear hat1 hat2 hs1 hs2 hr1 hr2 HRT1 HRT2
            cases r with
            | true =>
              have HNE : Hid (false = decide (s.1 ≠ t.1)) := (decide_eq_false fun h => h (of_decide_eq_true HRK.out.symm)).symm
              go_wp2
              refine wp_region_held_drew (S := Over (World.drew wr)) (by kernel_rfl) (Over.refl _) ?_
              intro hS
              replace HBI : Hid (Below w.heap.size w (World.drew wr)) := HBI.out.drew
              change wpAnyH _ _ _ _ _ _ _ _ (World.drew wr)
              generalize World.drew wr = y0 at *
              try simp only [Act.put, List.setIfInBounds_toArray, List.set_cons_zero, List.set_cons_succ]
              refine wpAnyH_take (i := 0) (v := .bool false) rfl (by kernel_rfl) (by kernel_rfl) (by kernel_rfl) (fun _ _ _ h => h) (Or.inl ⟨by rfl, fun wx hx => by simp [go_sem]⟩) hS ?_
              simp only [Act.put, List.getElem_toArray, List.getElem_cons_zero, List.setIfInBounds_toArray, List.set_cons_zero, List.set_cons_succ]
              refine wpAnyH_take (i := 1) (v := .bool false) rfl (by kernel_rfl) (by kernel_rfl) (by kernel_rfl) (fun _ _ _ h => h) (Or.inl ⟨by rfl, fun wx hx => by simp [go_sem]⟩) hS ?_
              simp only [Act.put, List.getElem_toArray, List.getElem_cons_succ, List.getElem_cons_zero, List.setIfInBounds_toArray, List.set_cons_zero, List.set_cons_succ]
              refine wpAnyH_take (i := 2) (v := .slice (some ⟨b1, o1, none⟩) nl cl) rfl (by kernel_rfl) (by kernel_rfl) (by kernel_rfl) (fun _ _ _ h => h) (Or.inl ⟨by rfl, fun wx hx => by simp [go_sem]⟩) hS ?_
              simp only [Act.put, List.getElem_toArray, List.getElem_cons_succ, List.getElem_cons_zero, List.setIfInBounds_toArray, List.set_cons_zero, List.set_cons_succ]
              refine wpAnyH_take (i := 3) (v := .int .i64 (k : Int)) rfl (by kernel_rfl) (by kernel_rfl) (by kernel_rfl) (fun _ _ _ h => h) (Or.inl ⟨by rfl, fun wx hx => by simp [go_sem]⟩) hS ?_
              simp only [Act.put, List.getElem_toArray, List.getElem_cons_succ, List.getElem_cons_zero, List.setIfInBounds_toArray, List.set_cons_zero, List.set_cons_succ]
              refine wpAnyH_take (i := 4) (v := .pointer (some ⟨b1, o1 + k * 98, none⟩)) rfl (by kernel_rfl) (by kernel_rfl) (by kernel_rfl) (fun _ _ _ h => h) (Or.inl ⟨by rfl, fun wx hx => by exact idx98 b1 o1 cl nl k hlt _ _ _ _ rfl rfl rfl _⟩) hS ?_
              simp only [Act.put, List.getElem_toArray, List.getElem_cons_succ, List.getElem_cons_zero, List.setIfInBounds_toArray, List.set_cons_zero, List.set_cons_succ]
              refine wpAnyH_take (i := 5) (v := .pointer (some ⟨b1, o1 + k * 98, none⟩)) rfl (by kernel_rfl) (by kernel_rfl) (by kernel_rfl) (fun _ _ _ h => h) (Or.inl ⟨by rfl, fun wx hx => by simp [go_sem]⟩) hS ?_
              simp only [Act.put, List.getElem_toArray, List.getElem_cons_succ, List.getElem_cons_zero, List.setIfInBounds_toArray, List.set_cons_zero, List.set_cons_succ]
              refine wpAnyH_take (i := 6) (v := .agg rt1.toArray) rfl (by kernel_rfl) (by kernel_rfl) (by kernel_rfl) (fun _ _ _ h => h) (Or.inl ⟨by rfl, fun wx hx => by exact load_run 27 _ rfl b1 (o1 + k * 98) rfl rt1 _ (HT1.out _ (HBI.out.trans (Below.mono hx HBI.out.size))) Tryd.underlying27 rfl HJ1.out⟩) hS ?_
              simp only [Act.put, List.getElem_toArray, List.getElem_cons_succ, List.getElem_cons_zero, List.setIfInBounds_toArray, List.set_cons_zero, List.set_cons_succ]
              refine wpAnyH_take (i := 7) (v := .slice (some ⟨b2, o2, none⟩) nm cm) rfl (by kernel_rfl) (by kernel_rfl) (by kernel_rfl) (fun _ _ _ h => h) (Or.inl ⟨by rfl, fun wx hx => by simp [go_sem]⟩) hS ?_
              simp only [Act.put, List.getElem_toArray, List.getElem_cons_succ, List.getElem_cons_zero, List.setIfInBounds_toArray, List.set_cons_zero, List.set_cons_succ]
              refine wpAnyH_take (i := 8) (v := .int .i64 (k : Int)) rfl (by kernel_rfl) (by kernel_rfl) (by kernel_rfl) (fun _ _ _ h => h) (Or.inl ⟨by rfl, fun wx hx => by simp [go_sem]⟩) hS ?_
              simp only [Act.put, List.getElem_toArray, List.getElem_cons_succ, List.getElem_cons_zero, List.setIfInBounds_toArray, List.set_cons_zero, List.set_cons_succ]
              refine wpAnyH_take (i := 9) (v := .pointer (some ⟨b2, o2 + k * 98, none⟩)) rfl (by kernel_rfl) (by kernel_rfl) (by kernel_rfl) (fun _ _ _ h => h) (Or.inl ⟨by rfl, fun wx hx => by exact idx98 b2 o2 cm nm k hmt _ _ _ _ rfl rfl rfl _⟩) hS ?_
              simp only [Act.put, List.getElem_toArray, List.getElem_cons_succ, List.getElem_cons_zero, List.setIfInBounds_toArray, List.set_cons_zero, List.set_cons_succ]
              refine wpAnyH_take (i := 10) (v := .pointer (some ⟨b2, o2 + k * 98, none⟩)) rfl (by kernel_rfl) (by kernel_rfl) (by kernel_rfl) (fun _ _ _ h => h) (Or.inl ⟨by rfl, fun wx hx => by simp [go_sem]⟩) hS ?_
              simp only [Act.put, List.getElem_toArray, List.getElem_cons_succ, List.getElem_cons_zero, List.setIfInBounds_toArray, List.set_cons_zero, List.set_cons_succ]
              refine wpAnyH_take (i := 11) (v := .agg rt2.toArray) rfl (by kernel_rfl) (by kernel_rfl) (by kernel_rfl) (fun _ _ _ h => h) (Or.inl ⟨by rfl, fun wx hx => by exact load_run 27 _ rfl b2 (o2 + k * 98) rfl rt2 _ (HT2.out _ (HBI.out.trans (Below.mono hx HBI.out.size))) Tryd.underlying27 rfl HJ2.out⟩) hS ?_
              simp only [Act.put, List.getElem_toArray, List.getElem_cons_succ, List.getElem_cons_zero, List.setIfInBounds_toArray, List.set_cons_zero, List.set_cons_succ]
              refine wpAnyH_take (i := 12) (v := .bool false) rfl (by kernel_rfl) (by kernel_rfl) (by kernel_rfl) (fun _ _ _ h => h) (Or.inl ⟨by rfl, fun wx hx => by simp [go_sem, heq]⟩) hS ?_
              simp only [Act.put, List.getElem_toArray, List.getElem_cons_succ, List.getElem_cons_zero, List.setIfInBounds_toArray, List.set_cons_zero, List.set_cons_succ]
              refine wpAnyH_take (i := 13) (v := .bool false) rfl (by kernel_rfl) (by kernel_rfl) (by kernel_rfl) (fun _ _ _ h => h) (Or.inl ⟨by rfl, fun wx hx => by simp [go_sem]⟩) hS ?_
              simp only [Act.put, List.getElem_toArray, List.getElem_cons_succ, List.getElem_cons_zero, List.setIfInBounds_toArray, List.set_cons_zero, List.set_cons_succ]
              refine wpAnyH_take (i := 14) (v := .bool false) rfl (by kernel_rfl) (by kernel_rfl) (by kernel_rfl) (fun _ _ _ h => h) (Or.inl ⟨by rfl, fun wx hx => by simp [go_sem]⟩) hS ?_
              simp only [Act.put, List.getElem_toArray, List.getElem_cons_succ, List.getElem_cons_zero, List.setIfInBounds_toArray, List.set_cons_zero, List.set_cons_succ]
              refine wpAnyH_done (by kernel_rfl) ?_ _
              go_wp2
              go_roundw
              case rel => exact ⟨k + 1, false, by omega, by simp, rfl, (by show _ = _; rw [anyU_more, ← HAU.out, Bool.false_or, ← HS.out, ← HT.out]; exact HNE.out), HBI.out.trans (Below.mono hS HBI.out.size)⟩
              case measure => simp [intOf]; omega
            | false =>
              have HNE : Hid (true = decide (s.1 ≠ t.1)) := (decide_eq_true (of_decide_eq_false HRK.out.symm)).symm
              go_wp2
              refine wp_region_held_drew (S := Over (World.drew wr)) (by kernel_rfl) (Over.refl _) ?_
              intro hS
              replace HBI : Hid (Below w.heap.size w (World.drew wr)) := HBI.out.drew
              change wpAnyH _ _ _ _ _ _ _ _ (World.drew wr)
              generalize World.drew wr = y0 at *
              try simp only [Act.put, List.setIfInBounds_toArray, List.set_cons_zero, List.set_cons_succ]
              refine wpAnyH_take (i := 0) (v := .bool false) rfl (by kernel_rfl) (by kernel_rfl) (by kernel_rfl) (fun _ _ _ h => h) (Or.inl ⟨by rfl, fun wx hx => by simp [go_sem]⟩) hS ?_
              simp only [Act.put, List.getElem_toArray, List.getElem_cons_zero, List.setIfInBounds_toArray, List.set_cons_zero, List.set_cons_succ]
              refine wpAnyH_take (i := 1) (v := .bool false) rfl (by kernel_rfl) (by kernel_rfl) (by kernel_rfl) (fun _ _ _ h => h) (Or.inl ⟨by rfl, fun wx hx => by simp [go_sem]⟩) hS ?_
              simp only [Act.put, List.getElem_toArray, List.getElem_cons_succ, List.getElem_cons_zero, List.setIfInBounds_toArray, List.set_cons_zero, List.set_cons_succ]
              refine wpAnyH_take (i := 2) (v := .slice (some ⟨b1, o1, none⟩) nl cl) rfl (by kernel_rfl) (by kernel_rfl) (by kernel_rfl) (fun _ _ _ h => h) (Or.inl ⟨by rfl, fun wx hx => by simp [go_sem]⟩) hS ?_
              simp only [Act.put, List.getElem_toArray, List.getElem_cons_succ, List.getElem_cons_zero, List.setIfInBounds_toArray, List.set_cons_zero, List.set_cons_succ]
              refine wpAnyH_take (i := 3) (v := .int .i64 (k : Int)) rfl (by kernel_rfl) (by kernel_rfl) (by kernel_rfl) (fun _ _ _ h => h) (Or.inl ⟨by rfl, fun wx hx => by simp [go_sem]⟩) hS ?_
              simp only [Act.put, List.getElem_toArray, List.getElem_cons_succ, List.getElem_cons_zero, List.setIfInBounds_toArray, List.set_cons_zero, List.set_cons_succ]
              refine wpAnyH_take (i := 4) (v := .pointer (some ⟨b1, o1 + k * 98, none⟩)) rfl (by kernel_rfl) (by kernel_rfl) (by kernel_rfl) (fun _ _ _ h => h) (Or.inl ⟨by rfl, fun wx hx => by exact idx98 b1 o1 cl nl k hlt _ _ _ _ rfl rfl rfl _⟩) hS ?_
              simp only [Act.put, List.getElem_toArray, List.getElem_cons_succ, List.getElem_cons_zero, List.setIfInBounds_toArray, List.set_cons_zero, List.set_cons_succ]
              refine wpAnyH_take (i := 5) (v := .pointer (some ⟨b1, o1 + k * 98, none⟩)) rfl (by kernel_rfl) (by kernel_rfl) (by kernel_rfl) (fun _ _ _ h => h) (Or.inl ⟨by rfl, fun wx hx => by simp [go_sem]⟩) hS ?_
              simp only [Act.put, List.getElem_toArray, List.getElem_cons_succ, List.getElem_cons_zero, List.setIfInBounds_toArray, List.set_cons_zero, List.set_cons_succ]
              refine wpAnyH_take (i := 6) (v := .agg rt1.toArray) rfl (by kernel_rfl) (by kernel_rfl) (by kernel_rfl) (fun _ _ _ h => h) (Or.inl ⟨by rfl, fun wx hx => by exact load_run 27 _ rfl b1 (o1 + k * 98) rfl rt1 _ (HT1.out _ (HBI.out.trans (Below.mono hx HBI.out.size))) Tryd.underlying27 rfl HJ1.out⟩) hS ?_
              simp only [Act.put, List.getElem_toArray, List.getElem_cons_succ, List.getElem_cons_zero, List.setIfInBounds_toArray, List.set_cons_zero, List.set_cons_succ]
              refine wpAnyH_take (i := 7) (v := .slice (some ⟨b2, o2, none⟩) nm cm) rfl (by kernel_rfl) (by kernel_rfl) (by kernel_rfl) (fun _ _ _ h => h) (Or.inl ⟨by rfl, fun wx hx => by simp [go_sem]⟩) hS ?_
              simp only [Act.put, List.getElem_toArray, List.getElem_cons_succ, List.getElem_cons_zero, List.setIfInBounds_toArray, List.set_cons_zero, List.set_cons_succ]
              refine wpAnyH_take (i := 8) (v := .int .i64 (k : Int)) rfl (by kernel_rfl) (by kernel_rfl) (by kernel_rfl) (fun _ _ _ h => h) (Or.inl ⟨by rfl, fun wx hx => by simp [go_sem]⟩) hS ?_
              simp only [Act.put, List.getElem_toArray, List.getElem_cons_succ, List.getElem_cons_zero, List.setIfInBounds_toArray, List.set_cons_zero, List.set_cons_succ]
              refine wpAnyH_take (i := 9) (v := .pointer (some ⟨b2, o2 + k * 98, none⟩)) rfl (by kernel_rfl) (by kernel_rfl) (by kernel_rfl) (fun _ _ _ h => h) (Or.inl ⟨by rfl, fun wx hx => by exact idx98 b2 o2 cm nm k hmt _ _ _ _ rfl rfl rfl _⟩) hS ?_
              simp only [Act.put, List.getElem_toArray, List.getElem_cons_succ, List.getElem_cons_zero, List.setIfInBounds_toArray, List.set_cons_zero, List.set_cons_succ]
              refine wpAnyH_take (i := 10) (v := .pointer (some ⟨b2, o2 + k * 98, none⟩)) rfl (by kernel_rfl) (by kernel_rfl) (by kernel_rfl) (fun _ _ _ h => h) (Or.inl ⟨by rfl, fun wx hx => by simp [go_sem]⟩) hS ?_
              simp only [Act.put, List.getElem_toArray, List.getElem_cons_succ, List.getElem_cons_zero, List.setIfInBounds_toArray, List.set_cons_zero, List.set_cons_succ]
              refine wpAnyH_take (i := 11) (v := .agg rt2.toArray) rfl (by kernel_rfl) (by kernel_rfl) (by kernel_rfl) (fun _ _ _ h => h) (Or.inl ⟨by rfl, fun wx hx => by exact load_run 27 _ rfl b2 (o2 + k * 98) rfl rt2 _ (HT2.out _ (HBI.out.trans (Below.mono hx HBI.out.size))) Tryd.underlying27 rfl HJ2.out⟩) hS ?_
              simp only [Act.put, List.getElem_toArray, List.getElem_cons_succ, List.getElem_cons_zero, List.setIfInBounds_toArray, List.set_cons_zero, List.set_cons_succ]
              refine wpAnyH_take (i := 12) (v := .bool true) rfl (by kernel_rfl) (by kernel_rfl) (by kernel_rfl) (fun _ _ _ h => h) (Or.inl ⟨by rfl, fun wx hx => by simp [go_sem, heq]⟩) hS ?_
              simp only [Act.put, List.getElem_toArray, List.getElem_cons_succ, List.getElem_cons_zero, List.setIfInBounds_toArray, List.set_cons_zero, List.set_cons_succ]
              refine wpAnyH_take (i := 13) (v := .bool true) rfl (by kernel_rfl) (by kernel_rfl) (by kernel_rfl) (fun _ _ _ h => h) (Or.inl ⟨by rfl, fun wx hx => by simp [go_sem]⟩) hS ?_
              simp only [Act.put, List.getElem_toArray, List.getElem_cons_succ, List.getElem_cons_zero, List.setIfInBounds_toArray, List.set_cons_zero, List.set_cons_succ]
              refine wpAnyH_take (i := 14) (v := .bool true) rfl (by kernel_rfl) (by kernel_rfl) (by kernel_rfl) (fun _ _ _ h => h) (Or.inl ⟨by rfl, fun wx hx => by simp [go_sem]⟩) hS ?_
              simp only [Act.put, List.getElem_toArray, List.getElem_cons_succ, List.getElem_cons_zero, List.setIfInBounds_toArray, List.set_cons_zero, List.set_cons_succ]
              refine wpAnyH_done (by kernel_rfl) ?_ _
              go_wp2
              go_roundw
              case rel => exact ⟨k + 1, true, by omega, by simp, rfl, (by show _ = _; rw [anyU_more, ← HAU.out, Bool.false_or, ← HS.out, ← HT.out]; exact HNE.out), HBI.out.trans (Below.mono hS HBI.out.size)⟩
              case measure => simp [intOf]; omega
      | some e' =>
        have hok : ok = true := by rw [HOKF0.out, hF]; rfl
        have hee : e = e' := by rw [HEE.out, findE, hF]; rfl
        subst hee
        obtain ⟨i, hi1, hi2, hei, hc0⟩ := findF_is hF
        obtain ⟨nt, HNT⟩ : ∃ n, Hid (n = e.1.length) := ⟨_, rfl⟩
        have hkz : kz = (nt : Int) := by rw [HKZ.out]; unfold findZ; rw [hF, HNT.out]
        subst hok hkz
        have hge : (0 : Int) ≤ (nt : Int) := by omega
        have hel : e.1.length ≤ 40 := by rw [hei]; show (l.take i).length ≤ 40; rw [List.length_take]; omega
        have hall : ∀ s ∈ allE e, okS s ∧ s.2.length ≤ 524288 := by
          intro s hs
          rw [hei] at hs
          rcases List.mem_append.1 hs with hs | hs
          · exact ⟨HRL0.out.2 s (List.mem_of_mem_take hs), hsl s (List.mem_of_mem_take hs)⟩
          · rcases List.mem_cons.1 hs with rfl | hs
            · exact ⟨HRL0.out.2 _ (mem_getS hi1), hsl _ (mem_getS hi1)⟩
            · rw [List.mem_singleton.1 hs]; exact ⟨HRM0.out.2 _ (mem_getS hi2), hsm _ (mem_getS hi2)⟩
        have hokb : okB e := okB_light (by omega) hall
        have HK1 : Hid (∀ (W : World) (c : List Value), Below w.heap.size w W → EvB W e c → Calls Tryd.prog 11 #[.agg (cb pin).toArray, .agg c.toArray] W fun r w' => r = .returned (.int .i64 0) ∧ Below W.heap.size W w') := fun W c hh hc => by have h := hO.check W pin e c (hK.below hh hK.lt) HPL.out hc (by omega); rw [hc0] at h; exact h
        obtain ⟨bz, HBZ⟩ : ∃ c, Hid (c = bytesF e) := ⟨_, rfl⟩
        have HBY : Hid (∀ (W : World) (c : List Value), Below w.heap.size w W → EvB W e c → Calls Tryd.prog 18 #[.agg c.toArray] W fun r w' => ∃ v, r = .returned v ∧ Reads w' v bz ∧ Below W.heap.size W w') := fun W c hh hc => by rw [HBZ.out]; exact hO.bytes W e c (hK.below hh hK.lt) hc (by omega) (fun s hs => by have := (hall s hs).2; omega)
        have HAC : Hid (∀ (W : World) (v : Value), Below w.heap.size w W → Reads W v bz → Calls Tryd.prog 16 #[.agg (cb pin).toArray, v] W fun r w' => r = .returned (.int .i64 0) ∧ Below W.heap.size W w') := fun W v hh hv => by
          rw [HBZ.out] at hv
          have h := hO.accept W pin v (bytesF e) (hK.below hh hK.lt) HPL.out hv (bytesF_le (by omega) (fun s hs => ⟨(hall s hs).1, by have := (hall s hs).2; omega⟩))
          rw [show acceptF pin (bytesF e) = 0 from by unfold acceptF; rw [read_back hokb]; exact hc0] at h
          exact h
        clear hO hK hp hl hm hzl hzm HBL HBM hll hml hsl hsm hF HOKF0 HKZ HEE hi1 hi2 hei hc0 hel hall hokb HBZ
        go_enter Tryd.func6, Tryd.ntmps6
        have tk0 : Hid True := trivial
        have tk1 : Hid True := trivial
        have tk2 : Hid True := trivial
        have tk3 : Hid True := trivial
        have tk4 : Hid True := trivial
        have tk5 : Hid True := trivial
        have tk6 : Hid True := trivial
        have tk7 : Hid True := trivial
        have tk8 : Hid True := trivial
        go_upto_region 5 with (first
          | (clear tk0; with_reducible refine wpSeq_boxW 23 (.tmp 0) (cb pin) ?_ ?_ ?_ ?_
             · rfl
             · rfl
             · rfl
             intro g3 y1 nn
             replace HRL : Hid (ReadsS y1 (.slice adl nl cl) l) := HRL.out.below nn.below
             replace HRM : Hid (ReadsS y1 (.slice adm nm cm) m) := HRM.out.below nn.below
             replace HBW : Hid (Below w.heap.size w y1) := HBW.out.trans (nn.below.mono HBW.out.size)
             have H3 : Hid (Blk y1 g3 (cb pin) 23) := nn.blk
             clear nn
             skip)
          | (clear tk1; go_at_call 20; refine (HF1.out y1 HBW.out).mono ?_; rintro e y2 ⟨rfl, hbz⟩
             replace H3 : Hid (Blk y2 g3 (cb pin) 23) := H3.out.below hbz H3.out.lt
             replace HRL : Hid (ReadsS y2 (.slice adl nl cl) l) := HRL.out.below hbz
             replace HRM : Hid (ReadsS y2 (.slice adm nm cm) m) := HRM.out.below hbz
             replace HBW : Hid (Below w.heap.size w y2) := HBW.out.trans (hbz.mono HBW.out.size)
             clear hbz )
          | (clear tk2; go_at_call 20; refine (HF2.out y2 HBW.out).mono ?_; rintro e y3 ⟨rfl, hbz⟩
             replace H3 : Hid (Blk y3 g3 (cb pin) 23) := H3.out.below hbz H3.out.lt
             replace HRL : Hid (ReadsS y3 (.slice adl nl cl) l) := HRL.out.below hbz
             replace HRM : Hid (ReadsS y3 (.slice adm nm cm) m) := HRM.out.below hbz
             replace HBW : Hid (Below w.heap.size w y3) := HBW.out.trans (hbz.mono HBW.out.size)
             clear hbz )
          | (clear tk3; with_reducible refine wpSeq_loadW 23 (.tmp 3) g3 0 (cb pin) _ ?_ Tryd.underlying23 rfl ?_ ?_ ?_ ?_ ?_
             · exact H3.out.range
             · exact HIP.out
             · rfl
             · rfl
             · rfl)
          | (clear tk4; go_at_call 21; refine (HFD.out y3 HBW.out HRL.out HRM.out).mono ?_; rintro e y4 ⟨c7, rfl, hev, hbz⟩
             replace H3 : Hid (Blk y4 g3 (cb pin) 23) := H3.out.below hbz H3.out.lt
             replace HRL : Hid (ReadsS y4 (.slice adl nl cl) l) := HRL.out.below hbz
             replace HRM : Hid (ReadsS y4 (.slice adm nm cm) m) := HRM.out.below hbz
             replace HBW : Hid (Below w.heap.size w y4) := HBW.out.trans (hbz.mono HBW.out.size)
             have HE7 : Hid (EvOk e c7) := hev.ok
             obtain ⟨ad7, cc7, htr0⟩ := hev.ok.tr
             have HTR : Hid (∀ (W : World) (g : Nat), Blk W g c7 32 → W.cell? ⟨g, 0, none⟩ = some (.slice ad7 e.1.length cc7)) := htr0
             have HB7 : Hid (EvB y4 e c7) := hev
             clear hbz hev htr0)
          | (clear tk5; with_reducible refine wpSeq_allocE ?_ ?_ ?_
             · rfl
             · rfl
             intro g7 y5 nn)
          | (clear tk6; with_reducible refine wpSeq_storeRow 32 (.tmp 7) (.tmp 32) g7 (evC zeroE (.slice none 0 0) (.slice none 0 0) (.slice none 0 0)) c7 ?_ ?_ ?_ ?_ ?_ ?_ ?_ ?_ ?_
             · exact nn.blk
             · exact HE7.out.lz
             · exact HE7.out.info
             · exact HE7.out.one
             · rfl
             · rfl
             · rfl
             · rfl
             intro y6 hs
             have hbz := nn.below.trans (hs.only.below nn.ge nn.below.size)
             replace H3 : Hid (Blk y6 g3 (cb pin) 23) := H3.out.below hbz H3.out.lt
             replace HRL : Hid (ReadsS y6 (.slice adl nl cl) l) := HRL.out.below hbz
             replace HRM : Hid (ReadsS y6 (.slice adm nm cm) m) := HRM.out.below hbz
             replace HB7 : Hid (EvB y6 e c7) := HB7.out.below hbz
             replace HBW : Hid (Below w.heap.size w y6) := HBW.out.trans (hbz.mono HBW.out.size)
             have H7 : Hid (Blk y6 g7 c7 32) := hs.blk
             clear nn hs hbz)
          | (clear tk7; with_reducible refine wpSeq_loadW 23 (.tmp 3) g3 0 (cb pin) _ ?_ Tryd.underlying23 rfl ?_ ?_ ?_ ?_ ?_
             · exact H3.out.range
             · exact HIP.out
             · rfl
             · rfl
             · rfl)
          | (clear tk8; go_at_call 22; refine (HQF.out y6 HBW.out).mono ?_; rintro e y7 ⟨rfl, hbz⟩
             replace H3 : Hid (Blk y7 g3 (cb pin) 23) := H3.out.below hbz H3.out.lt
             replace H7 : Hid (Blk y7 g7 c7 32) := H7.out.below hbz H7.out.lt
             replace HRL : Hid (ReadsS y7 (.slice adl nl cl) l) := HRL.out.below hbz
             replace HRM : Hid (ReadsS y7 (.slice adm nm cm) m) := HRM.out.below hbz
             replace HB7 : Hid (EvB y7 e c7) := HB7.out.below hbz
             replace HBW : Hid (Below w.heap.size w y7) := HBW.out.trans (hbz.mono HBW.out.size)
             clear hbz ))
        refine wp_region_held_drew (S := Over (World.drew y7)) (by kernel_rfl) (Over.refl _) ?_
        intro hS
        replace H3 : Hid (Blk (World.drew y7) g3 (cb pin) 23) := H3.out.drew
        replace H7 : Hid (Blk (World.drew y7) g7 c7 32) := H7.out.drew
        replace HB7 : Hid (EvB (World.drew y7) e c7) := HB7.out.below (Below.refl _ _).drew
        replace HBW : Hid (Below w.heap.size w (World.drew y7)) := HBW.out.drew
        change wpAnyH _ _ _ _ _ _ _ _ (World.drew y7)
        generalize World.drew y7 = y0 at *
        try simp only [Act.put, List.setIfInBounds_toArray, List.set_cons_zero, List.set_cons_succ]
        refine wpAnyH_take (i := 0) (v := .bool true) rfl (by kernel_rfl) (by kernel_rfl) (by kernel_rfl) (fun _ _ _ h => h) (Or.inl ⟨by rfl, fun wx hx => by simp [go_sem]⟩) hS ?_
        simp only [Act.put, List.getElem_toArray, List.getElem_cons_zero, List.setIfInBounds_toArray, List.set_cons_zero, List.set_cons_succ]
        refine wpAnyH_take (i := 1) (v := .int .i64 (nt : Int)) rfl (by kernel_rfl) (by kernel_rfl) (by kernel_rfl) (fun _ _ _ h => h) (Or.inl ⟨by rfl, fun wx hx => by simp [go_sem]⟩) hS ?_
        simp only [Act.put, List.getElem_toArray, List.getElem_cons_succ, List.getElem_cons_zero, List.setIfInBounds_toArray, List.set_cons_zero, List.set_cons_succ]
        refine wpAnyH_take (i := 2) (v := .bool true) rfl (by kernel_rfl) (by kernel_rfl) (by kernel_rfl) (fun _ _ _ h => h) (Or.inl ⟨by rfl, fun wx hx => by simp [go_sem, hge]⟩) hS ?_
        simp only [Act.put, List.getElem_toArray, List.getElem_cons_succ, List.getElem_cons_zero, List.setIfInBounds_toArray, List.set_cons_zero, List.set_cons_succ]
        refine wpAnyH_take (i := 3) (v := .bool false) rfl (by kernel_rfl) (by kernel_rfl) (by kernel_rfl) (fun _ _ _ h => h) (Or.inl ⟨by rfl, fun wx hx => by simp [go_sem]⟩) hS ?_
        simp only [Act.put, List.getElem_toArray, List.getElem_cons_succ, List.getElem_cons_zero, List.setIfInBounds_toArray, List.set_cons_zero, List.set_cons_succ]
        refine wpAnyH_take (i := 4) (v := .bool false) rfl (by kernel_rfl) (by kernel_rfl) (by kernel_rfl) (fun _ _ _ h => h) (Or.inl ⟨by rfl, fun wx hx => by simp [go_sem]⟩) hS ?_
        simp only [Act.put, List.getElem_toArray, List.getElem_cons_succ, List.getElem_cons_zero, List.setIfInBounds_toArray, List.set_cons_zero, List.set_cons_succ]
        refine wpAnyH_take (i := 5) (v := .bool true) rfl (by kernel_rfl) (by kernel_rfl) (by kernel_rfl) (fun _ _ _ h => h) (Or.inl ⟨by rfl, fun wx hx => by simp [go_sem]⟩) hS ?_
        simp only [Act.put, List.getElem_toArray, List.getElem_cons_succ, List.getElem_cons_zero, List.setIfInBounds_toArray, List.set_cons_zero, List.set_cons_succ]
        refine wpAnyH_take (i := 6) (v := .bool true) rfl (by kernel_rfl) (by kernel_rfl) (by kernel_rfl) (fun _ _ _ h => h) (Or.inl ⟨by rfl, fun wx hx => by simp [go_sem]⟩) hS ?_
        simp only [Act.put, List.getElem_toArray, List.getElem_cons_succ, List.getElem_cons_zero, List.setIfInBounds_toArray, List.set_cons_zero, List.set_cons_succ]
        refine wpAnyH_take (i := 7) (v := .agg (cb pin).toArray) rfl (by kernel_rfl) (by kernel_rfl) (by kernel_rfl) (fun _ _ _ h => h) (Or.inl ⟨by rfl, fun wx hx => by exact loadDigest _ g3 pin HPL.out (H3.out.below hx H3.out.lt) rfl rfl⟩) hS ?_
        simp only [Act.put, List.getElem_toArray, List.getElem_cons_succ, List.getElem_cons_zero, List.setIfInBounds_toArray, List.set_cons_zero, List.set_cons_succ]
        refine wpAnyH_take (i := 8) (v := .agg c7.toArray) rfl (by kernel_rfl) (by kernel_rfl) (by kernel_rfl) (fun _ _ _ h => h) (Or.inl ⟨by rfl, fun wx hx => by exact load_run 32 _ rfl g7 0 rfl c7 _ (H7.out.below hx H7.out.lt).range Tryd.underlying32 rfl HE7.out.info⟩) hS ?_
        simp only [Act.put, List.getElem_toArray, List.getElem_cons_succ, List.getElem_cons_zero, List.setIfInBounds_toArray, List.set_cons_zero, List.set_cons_succ]
        refine wpAnyH_enter 9 (by kernel_rfl) rfl (by rfl) (f := 11) (args := #[.agg (cb pin).toArray, .agg c7.toArray]) (by simp [go_sem]) (HK1.out _ c7 (HBW.out.trans (Below.mono hS HBW.out.size)) (HB7.out.below hS)) ?_
        rintro e z1 ⟨rfl, hb⟩
        replace hS := Over.more hS hb
        refine ⟨_, rfl, hS, ?_⟩
        clear hb 
        simp only [Act.put, List.getElem_toArray, List.getElem_cons_succ, List.getElem_cons_zero, List.setIfInBounds_toArray, List.set_cons_zero, List.set_cons_succ]
        refine wpAnyH_take (i := 10) (v := .bool false) rfl (by kernel_rfl) (by kernel_rfl) (by kernel_rfl) (fun _ _ _ h => h) (Or.inl ⟨by rfl, fun wx hx => by simp [go_sem]⟩) hS ?_
        simp only [Act.put, List.getElem_toArray, List.getElem_cons_succ, List.getElem_cons_zero, List.setIfInBounds_toArray, List.set_cons_zero, List.set_cons_succ]
        refine wpAnyH_take (i := 11) (v := .bool false) rfl (by kernel_rfl) (by kernel_rfl) (by kernel_rfl) (fun _ _ _ h => h) (Or.inl ⟨by rfl, fun wx hx => by simp [go_sem]⟩) hS ?_
        simp only [Act.put, List.getElem_toArray, List.getElem_cons_succ, List.getElem_cons_zero, List.setIfInBounds_toArray, List.set_cons_zero, List.set_cons_succ]
        refine wpAnyH_take (i := 12) (v := .agg (cb pin).toArray) rfl (by kernel_rfl) (by kernel_rfl) (by kernel_rfl) (fun _ _ _ h => h) (Or.inl ⟨by rfl, fun wx hx => by exact loadDigest _ g3 pin HPL.out (H3.out.below hx H3.out.lt) rfl rfl⟩) hS ?_
        simp only [Act.put, List.getElem_toArray, List.getElem_cons_succ, List.getElem_cons_zero, List.setIfInBounds_toArray, List.set_cons_zero, List.set_cons_succ]
        refine wpAnyH_take (i := 13) (v := .agg c7.toArray) rfl (by kernel_rfl) (by kernel_rfl) (by kernel_rfl) (fun _ _ _ h => h) (Or.inl ⟨by rfl, fun wx hx => by exact load_run 32 _ rfl g7 0 rfl c7 _ (H7.out.below hx H7.out.lt).range Tryd.underlying32 rfl HE7.out.info⟩) hS ?_
        simp only [Act.put, List.getElem_toArray, List.getElem_cons_succ, List.getElem_cons_zero, List.setIfInBounds_toArray, List.set_cons_zero, List.set_cons_succ]
        refine wpAnyH_enter 14 (by kernel_rfl) rfl (by rfl) (f := 18) (args := #[.agg c7.toArray]) (by simp [go_sem]) (HBY.out _ c7 (HBW.out.trans (Below.mono hS HBW.out.size)) (HB7.out.below hS)) ?_
        rintro e z2 ⟨vb, rfl, hvb, hb⟩
        replace hS := Over.more hS hb
        refine ⟨_, rfl, hS, ?_⟩
        clear hb 
        simp only [Act.put, List.getElem_toArray, List.getElem_cons_succ, List.getElem_cons_zero, List.setIfInBounds_toArray, List.set_cons_zero, List.set_cons_succ]
        refine wpAnyH_enter 15 (by kernel_rfl) rfl (by rfl) (f := 16) (args := #[.agg (cb pin).toArray, vb]) (by simp [go_sem]) (HAC.out _ vb (HBW.out.trans (Below.mono hS HBW.out.size)) hvb) ?_
        rintro e z3 ⟨rfl, hb⟩
        replace hS := Over.more hS hb
        refine ⟨_, rfl, hS, ?_⟩
        clear hb hvb
        simp only [Act.put, List.getElem_toArray, List.getElem_cons_succ, List.getElem_cons_zero, List.setIfInBounds_toArray, List.set_cons_zero, List.set_cons_succ]
        refine wpAnyH_take (i := 16) (v := .bool false) rfl (by kernel_rfl) (by kernel_rfl) (by kernel_rfl) (fun _ _ _ h => h) (Or.inl ⟨by rfl, fun wx hx => by simp [go_sem]⟩) hS ?_
        simp only [Act.put, List.getElem_toArray, List.getElem_cons_succ, List.getElem_cons_zero, List.setIfInBounds_toArray, List.set_cons_zero, List.set_cons_succ]
        refine wpAnyH_take (i := 17) (v := .bool false) rfl (by kernel_rfl) (by kernel_rfl) (by kernel_rfl) (fun _ _ _ h => h) (Or.inl ⟨by rfl, fun wx hx => by simp [go_sem]⟩) hS ?_
        simp only [Act.put, List.getElem_toArray, List.getElem_cons_succ, List.getElem_cons_zero, List.setIfInBounds_toArray, List.set_cons_zero, List.set_cons_succ]
        refine wpAnyH_take (i := 18) (v := .bool false) rfl (by kernel_rfl) (by kernel_rfl) (by kernel_rfl) (fun _ _ _ h => h) (Or.inl ⟨by rfl, fun wx hx => by simp [go_sem]⟩) hS ?_
        simp only [Act.put, List.getElem_toArray, List.getElem_cons_succ, List.getElem_cons_zero, List.setIfInBounds_toArray, List.set_cons_zero, List.set_cons_succ]
        refine wpAnyH_take (i := 19) (v := .pointer (some ⟨g7, 0, none⟩)) rfl (by kernel_rfl) (by kernel_rfl) (by kernel_rfl) (fun _ _ _ h => h) (Or.inl ⟨by rfl, fun wx hx => by simp [go_sem]⟩) hS ?_
        simp only [Act.put, List.getElem_toArray, List.getElem_cons_succ, List.getElem_cons_zero, List.setIfInBounds_toArray, List.set_cons_zero, List.set_cons_succ]
        refine wpAnyH_take (i := 20) (v := .slice ad7 nt cc7) rfl (by kernel_rfl) (by kernel_rfl) (by kernel_rfl) (fun _ _ _ h => h) (Or.inl ⟨by rfl, fun wx hx => by (have hc : wx.cell? ⟨g7, 0, none⟩ = some (.slice ad7 nt cc7) := by rw [HNT.out]; exact HTR.out _ _ (H7.out.below hx H7.out.lt)); simp [go_sem, hc]⟩) hS ?_
        simp only [Act.put, List.getElem_toArray, List.getElem_cons_succ, List.getElem_cons_zero, List.setIfInBounds_toArray, List.set_cons_zero, List.set_cons_succ]
        refine wpAnyH_take (i := 21) (v := .int .i64 (nt : Int)) rfl (by kernel_rfl) (by kernel_rfl) (by kernel_rfl) (fun _ _ _ h => h) (Or.inl ⟨by rfl, fun wx hx => by simp [go_sem]⟩) hS ?_
        simp only [Act.put, List.getElem_toArray, List.getElem_cons_succ, List.getElem_cons_zero, List.setIfInBounds_toArray, List.set_cons_zero, List.set_cons_succ]
        refine wpAnyH_take (i := 22) (v := .int .i64 (nt : Int)) rfl (by kernel_rfl) (by kernel_rfl) (by kernel_rfl) (fun _ _ _ h => h) (Or.inl ⟨by rfl, fun wx hx => by simp [go_sem]⟩) hS ?_
        simp only [Act.put, List.getElem_toArray, List.getElem_cons_succ, List.getElem_cons_zero, List.setIfInBounds_toArray, List.set_cons_zero, List.set_cons_succ]
        refine wpAnyH_take (i := 23) (v := .bool false) rfl (by kernel_rfl) (by kernel_rfl) (by kernel_rfl) (fun _ _ _ h => h) (Or.inl ⟨by rfl, fun wx hx => by simp [go_sem]⟩) hS ?_
        simp only [Act.put, List.getElem_toArray, List.getElem_cons_succ, List.getElem_cons_zero, List.setIfInBounds_toArray, List.set_cons_zero, List.set_cons_succ]
        refine wpAnyH_take (i := 24) (v := .bool false) rfl (by kernel_rfl) (by kernel_rfl) (by kernel_rfl) (fun _ _ _ h => h) (Or.inl ⟨by rfl, fun wx hx => by simp [go_sem]⟩) hS ?_
        simp only [Act.put, List.getElem_toArray, List.getElem_cons_succ, List.getElem_cons_zero, List.setIfInBounds_toArray, List.set_cons_zero, List.set_cons_succ]
        refine wpAnyH_take (i := 25) (v := .bool false) rfl (by kernel_rfl) (by kernel_rfl) (by kernel_rfl) (fun _ _ _ h => h) (Or.inl ⟨by rfl, fun wx hx => by simp [go_sem]⟩) hS ?_
        simp only [Act.put, List.getElem_toArray, List.getElem_cons_succ, List.getElem_cons_zero, List.setIfInBounds_toArray, List.set_cons_zero, List.set_cons_succ]
        refine wpAnyH_take (i := 26) (v := .bool false) rfl (by kernel_rfl) (by kernel_rfl) (by kernel_rfl) (fun _ _ _ h => h) (Or.inl ⟨by rfl, fun wx hx => by simp [go_sem]⟩) hS ?_
        simp only [Act.put, List.getElem_toArray, List.getElem_cons_succ, List.getElem_cons_zero, List.setIfInBounds_toArray, List.set_cons_zero, List.set_cons_succ]
        refine wpAnyH_done (by kernel_rfl) ?_ _
        replace H3 : Hid (Blk z3 g3 (cb pin) 23) := H3.out.below hS H3.out.lt
        replace HBW : Hid (Below w.heap.size w z3) := HBW.out.trans (Below.mono hS HBW.out.size)
        replace HRL : Hid (ReadsS z3 (.slice adl nl cl) l) := HRL0.out.below HBW.out
        replace HRM : Hid (ReadsS z3 (.slice adm nm cm) m) := HRM0.out.below HBW.out
        clear hS H7 HB7 HE7 HTR
        generalize z3 = zz at *
        have tk100 : Hid True := trivial
        have tk101 : Hid True := trivial
        have tk102 : Hid True := trivial
        have tk103 : Hid True := trivial
        have tk104 : Hid True := trivial
        have tk105 : Hid True := trivial
        have tk106 : Hid True := trivial
        have tk107 : Hid True := trivial
        have tk108 : Hid True := trivial
        have tk109 : Hid True := trivial
        go_wp2_with (first
          | (clear tk100; with_reducible refine wpSeq_loadW 23 (.tmp 3) g3 0 (cb pin) _ ?_ Tryd.underlying23 rfl ?_ ?_ ?_ ?_ ?_
             · exact H3.out.range
             · exact HIP.out
             · rfl
             · rfl
             · rfl)
          | (clear tk101; go_at_call 24; refine (HST.out zz).mono ?_; rintro e y101 ⟨rfl, hbz⟩
             replace H3 : Hid (Blk y101 g3 (cb pin) 23) := H3.out.below hbz H3.out.lt
             replace HRL : Hid (ReadsS y101 (.slice adl nl cl) l) := HRL.out.below hbz
             replace HRM : Hid (ReadsS y101 (.slice adm nm cm) m) := HRM.out.below hbz
             replace HBW : Hid (Below w.heap.size w y101) := HBW.out.trans (hbz.mono HBW.out.size)
             clear hbz )
          | (clear tk102; go_at_call 23; refine (HWL.out y101 HBW.out).mono ?_; rintro e y102 ⟨rfl, hbz⟩
             replace H3 : Hid (Blk y102 g3 (cb pin) 23) := H3.out.below hbz H3.out.lt
             replace HRL : Hid (ReadsS y102 (.slice adl nl cl) l) := HRL.out.below hbz
             replace HRM : Hid (ReadsS y102 (.slice adm nm cm) m) := HRM.out.below hbz
             replace HBW : Hid (Below w.heap.size w y102) := HBW.out.trans (hbz.mono HBW.out.size)
             clear hbz )
          | (clear tk103; with_reducible refine wpSeq_allocH ?_ ?_ ?_
             · rfl
             · rfl
             intro g10 y103 nn)
          | (clear tk104; with_reducible refine wpSeq_storeRow 50 (.tmp 10) (.tmp 70) g10 (hdC zeroH) (hdC hL) ?_ ?_ ?_ ?_ ?_ ?_ ?_ ?_ ?_
             · exact nn.blk
             · first | (with_reducible rfl) | rw [len_hdC HOL.out, len_hdC okH_zero]
             · exact info_hdC HOL.out
             · exact hdC_one _
             · rfl
             · rfl
             · rfl
             · rfl
             intro y104 hs
             have hbz := nn.below.trans (hs.only.below nn.ge nn.below.size)
             replace H3 : Hid (Blk y104 g3 (cb pin) 23) := H3.out.below hbz H3.out.lt
             replace HRL : Hid (ReadsS y104 (.slice adl nl cl) l) := HRL.out.below hbz
             replace HRM : Hid (ReadsS y104 (.slice adm nm cm) m) := HRM.out.below hbz
             replace HBW : Hid (Below w.heap.size w y104) := HBW.out.trans (hbz.mono HBW.out.size)
             have H10 : Hid (Blk y104 g10 (hdC hL) 50) := hs.blk
             clear nn hs hbz)
          | (clear tk105; with_reducible refine wpSeq_loadW 23 (.tmp 3) g3 0 (cb pin) _ ?_ Tryd.underlying23 rfl ?_ ?_ ?_ ?_ ?_
             · exact H3.out.range
             · exact HIP.out
             · rfl
             · rfl
             · rfl)
          | (clear tk106; go_at_call 24; refine (HST.out y104).mono ?_; rintro e y105 ⟨rfl, hbz⟩
             replace H3 : Hid (Blk y105 g3 (cb pin) 23) := H3.out.below hbz H3.out.lt
             replace H10 : Hid (Blk y105 g10 (hdC hL) 50) := H10.out.below hbz H10.out.lt
             replace HRL : Hid (ReadsS y105 (.slice adl nl cl) l) := HRL.out.below hbz
             replace HRM : Hid (ReadsS y105 (.slice adm nm cm) m) := HRM.out.below hbz
             replace HBW : Hid (Below w.heap.size w y105) := HBW.out.trans (hbz.mono HBW.out.size)
             clear hbz )
          | (clear tk107; go_at_call 23; refine (HWM.out y105 HBW.out).mono ?_; rintro e y106 ⟨rfl, hbz⟩
             replace H3 : Hid (Blk y106 g3 (cb pin) 23) := H3.out.below hbz H3.out.lt
             replace H10 : Hid (Blk y106 g10 (hdC hL) 50) := H10.out.below hbz H10.out.lt
             replace HRL : Hid (ReadsS y106 (.slice adl nl cl) l) := HRL.out.below hbz
             replace HRM : Hid (ReadsS y106 (.slice adm nm cm) m) := HRM.out.below hbz
             replace HBW : Hid (Below w.heap.size w y106) := HBW.out.trans (hbz.mono HBW.out.size)
             clear hbz )
          | (clear tk108; with_reducible refine wpSeq_allocH ?_ ?_ ?_
             · rfl
             · rfl
             intro g13 y107 nn)
          | (clear tk109; with_reducible refine wpSeq_storeRow 50 (.tmp 13) (.tmp 78) g13 (hdC zeroH) (hdC hM) ?_ ?_ ?_ ?_ ?_ ?_ ?_ ?_ ?_
             · exact nn.blk
             · first | (with_reducible rfl) | rw [len_hdC HOM.out, len_hdC okH_zero]
             · exact info_hdC HOM.out
             · exact hdC_one _
             · rfl
             · rfl
             · rfl
             · rfl
             intro y108 hs
             have hbz := nn.below.trans (hs.only.below nn.ge nn.below.size)
             replace H3 : Hid (Blk y108 g3 (cb pin) 23) := H3.out.below hbz H3.out.lt
             replace H10 : Hid (Blk y108 g10 (hdC hL) 50) := H10.out.below hbz H10.out.lt
             replace HRL : Hid (ReadsS y108 (.slice adl nl cl) l) := HRL.out.below hbz
             replace HRM : Hid (ReadsS y108 (.slice adm nm cm) m) := HRM.out.below hbz
             replace HBW : Hid (Below w.heap.size w y108) := HBW.out.trans (hbz.mono HBW.out.size)
             have H13 : Hid (Blk y108 g13 (hdC hM) 50) := hs.blk
             clear nn hs hbz))
        have HBI0 : Hid (Below w.heap.size w y108) := HBW.out
        clear HBW H3 H10 H13 HRL HRM
        go_loopw [16, 17] (fun u i wr => ∃ (k : Nat) (z : Bool), (k ≤ nl ∧ k ≤ nm) ∧ i = .int .i64 (k : Int) ∧ u = .bool z ∧ Hid (z = anyU l m k) ∧ Hid (Below w.heap.size w wr)) (fun _ i _ => nl - (intOf i).toNat)
        case atStart => exact ⟨0, false, by omega, rfl, rfl, rfl, HBI0⟩
        case round =>
          obtain ⟨k, z, hkn, rfl, rfl, HAU, HBI⟩ := hrel
          clear HBI0
          by_cases hlt : k < nl
          case neg =>
            have hlk : ¬ ((k : Int) < (nl : Int)) := by omega
            have HAE : Hid (z = (firstU l m).isSome) := by show _ = _; rw [HAU.out]; exact anyU_end (by rw [← HNL.out, ← HNM.out]; omega) (by rw [← HNL.out, ← HNM.out]; omega)
            by_cases haL : aL = 0
            case neg =>
              have qL : (aL == 0) = false := by rw [beq_eq_false_iff_ne]; exact haL
              have pL : (aL != 0) = true := by rw [bne, qL]; rfl
              clear haL
              have tk120 : Hid True := trivial
              go_wp2_with (first
                | (clear tk120; go_at_call 10; refine (HW.out wr HBI.out).mono ?_; rintro e y121 ⟨rfl, hbz⟩
                   replace HBI : Hid (Below w.heap.size w y121) := HBI.out.trans (hbz.mono HBI.out.size)
                   clear hbz ))
              go_ret
              exact ⟨rfl, HBI.out⟩
            case pos =>
              have qL : (aL == 0) = true := by rw [beq_iff_eq]; exact haL
              have pL : (aL != 0) = false := by rw [bne, qL]; rfl
              by_cases haM : aM = 0
              case neg =>
                have qM : (aM == 0) = false := by rw [beq_eq_false_iff_ne]; exact haM
                have pM : (aM != 0) = true := by rw [bne, qM]; rfl
                clear haL haM
                have tk120 : Hid True := trivial
                go_wp2_with (first
                  | (clear tk120; go_at_call 10; refine (HW.out wr HBI.out).mono ?_; rintro e y121 ⟨rfl, hbz⟩
                     replace HBI : Hid (Below w.heap.size w y121) := HBI.out.trans (hbz.mono HBI.out.size)
                     clear hbz ))
                go_ret
                exact ⟨rfl, HBI.out⟩
              case pos =>
                have qM : (aM == 0) = true := by rw [beq_iff_eq]; exact haM
                have pM : (aM != 0) = false := by rw [bne, qM]; rfl
                have hz : z = true := by rw [HAE.out]; exact (HBOTH.out haL haM).symm
                subst hz
                clear haL haM
                have tk120 : Hid True := trivial
                go_wp2_with (first
                  | (clear tk120; go_at_call 10; refine (HW.out wr HBI.out).mono ?_; rintro e y121 ⟨rfl, hbz⟩
                     replace HBI : Hid (Below w.heap.size w y121) := HBI.out.trans (hbz.mono HBI.out.size)
                     clear hbz ))
                go_ret
                exact ⟨rfl, HBI.out⟩
          have hlk : (k : Int) < (nl : Int) := by omega
          by_cases hmt : k < nm
          case neg =>
            have hmk : ¬ ((k : Int) < (nm : Int)) := by omega
            have HAE : Hid (z = (firstU l m).isSome) := by show _ = _; rw [HAU.out]; exact anyU_end (by rw [← HNL.out, ← HNM.out]; omega) (by rw [← HNL.out, ← HNM.out]; omega)
            by_cases haL : aL = 0
            case neg =>
              have qL : (aL == 0) = false := by rw [beq_eq_false_iff_ne]; exact haL
              have pL : (aL != 0) = true := by rw [bne, qL]; rfl
              clear haL
              have tk120 : Hid True := trivial
              go_wp2_with (first
                | (clear tk120; go_at_call 10; refine (HW.out wr HBI.out).mono ?_; rintro e y121 ⟨rfl, hbz⟩
                   replace HBI : Hid (Below w.heap.size w y121) := HBI.out.trans (hbz.mono HBI.out.size)
                   clear hbz ))
              go_ret
              exact ⟨rfl, HBI.out⟩
            case pos =>
              have qL : (aL == 0) = true := by rw [beq_iff_eq]; exact haL
              have pL : (aL != 0) = false := by rw [bne, qL]; rfl
              by_cases haM : aM = 0
              case neg =>
                have qM : (aM == 0) = false := by rw [beq_eq_false_iff_ne]; exact haM
                have pM : (aM != 0) = true := by rw [bne, qM]; rfl
                clear haL haM
                have tk120 : Hid True := trivial
                go_wp2_with (first
                  | (clear tk120; go_at_call 10; refine (HW.out wr HBI.out).mono ?_; rintro e y121 ⟨rfl, hbz⟩
                     replace HBI : Hid (Below w.heap.size w y121) := HBI.out.trans (hbz.mono HBI.out.size)
                     clear hbz ))
                go_ret
                exact ⟨rfl, HBI.out⟩
              case pos =>
                have qM : (aM == 0) = true := by rw [beq_iff_eq]; exact haM
                have pM : (aM != 0) = false := by rw [bne, qM]; rfl
                have hz : z = true := by rw [HAE.out]; exact (HBOTH.out haL haM).symm
                subst hz
                clear haL haM
                have tk120 : Hid True := trivial
                go_wp2_with (first
                  | (clear tk120; go_at_call 10; refine (HW.out wr HBI.out).mono ?_; rintro e y121 ⟨rfl, hbz⟩
                     replace HBI : Hid (Below w.heap.size w y121) := HBI.out.trans (hbz.mono HBI.out.size)
                     clear hbz ))
                go_ret
                exact ⟨rfl, HBI.out⟩
          have hmk : (k : Int) < (nm : Int) := by omega
          have f5 : IntKind.i64.wrap ((k : Int) + 1) = (k : Int) + 1 := by rw [IntKind.wrap_i64]; have := HL40.out; omega
          have HL1 : Hid (k < l.length) := by show _ < _; rw [← HNL.out]; exact hlt
          have HL2 : Hid (k < m.length) := by show _ < _; rw [← HNM.out]; exact hmt
          obtain ⟨b1, o1, c1, hv1, hat1⟩ := HRL0.out.at (Nat.lt_of_le_of_lt (Nat.zero_le _) HL1.out)
          obtain ⟨b2, o2, c2, hv2, hat2⟩ := HRM0.out.at (Nat.lt_of_le_of_lt (Nat.zero_le _) HL2.out)
          simp only [Value.slice.injEq] at hv1 hv2
          obtain ⟨rfl, hn1, rfl⟩ := hv1
          obtain ⟨rfl, hn2, rfl⟩ := hv2
          clear hn1 hn2
          cases z with
          | true =>
            clear hat1 hat2
            go_wp2
            refine wp_region_held_drew (S := Over (World.drew wr)) (by kernel_rfl) (Over.refl _) ?_
            intro hS
            replace HBI : Hid (Below w.heap.size w (World.drew wr)) := HBI.out.drew
            change wpAnyH _ _ _ _ _ _ _ _ (World.drew wr)
            generalize World.drew wr = y0 at *
            try simp only [Act.put, List.setIfInBounds_toArray, List.set_cons_zero, List.set_cons_succ]
            refine wpAnyH_take (i := 0) (v := .bool true) rfl (by kernel_rfl) (by kernel_rfl) (by kernel_rfl) (fun _ _ _ h => h) (Or.inl ⟨by rfl, fun wx hx => by simp [go_sem]⟩) hS ?_
            simp only [Act.put, List.getElem_toArray, List.getElem_cons_zero, List.setIfInBounds_toArray, List.set_cons_zero, List.set_cons_succ]
            refine wpAnyH_take (i := 1) (v := .bool true) rfl (by kernel_rfl) (by kernel_rfl) (by kernel_rfl) (fun _ _ _ h => h) (Or.inl ⟨by rfl, fun wx hx => by simp [go_sem]⟩) hS ?_
            simp only [Act.put, List.getElem_toArray, List.getElem_cons_succ, List.getElem_cons_zero, List.setIfInBounds_toArray, List.set_cons_zero, List.set_cons_succ]
            refine wpAnyH_take (i := 2) (v := undef) rfl (by kernel_rfl) (by kernel_rfl) (by kernel_rfl) (fun _ _ _ h => h) (Or.inr ⟨by rfl, rfl⟩) hS ?_
            simp only [Act.put, List.getElem_toArray, List.getElem_cons_succ, List.getElem_cons_zero, List.setIfInBounds_toArray, List.set_cons_zero, List.set_cons_succ]
            refine wpAnyH_take (i := 3) (v := undef) rfl (by kernel_rfl) (by kernel_rfl) (by kernel_rfl) (fun _ _ _ h => h) (Or.inr ⟨by rfl, rfl⟩) hS ?_
            simp only [Act.put, List.getElem_toArray, List.getElem_cons_succ, List.getElem_cons_zero, List.setIfInBounds_toArray, List.set_cons_zero, List.set_cons_succ]
            refine wpAnyH_take (i := 4) (v := undef) rfl (by kernel_rfl) (by kernel_rfl) (by kernel_rfl) (fun _ _ _ h => h) (Or.inr ⟨by rfl, rfl⟩) hS ?_
            simp only [Act.put, List.getElem_toArray, List.getElem_cons_succ, List.getElem_cons_zero, List.setIfInBounds_toArray, List.set_cons_zero, List.set_cons_succ]
            refine wpAnyH_take (i := 5) (v := undef) rfl (by kernel_rfl) (by kernel_rfl) (by kernel_rfl) (fun _ _ _ h => h) (Or.inr ⟨by rfl, rfl⟩) hS ?_
            simp only [Act.put, List.getElem_toArray, List.getElem_cons_succ, List.getElem_cons_zero, List.setIfInBounds_toArray, List.set_cons_zero, List.set_cons_succ]
            refine wpAnyH_take (i := 6) (v := undef) rfl (by kernel_rfl) (by kernel_rfl) (by kernel_rfl) (fun _ _ _ h => h) (Or.inr ⟨by rfl, rfl⟩) hS ?_
            simp only [Act.put, List.getElem_toArray, List.getElem_cons_succ, List.getElem_cons_zero, List.setIfInBounds_toArray, List.set_cons_zero, List.set_cons_succ]
            refine wpAnyH_take (i := 7) (v := undef) rfl (by kernel_rfl) (by kernel_rfl) (by kernel_rfl) (fun _ _ _ h => h) (Or.inr ⟨by rfl, rfl⟩) hS ?_
            simp only [Act.put, List.getElem_toArray, List.getElem_cons_succ, List.getElem_cons_zero, List.setIfInBounds_toArray, List.set_cons_zero, List.set_cons_succ]
            refine wpAnyH_take (i := 8) (v := undef) rfl (by kernel_rfl) (by kernel_rfl) (by kernel_rfl) (fun _ _ _ h => h) (Or.inr ⟨by rfl, rfl⟩) hS ?_
            simp only [Act.put, List.getElem_toArray, List.getElem_cons_succ, List.getElem_cons_zero, List.setIfInBounds_toArray, List.set_cons_zero, List.set_cons_succ]
            refine wpAnyH_take (i := 9) (v := undef) rfl (by kernel_rfl) (by kernel_rfl) (by kernel_rfl) (fun _ _ _ h => h) (Or.inr ⟨by rfl, rfl⟩) hS ?_
            simp only [Act.put, List.getElem_toArray, List.getElem_cons_succ, List.getElem_cons_zero, List.setIfInBounds_toArray, List.set_cons_zero, List.set_cons_succ]
            refine wpAnyH_take (i := 10) (v := undef) rfl (by kernel_rfl) (by kernel_rfl) (by kernel_rfl) (fun _ _ _ h => h) (Or.inr ⟨by rfl, rfl⟩) hS ?_
            simp only [Act.put, List.getElem_toArray, List.getElem_cons_succ, List.getElem_cons_zero, List.setIfInBounds_toArray, List.set_cons_zero, List.set_cons_succ]
            refine wpAnyH_take (i := 11) (v := undef) rfl (by kernel_rfl) (by kernel_rfl) (by kernel_rfl) (fun _ _ _ h => h) (Or.inr ⟨by rfl, rfl⟩) hS ?_
            simp only [Act.put, List.getElem_toArray, List.getElem_cons_succ, List.getElem_cons_zero, List.setIfInBounds_toArray, List.set_cons_zero, List.set_cons_succ]
            refine wpAnyH_take (i := 12) (v := undef) rfl (by kernel_rfl) (by kernel_rfl) (by kernel_rfl) (fun _ _ _ h => h) (Or.inr ⟨by rfl, rfl⟩) hS ?_
            simp only [Act.put, List.getElem_toArray, List.getElem_cons_succ, List.getElem_cons_zero, List.setIfInBounds_toArray, List.set_cons_zero, List.set_cons_succ]
            refine wpAnyH_take (i := 13) (v := .bool true) rfl (by kernel_rfl) (by kernel_rfl) (by kernel_rfl) (fun _ _ _ h => h) (Or.inl ⟨by rfl, fun wx hx => by simp [go_sem]⟩) hS ?_
            simp only [Act.put, List.getElem_toArray, List.getElem_cons_succ, List.getElem_cons_zero, List.setIfInBounds_toArray, List.set_cons_zero, List.set_cons_succ]
            refine wpAnyH_take (i := 14) (v := .bool true) rfl (by kernel_rfl) (by kernel_rfl) (by kernel_rfl) (fun _ _ _ h => h) (Or.inl ⟨by rfl, fun wx hx => by simp [go_sem]⟩) hS ?_
            simp only [Act.put, List.getElem_toArray, List.getElem_cons_succ, List.getElem_cons_zero, List.setIfInBounds_toArray, List.set_cons_zero, List.set_cons_succ]
            refine wpAnyH_done (by kernel_rfl) ?_ _
            go_wp2
            go_roundw
            case rel => exact ⟨k + 1, true, by omega, by simp, rfl, (by show _ = _; rw [anyU_more, ← HAU.out]; rfl), HBI.out.trans (Below.mono hS HBI.out.size)⟩
            case measure => simp [intOf]; omega
          | false =>
            obtain ⟨v1, hs1, hr1⟩ := hat1 k HL1.out
            obtain ⟨v2, hs2, hr2⟩ := hat2 k HL2.out
            obtain ⟨s, HS⟩ : ∃ s, Hid (s = l.getD k zeroS) := ⟨_, rfl⟩
            obtain ⟨t, HT⟩ : ∃ t, Hid (t = m.getD k zeroS) := ⟨_, rfl⟩
            rw [← HS.out] at hs1 hr1
            rw [← HT.out] at hs2 hr2
            obtain ⟨rt1, HRT1⟩ : ∃ c, Hid (c = rtC s) := ⟨_, rfl⟩
            obtain ⟨rt2, HRT2⟩ : ∃ c, Hid (c = rtC t) := ⟨_, rfl⟩
            have HT1 : Hid (∀ W : World, Below w.heap.size w W → W.rangeAt b1 (o1 + k * 98) rt1) := fun W hh => by rw [HRT1.out]; exact (hs1.below hh (Nat.le_refl _)).root
            have HT2 : Hid (∀ W : World, Below w.heap.size w W → W.rangeAt b2 (o2 + k * 98) rt2) := fun W hh => by rw [HRT2.out]; exact (hs2.below hh (Nat.le_refl _)).root
            have HJ1 : Hid ((Tryd.prog.info? 27).map (·.size) = some rt1.length) := by show _ = _; rw [HRT1.out]; exact info_rtC hs1.ok
            have HJ2 : Hid ((Tryd.prog.info? 27).map (·.size) = some rt2.length) := by show _ = _; rw [HRT2.out]; exact info_rtC hs2.ok
            obtain ⟨r, HRK⟩ : ∃ r, Hid (r = decide (s.1 = t.1)) := ⟨_, rfl⟩
            have heq : ∀ wx : World, (Op.equalIn 10000 27 (.agg rt1.toArray) (.agg rt2.toArray)).run Tryd.prog wx = .ok r wx := fun wx => by rw [HRT1.out, HRT2.out, HRK.out]; exact eq_rt _ _ hs1.ok hs2.ok wx
            clear hat1 hat2 hs1 hs2 hr1 hr2 HRT1 HRT2
            cases r with
            | true =>
              have HNE : Hid (false = decide (s.1 ≠ t.1)) := (decide_eq_false fun h => h (of_decide_eq_true HRK.out.symm)).symm
              go_wp2
              refine wp_region_held_drew (S := Over (World.drew wr)) (by kernel_rfl) (Over.refl _) ?_
              intro hS
              replace HBI : Hid (Below w.heap.size w (World.drew wr)) := HBI.out.drew
              change wpAnyH _ _ _ _ _ _ _ _ (World.drew wr)
              generalize World.drew wr = y0 at *
              try simp only [Act.put, List.setIfInBounds_toArray, List.set_cons_zero, List.set_cons_succ]
              refine wpAnyH_take (i := 0) (v := .bool false) rfl (by kernel_rfl) (by kernel_rfl) (by kernel_rfl) (fun _ _ _ h => h) (Or.inl ⟨by rfl, fun wx hx => by simp [go_sem]⟩) hS ?_
              simp only [Act.put, List.getElem_toArray, List.getElem_cons_zero, List.setIfInBounds_toArray, List.set_cons_zero, List.set_cons_succ]
              refine wpAnyH_take (i := 1) (v := .bool false) rfl (by kernel_rfl) (by kernel_rfl) (by kernel_rfl) (fun _ _ _ h => h) (Or.inl ⟨by rfl, fun wx hx => by simp [go_sem]⟩) hS ?_
              simp only [Act.put, List.getElem_toArray, List.getElem_cons_succ, List.getElem_cons_zero, List.setIfInBounds_toArray, List.set_cons_zero, List.set_cons_succ]
              refine wpAnyH_take (i := 2) (v := .slice (some ⟨b1, o1, none⟩) nl cl) rfl (by kernel_rfl) (by kernel_rfl) (by kernel_rfl) (fun _ _ _ h => h) (Or.inl ⟨by rfl, fun wx hx => by simp [go_sem]⟩) hS ?_
              simp only [Act.put, List.getElem_toArray, List.getElem_cons_succ, List.getElem_cons_zero, List.setIfInBounds_toArray, List.set_cons_zero, List.set_cons_succ]
              refine wpAnyH_take (i := 3) (v := .int .i64 (k : Int)) rfl (by kernel_rfl) (by kernel_rfl) (by kernel_rfl) (fun _ _ _ h => h) (Or.inl ⟨by rfl, fun wx hx => by simp [go_sem]⟩) hS ?_
              simp only [Act.put, List.getElem_toArray, List.getElem_cons_succ, List.getElem_cons_zero, List.setIfInBounds_toArray, List.set_cons_zero, List.set_cons_succ]
              refine wpAnyH_take (i := 4) (v := .pointer (some ⟨b1, o1 + k * 98, none⟩)) rfl (by kernel_rfl) (by kernel_rfl) (by kernel_rfl) (fun _ _ _ h => h) (Or.inl ⟨by rfl, fun wx hx => by exact idx98 b1 o1 cl nl k hlt _ _ _ _ rfl rfl rfl _⟩) hS ?_
              simp only [Act.put, List.getElem_toArray, List.getElem_cons_succ, List.getElem_cons_zero, List.setIfInBounds_toArray, List.set_cons_zero, List.set_cons_succ]
              refine wpAnyH_take (i := 5) (v := .pointer (some ⟨b1, o1 + k * 98, none⟩)) rfl (by kernel_rfl) (by kernel_rfl) (by kernel_rfl) (fun _ _ _ h => h) (Or.inl ⟨by rfl, fun wx hx => by simp [go_sem]⟩) hS ?_
              simp only [Act.put, List.getElem_toArray, List.getElem_cons_succ, List.getElem_cons_zero, List.setIfInBounds_toArray, List.set_cons_zero, List.set_cons_succ]
              refine wpAnyH_take (i := 6) (v := .agg rt1.toArray) rfl (by kernel_rfl) (by kernel_rfl) (by kernel_rfl) (fun _ _ _ h => h) (Or.inl ⟨by rfl, fun wx hx => by exact load_run 27 _ rfl b1 (o1 + k * 98) rfl rt1 _ (HT1.out _ (HBI.out.trans (Below.mono hx HBI.out.size))) Tryd.underlying27 rfl HJ1.out⟩) hS ?_
              simp only [Act.put, List.getElem_toArray, List.getElem_cons_succ, List.getElem_cons_zero, List.setIfInBounds_toArray, List.set_cons_zero, List.set_cons_succ]
              refine wpAnyH_take (i := 7) (v := .slice (some ⟨b2, o2, none⟩) nm cm) rfl (by kernel_rfl) (by kernel_rfl) (by kernel_rfl) (fun _ _ _ h => h) (Or.inl ⟨by rfl, fun wx hx => by simp [go_sem]⟩) hS ?_
              simp only [Act.put, List.getElem_toArray, List.getElem_cons_succ, List.getElem_cons_zero, List.setIfInBounds_toArray, List.set_cons_zero, List.set_cons_succ]
              refine wpAnyH_take (i := 8) (v := .int .i64 (k : Int)) rfl (by kernel_rfl) (by kernel_rfl) (by kernel_rfl) (fun _ _ _ h => h) (Or.inl ⟨by rfl, fun wx hx => by simp [go_sem]⟩) hS ?_
              simp only [Act.put, List.getElem_toArray, List.getElem_cons_succ, List.getElem_cons_zero, List.setIfInBounds_toArray, List.set_cons_zero, List.set_cons_succ]
              refine wpAnyH_take (i := 9) (v := .pointer (some ⟨b2, o2 + k * 98, none⟩)) rfl (by kernel_rfl) (by kernel_rfl) (by kernel_rfl) (fun _ _ _ h => h) (Or.inl ⟨by rfl, fun wx hx => by exact idx98 b2 o2 cm nm k hmt _ _ _ _ rfl rfl rfl _⟩) hS ?_
              simp only [Act.put, List.getElem_toArray, List.getElem_cons_succ, List.getElem_cons_zero, List.setIfInBounds_toArray, List.set_cons_zero, List.set_cons_succ]
              refine wpAnyH_take (i := 10) (v := .pointer (some ⟨b2, o2 + k * 98, none⟩)) rfl (by kernel_rfl) (by kernel_rfl) (by kernel_rfl) (fun _ _ _ h => h) (Or.inl ⟨by rfl, fun wx hx => by simp [go_sem]⟩) hS ?_
              simp only [Act.put, List.getElem_toArray, List.getElem_cons_succ, List.getElem_cons_zero, List.setIfInBounds_toArray, List.set_cons_zero, List.set_cons_succ]
              refine wpAnyH_take (i := 11) (v := .agg rt2.toArray) rfl (by kernel_rfl) (by kernel_rfl) (by kernel_rfl) (fun _ _ _ h => h) (Or.inl ⟨by rfl, fun wx hx => by exact load_run 27 _ rfl b2 (o2 + k * 98) rfl rt2 _ (HT2.out _ (HBI.out.trans (Below.mono hx HBI.out.size))) Tryd.underlying27 rfl HJ2.out⟩) hS ?_
              simp only [Act.put, List.getElem_toArray, List.getElem_cons_succ, List.getElem_cons_zero, List.setIfInBounds_toArray, List.set_cons_zero, List.set_cons_succ]
              refine wpAnyH_take (i := 12) (v := .bool false) rfl (by kernel_rfl) (by kernel_rfl) (by kernel_rfl) (fun _ _ _ h => h) (Or.inl ⟨by rfl, fun wx hx => by simp [go_sem, heq]⟩) hS ?_
              simp only [Act.put, List.getElem_toArray, List.getElem_cons_succ, List.getElem_cons_zero, List.setIfInBounds_toArray, List.set_cons_zero, List.set_cons_succ]
              refine wpAnyH_take (i := 13) (v := .bool false) rfl (by kernel_rfl) (by kernel_rfl) (by kernel_rfl) (fun _ _ _ h => h) (Or.inl ⟨by rfl, fun wx hx => by simp [go_sem]⟩) hS ?_
              simp only [Act.put, List.getElem_toArray, List.getElem_cons_succ, List.getElem_cons_zero, List.setIfInBounds_toArray, List.set_cons_zero, List.set_cons_succ]
              refine wpAnyH_take (i := 14) (v := .bool false) rfl (by kernel_rfl) (by kernel_rfl) (by kernel_rfl) (fun _ _ _ h => h) (Or.inl ⟨by rfl, fun wx hx => by simp [go_sem]⟩) hS ?_
              simp only [Act.put, List.getElem_toArray, List.getElem_cons_succ, List.getElem_cons_zero, List.setIfInBounds_toArray, List.set_cons_zero, List.set_cons_succ]
              refine wpAnyH_done (by kernel_rfl) ?_ _
              go_wp2
              go_roundw
              case rel => exact ⟨k + 1, false, by omega, by simp, rfl, (by show _ = _; rw [anyU_more, ← HAU.out, Bool.false_or, ← HS.out, ← HT.out]; exact HNE.out), HBI.out.trans (Below.mono hS HBI.out.size)⟩
              case measure => simp [intOf]; omega
            | false =>
              have HNE : Hid (true = decide (s.1 ≠ t.1)) := (decide_eq_true (of_decide_eq_false HRK.out.symm)).symm
              go_wp2
              refine wp_region_held_drew (S := Over (World.drew wr)) (by kernel_rfl) (Over.refl _) ?_
              intro hS
              replace HBI : Hid (Below w.heap.size w (World.drew wr)) := HBI.out.drew
              change wpAnyH _ _ _ _ _ _ _ _ (World.drew wr)
              generalize World.drew wr = y0 at *
              try simp only [Act.put, List.setIfInBounds_toArray, List.set_cons_zero, List.set_cons_succ]
              refine wpAnyH_take (i := 0) (v := .bool false) rfl (by kernel_rfl) (by kernel_rfl) (by kernel_rfl) (fun _ _ _ h => h) (Or.inl ⟨by rfl, fun wx hx => by simp [go_sem]⟩) hS ?_
              simp only [Act.put, List.getElem_toArray, List.getElem_cons_zero, List.setIfInBounds_toArray, List.set_cons_zero, List.set_cons_succ]
              refine wpAnyH_take (i := 1) (v := .bool false) rfl (by kernel_rfl) (by kernel_rfl) (by kernel_rfl) (fun _ _ _ h => h) (Or.inl ⟨by rfl, fun wx hx => by simp [go_sem]⟩) hS ?_
              simp only [Act.put, List.getElem_toArray, List.getElem_cons_succ, List.getElem_cons_zero, List.setIfInBounds_toArray, List.set_cons_zero, List.set_cons_succ]
              refine wpAnyH_take (i := 2) (v := .slice (some ⟨b1, o1, none⟩) nl cl) rfl (by kernel_rfl) (by kernel_rfl) (by kernel_rfl) (fun _ _ _ h => h) (Or.inl ⟨by rfl, fun wx hx => by simp [go_sem]⟩) hS ?_
              simp only [Act.put, List.getElem_toArray, List.getElem_cons_succ, List.getElem_cons_zero, List.setIfInBounds_toArray, List.set_cons_zero, List.set_cons_succ]
              refine wpAnyH_take (i := 3) (v := .int .i64 (k : Int)) rfl (by kernel_rfl) (by kernel_rfl) (by kernel_rfl) (fun _ _ _ h => h) (Or.inl ⟨by rfl, fun wx hx => by simp [go_sem]⟩) hS ?_
              simp only [Act.put, List.getElem_toArray, List.getElem_cons_succ, List.getElem_cons_zero, List.setIfInBounds_toArray, List.set_cons_zero, List.set_cons_succ]
              refine wpAnyH_take (i := 4) (v := .pointer (some ⟨b1, o1 + k * 98, none⟩)) rfl (by kernel_rfl) (by kernel_rfl) (by kernel_rfl) (fun _ _ _ h => h) (Or.inl ⟨by rfl, fun wx hx => by exact idx98 b1 o1 cl nl k hlt _ _ _ _ rfl rfl rfl _⟩) hS ?_
              simp only [Act.put, List.getElem_toArray, List.getElem_cons_succ, List.getElem_cons_zero, List.setIfInBounds_toArray, List.set_cons_zero, List.set_cons_succ]
              refine wpAnyH_take (i := 5) (v := .pointer (some ⟨b1, o1 + k * 98, none⟩)) rfl (by kernel_rfl) (by kernel_rfl) (by kernel_rfl) (fun _ _ _ h => h) (Or.inl ⟨by rfl, fun wx hx => by simp [go_sem]⟩) hS ?_
              simp only [Act.put, List.getElem_toArray, List.getElem_cons_succ, List.getElem_cons_zero, List.setIfInBounds_toArray, List.set_cons_zero, List.set_cons_succ]
              refine wpAnyH_take (i := 6) (v := .agg rt1.toArray) rfl (by kernel_rfl) (by kernel_rfl) (by kernel_rfl) (fun _ _ _ h => h) (Or.inl ⟨by rfl, fun wx hx => by exact load_run 27 _ rfl b1 (o1 + k * 98) rfl rt1 _ (HT1.out _ (HBI.out.trans (Below.mono hx HBI.out.size))) Tryd.underlying27 rfl HJ1.out⟩) hS ?_
              simp only [Act.put, List.getElem_toArray, List.getElem_cons_succ, List.getElem_cons_zero, List.setIfInBounds_toArray, List.set_cons_zero, List.set_cons_succ]
              refine wpAnyH_take (i := 7) (v := .slice (some ⟨b2, o2, none⟩) nm cm) rfl (by kernel_rfl) (by kernel_rfl) (by kernel_rfl) (fun _ _ _ h => h) (Or.inl ⟨by rfl, fun wx hx => by simp [go_sem]⟩) hS ?_
              simp only [Act.put, List.getElem_toArray, List.getElem_cons_succ, List.getElem_cons_zero, List.setIfInBounds_toArray, List.set_cons_zero, List.set_cons_succ]
              refine wpAnyH_take (i := 8) (v := .int .i64 (k : Int)) rfl (by kernel_rfl) (by kernel_rfl) (by kernel_rfl) (fun _ _ _ h => h) (Or.inl ⟨by rfl, fun wx hx => by simp [go_sem]⟩) hS ?_
              simp only [Act.put, List.getElem_toArray, List.getElem_cons_succ, List.getElem_cons_zero, List.setIfInBounds_toArray, List.set_cons_zero, List.set_cons_succ]
              refine wpAnyH_take (i := 9) (v := .pointer (some ⟨b2, o2 + k * 98, none⟩)) rfl (by kernel_rfl) (by kernel_rfl) (by kernel_rfl) (fun _ _ _ h => h) (Or.inl ⟨by rfl, fun wx hx => by exact idx98 b2 o2 cm nm k hmt _ _ _ _ rfl rfl rfl _⟩) hS ?_
              simp only [Act.put, List.getElem_toArray, List.getElem_cons_succ, List.getElem_cons_zero, List.setIfInBounds_toArray, List.set_cons_zero, List.set_cons_succ]
              refine wpAnyH_take (i := 10) (v := .pointer (some ⟨b2, o2 + k * 98, none⟩)) rfl (by kernel_rfl) (by kernel_rfl) (by kernel_rfl) (fun _ _ _ h => h) (Or.inl ⟨by rfl, fun wx hx => by simp [go_sem]⟩) hS ?_
              simp only [Act.put, List.getElem_toArray, List.getElem_cons_succ, List.getElem_cons_zero, List.setIfInBounds_toArray, List.set_cons_zero, List.set_cons_succ]
              refine wpAnyH_take (i := 11) (v := .agg rt2.toArray) rfl (by kernel_rfl) (by kernel_rfl) (by kernel_rfl) (fun _ _ _ h => h) (Or.inl ⟨by rfl, fun wx hx => by exact load_run 27 _ rfl b2 (o2 + k * 98) rfl rt2 _ (HT2.out _ (HBI.out.trans (Below.mono hx HBI.out.size))) Tryd.underlying27 rfl HJ2.out⟩) hS ?_
              simp only [Act.put, List.getElem_toArray, List.getElem_cons_succ, List.getElem_cons_zero, List.setIfInBounds_toArray, List.set_cons_zero, List.set_cons_succ]
              refine wpAnyH_take (i := 12) (v := .bool true) rfl (by kernel_rfl) (by kernel_rfl) (by kernel_rfl) (fun _ _ _ h => h) (Or.inl ⟨by rfl, fun wx hx => by simp [go_sem, heq]⟩) hS ?_
              simp only [Act.put, List.getElem_toArray, List.getElem_cons_succ, List.getElem_cons_zero, List.setIfInBounds_toArray, List.set_cons_zero, List.set_cons_succ]
              refine wpAnyH_take (i := 13) (v := .bool true) rfl (by kernel_rfl) (by kernel_rfl) (by kernel_rfl) (fun _ _ _ h => h) (Or.inl ⟨by rfl, fun wx hx => by simp [go_sem]⟩) hS ?_
              simp only [Act.put, List.getElem_toArray, List.getElem_cons_succ, List.getElem_cons_zero, List.setIfInBounds_toArray, List.set_cons_zero, List.set_cons_succ]
              refine wpAnyH_take (i := 14) (v := .bool true) rfl (by kernel_rfl) (by kernel_rfl) (by kernel_rfl) (fun _ _ _ h => h) (Or.inl ⟨by rfl, fun wx hx => by simp [go_sem]⟩) hS ?_
              simp only [Act.put, List.getElem_toArray, List.getElem_cons_succ, List.getElem_cons_zero, List.setIfInBounds_toArray, List.set_cons_zero, List.set_cons_succ]
              refine wpAnyH_done (by kernel_rfl) ?_ _
              go_wp2
              go_roundw
              case rel => exact ⟨k + 1, true, by omega, by simp, rfl, (by show _ = _; rw [anyU_more, ← HAU.out, Bool.false_or, ← HS.out, ← HT.out]; exact HNE.out), HBI.out.trans (Below.mono hS HBI.out.size)⟩
              case measure => simp [intOf]; omega
end Go.Proofs.YtableajopaappaaDoor
/- What the listed variable gives: the rounds' words lie where the walks look for them. -/
namespace Go.Proofs.YtableajopaappaaDoor
open Go.ChangeShapes Go.WideShapes Go.ChangeAt Go.WideMaps Go.WideElems Go.RowKit
set_option maxRecDepth 100000
theorem own : ownKnob Tryd.prog.godebug = none := by kernel_rfl
theorem gKw : Tryd.prog.globalNamed "blazon/sha.roundWords" = some 0 := by kernel_rfl
theorem tKw : (Tryd.prog.globals[0]?).map (·.type) = some 134 := by kernel_rfl
def laidK : List (String × DataW Unit) := [("blazon/sha.roundWords", Rows.laid_blazon_sha_roundWords)]
def kzs : List Int := kw.map fun x => (x.toNat : Int)
theorem laid_tab : (Rows.laid_blazon_sha_roundWords : DataW Unit) = Lib.tabData .u32 kzs := by kernel_rfl
theorem door_met (os : Os) (args : Array Value) : laidMetH Tryd.prog laidK ((World.doorLaid Tryd.prog 400 os).forCall (fun _ _ => 0) ⟨#[], args, []⟩).memory :=
  laidMetH_of_parts3 (fuel := 8) (laidMet_of_run' 8 (by kernel_rfl) (by kernel_rfl)) (by kernel_rfl) (by kernel_rfl)
theorem getD_toNat (l : List (BitVec 32)) (j : Nat) : (l.map fun x => (x.toNat : Int)).getD j 0 = ((l.getD j 0).toNat : Int) := by
  rw [List.getD_eq_getElem?_getD, List.getD_eq_getElem?_getD, List.getElem?_map]
  cases l[j]? <;> rfl
theorem kok_of_laid {W : World} (h : laidMetH Tryd.prog laidK W) : KOk W := by
  rw [MakeChecks.laidMetH_plain _ _ _ (by kernel_rfl)] at h
  unfold laidK at h
  rw [laid_tab] at h
  have hT := Lib.tabIs_of_head gKw tKw Tryd.underlying134 Tryd.underlying114 (by kernel_rfl) (by kernel_rfl) h
  intro j hj
  rw [hT.cell gKw j (by simpa [kzs, kw] using hj), kzs, getD_toNat]
end Go.Proofs.YtableajopaappaaDoor
/- What a slice of bytes that came in gives: the bytes that it reads as; and that it reads so still behind a call that changed no old block. -/
namespace Go.Proofs.YtableajopaappaaDoor
open Go.ChangeShapes Go.WideShapes Go.ChangeAt Go.WideMaps Go.WideElems Go.RowKit
set_option maxRecDepth 100000
theorem cells_byte : Tryd.prog.cellsOf 5 = 1 := by kernel_rfl
theorem laid_out : laidOutB Tryd.prog = true := by kernel_rfl
theorem byte_range {zs : List Int} (h : ∀ n ∈ zs, (Lit.int .u8 n).wf = true) (j : Nat) : 0 ≤ zs.getD j 0 ∧ zs.getD j 0 < 256 := by
  rw [List.getD_eq_getElem?_getD]
  cases hj : zs[j]? with
  | none => simp
  | some n =>
    have := h n (List.mem_of_getElem? hj)
    have := bounds_u8 this
    simp
    omega
end Go.Proofs.YtableajopaappaaDoor
/- What a digest that came in gives: its 32 bytes. -/
namespace Go.Proofs.YtableajopaappaaDoor
open Go.ChangeShapes Go.WideShapes Go.ChangeAt Go.WideMaps Go.WideElems Go.RowKit
set_option maxRecDepth 100000
theorem cells_digest : Tryd.prog.cellsOf 23 = 32 := by kernel_rfl
theorem readable_digest : Tryd.prog.readableRec 23 = true := by kernel_rfl
theorem row_digest : 23 < Tryd.prog.types.size := of_decide_eq_true (by kernel_rfl)
def numOf8 : Value → BitVec 8
  | .int _ n => BitVec.ofInt 8 n
  | _ => 0
theorem digest_of_trod {H : Type} {enc : TypeId × Value → H} {W : World} {base : Nat} {v : Value} {d : DataW H} {p : List MemPlace} (hval : Value.okWide Tryd.prog W .any base 23 v)
    (h : DataW.Trod enc Tryd.prog W 0 (fun _ => true) true 23 v d p) :
    ∃ dg, v = .agg (cb dg).toArray ∧ dg.length = 32 ∧ ∀ x ∈ p, x.block < W.heap.size := by
  simp only [Value.okWide, Tryd.underlying23] at hval
  obtain ⟨cs, rfl, hcs, _⟩ := hval
  obtain ⟨fuel, hf⟩ := h
  obtain ⟨xs, m, _, hx, hl, hn, hi⟩ := DataW.trod_array Tryd.underlying23 hf
  simp only [Value.cells] at hl hi
  rw [cells_digest] at hl
  rw [cells_byte] at hi
  have each : ∀ i, i < 32 → ∃ n, cs.toList[i]? = some (.int .u8 n) ∧ xs[i]? = some (.lit (.int .u8 n), []) ∧ (Lit.int .u8 n).wf = true := by
    intro i h32
    have h1 := hi i h32
    rw [List.getElem?_eq_getElem (by omega)] at h1
    obtain ⟨n, hc, hxx, hw⟩ := DataW.trod_int Tryd.underlying5 h1
    refine ⟨n, ?_, by rw [List.getElem?_eq_getElem (by omega), hxx], hw⟩
    rw [Nat.mul_one] at hc
    have h2 := congrArg (fun l => l[0]?) hc
    simpa using h2
  have hlen : (cs.toList.map numOf8).length = 32 := by simpa using hl
  refine ⟨cs.toList.map numOf8, ?_, hlen, ?_⟩
  · congr 1
    apply Array.ext'
    rw [List.toList_toArray]
    apply List.ext_getElem?
    intro i
    by_cases h32 : i < 32
    · obtain ⟨n, h1, _, hw⟩ := each i h32
      have hb := bounds_u8 hw
      rw [h1, cb_get _ _ (by omega), List.getD_eq_getElem?_getD, List.getElem?_map, h1]
      simp only [Option.map_some, Option.getD_some, numOf8, BitVec.toNat_ofInt]
      congr 2
      omega
    · rw [List.getElem?_eq_none (by omega), List.getElem?_eq_none (by rw [cb_len]; omega)]
  · simp only [Prod.mk.injEq] at hx
    rw [hx.2]
    intro x hmem
    obtain ⟨y, hy, hxy⟩ := List.mem_flatMap.1 hmem
    obtain ⟨i, hlt, rfl⟩ := List.getElem_of_mem hy
    obtain ⟨n, _, h2, _⟩ := each i (by omega)
    rw [List.getElem?_eq_getElem hlt] at h2
    rw [Option.some.inj h2] at hxy
    cases hxy
end Go.Proofs.YtableajopaappaaDoor
/- What a slice of digests that came in gives; five arguments that came in, opened and shut (for the statements of layer 7). -/
namespace Go.Proofs.YtableajopaappaaDoor
open Go.ChangeShapes Go.WideShapes Go.ChangeAt Go.WideMaps Go.WideElems Go.RowKit
set_option maxRecDepth 100000
theorem digest_of_cells {H : Type} {enc : TypeId × Value → H} {W : World} {cs : List Value} {d : DataW H} {p : List MemPlace} {fuel : Nat} (hf : DataW.trod enc Tryd.prog W 0 (fun _ => true) true fuel 23 cs = some (d, p)) :
    ∃ dg, cs = cb dg ∧ dg.length = 32 ∧ ∀ x ∈ p, x.block < W.heap.size := by
  obtain ⟨xs, m, _, hx, hl, hn, hi⟩ := DataW.trod_array Tryd.underlying23 hf
  rw [cells_digest] at hl
  rw [cells_byte] at hi
  have each : ∀ i, i < 32 → ∃ n, cs[i]? = some (.int .u8 n) ∧ xs[i]? = some (.lit (.int .u8 n), []) ∧ (Lit.int .u8 n).wf = true := by
    intro i h32
    have h1 := hi i h32
    rw [List.getElem?_eq_getElem (by omega)] at h1
    obtain ⟨n, hc, hxx, hw⟩ := DataW.trod_int Tryd.underlying5 h1
    refine ⟨n, ?_, by rw [List.getElem?_eq_getElem (by omega), hxx], hw⟩
    rw [Nat.mul_one] at hc
    have h2 := congrArg (fun l => l[0]?) hc
    simpa using h2
  have hlen : (cs.map numOf8).length = 32 := by simpa using hl
  refine ⟨cs.map numOf8, ?_, hlen, ?_⟩
  · apply List.ext_getElem?
    intro i
    by_cases h32 : i < 32
    · obtain ⟨n, h1, _, hw⟩ := each i h32
      have hb := bounds_u8 hw
      rw [h1, cb_get _ _ (by omega), List.getD_eq_getElem?_getD, List.getElem?_map, h1]
      simp only [Option.map_some, Option.getD_some, numOf8, BitVec.toNat_ofInt]
      congr 2
      omega
    · rw [List.getElem?_eq_none (by omega), List.getElem?_eq_none (by rw [cb_len]; omega)]
  · simp only [Prod.mk.injEq] at hx
    rw [hx.2]
    intro x hmem
    obtain ⟨y, hy, hxy⟩ := List.mem_flatMap.1 hmem
    obtain ⟨i, hlt, rfl⟩ := List.getElem_of_mem hy
    obtain ⟨n, _, h2, _⟩ := each i (by omega)
    rw [List.getElem?_eq_getElem hlt] at h2
    rw [Option.some.inj h2] at hxy
    cases hxy
end Go.Proofs.YtableajopaappaaDoor
/- What a head, a signed root and a slice of signed roots that came in give: their parts (layer 11). -/
namespace Go.Proofs.YtableajopaappaaDoor
open Go.ChangeShapes Go.WideShapes Go.ChangeAt Go.WideMaps Go.WideElems Go.RowKit
set_option maxRecDepth 100000
set_option maxRecDepth 100000 in
theorem cells_signed : Tryd.prog.cellsOf 30 = 98 := by kernel_rfl
set_option maxRecDepth 100000 in
theorem cells_root : Tryd.prog.cellsOf 27 = 97 := by kernel_rfl
set_option maxRecDepth 100000 in
theorem cells_u64c : Tryd.prog.cellsOf 25 = 1 := by kernel_rfl
set_option maxRecDepth 100000 in
theorem cells_bytesc : Tryd.prog.cellsOf 28 = 1 := by kernel_rfl
set_option maxRecDepth 100000 in
theorem readable_signeds : Tryd.prog.readableRec 24 = true := by kernel_rfl
set_option maxRecDepth 100000 in
theorem row_signeds : 24 < Tryd.prog.types.size := of_decide_eq_true (by kernel_rfl)
theorem take_one11 {l : List Value} {k n : Nat} (hl : l.length = n) (hk : k < n) : ∃ c, (l.drop k).take 1 = [c] := by
  have h : (l.drop k).length = n - k := by rw [List.length_drop, hl]
  match hq : l.drop k, h with
  | [], h => simp at h; omega
  | c :: r, _ => exact ⟨c, rfl⟩
end Go.Proofs.YtableajopaappaaDoor
/- Evidence and slices of signed roots that came in, with their sizes (layer 12). -/
namespace Go.Proofs.YtableajopaappaaDoor
open Go.ChangeShapes Go.WideShapes Go.ChangeAt Go.WideMaps Go.WideElems Go.RowKit
set_option maxRecDepth 100000
theorem bytes_byte : Tryd.prog.bytesOf 5 = 1 := by kernel_rfl
theorem weightsAll_mem {H : Type} {P : Program} {e : TypeId} {q : Nat → Bool} : ∀ (l : List (DataW H)), (DataW.weightsAll P e l).all q = true → ∀ d ∈ l, (d.weights P e).all q = true
  | [], _, _, h => by cases h
  | x :: r, hl, d, h => by
    rw [DataW.weightsAll, List.all_append, Bool.and_eq_true] at hl
    rcases List.mem_cons.1 h with rfl | h
    · exact hl.1
    · exact weightsAll_mem r hl.2 d h
theorem reads_sized {H : Type} {enc : TypeId × Value → H} {W : World} {v : Value} {d : DataW H} {p : List MemPlace} {fuel : Nat} (hf : DataW.trod enc Tryd.prog W 0 (fun _ => true) true fuel 28 [v] = some (d, p)) :
    ∃ bs, Reads W v bs ∧ (∀ N, (d.weights Tryd.prog 28).all (· ≤ N) = true → bs.length ≤ N) ∧ ∀ x ∈ p, x.block < W.heap.size := by
  rcases open_ints Tryd.underlying28 Tryd.underlying5 cells_byte hf with ⟨hcs, hx⟩ | ⟨a, len, cap, zs, hcs, _, hl, hm, hz, hx, hcell, hwz⟩
  · simp only [List.cons.injEq, and_true] at hcs
    subst hcs
    simp only [Prod.mk.injEq] at hx
    obtain ⟨rfl, rfl⟩ := hx
    exact ⟨[], ⟨none, 0, rfl, Nat.le_refl _, fun _ => rfl, fun h => by cases h⟩, fun _ _ => Nat.zero_le _, fun _ h => by cases h⟩
  · simp only [List.cons.injEq, and_true] at hcs
    subst hcs
    simp only [Prod.mk.injEq] at hx
    obtain ⟨rfl, rfl⟩ := hx
    simp only [if_true] at hz
    have hlen : ((zs.take len).map fun n => BitVec.ofInt 8 n).length = len := by simp; omega
    obtain ⟨ab, ao, spot⟩ := a
    refine ⟨(zs.take len).map fun n => BitVec.ofInt 8 n, ⟨some ⟨ab, ao, spot⟩, cap, by rw [hlen], by rw [hlen]; exact hl, (fun h => by cases h), fun hp => ?_⟩, ?_, fun x hx => ?_⟩
    · rw [hlen] at hp ⊢
      have hspot : spot = none := by simpa [Addr.add] using World.cell?_spot (hcell 0 (by omega))
      subst hspot
      refine ⟨ab, ao, rfl, fun j hj => ?_⟩
      have hcj := hcell j (by omega)
      rw [Addr.add_lit] at hcj
      rw [hcj]
      have hb := byte_range hwz j
      have e : ((zs.take len).map fun n => BitVec.ofInt 8 n).getD j 0 = BitVec.ofInt 8 (zs.getD j 0) := by
        rw [List.getD_eq_getElem?_getD, List.getElem?_map, List.getElem?_take_of_lt hj, List.getD_eq_getElem?_getD, List.getElem?_eq_getElem (show j < zs.length by omega)]
        rfl
      rw [e, BitVec.toNat_ofInt]
      congr 2
      omega
    · intro N hN
      rw [hlen]
      rw [DataW.weights] at hN
      simp only [Tryd.underlying28, bytes_byte, Nat.mul_one, List.all_cons, Bool.and_eq_true, decide_eq_true_eq] at hN
      have h3 : (lits (H := H) .u8 (zs.take len)).length = len := by simp [lits]; omega
      have := hN.1
      omega
    · simp only [MemPlace.row, List.mem_map, List.mem_range] at hx
      obtain ⟨i, hi, rfl⟩ := hx
      have hcj := hcell i (by omega)
      have := block_lt_of_cell hcj
      simp only [Addr.add] at this
      split at this <;> exact this
set_option maxRecDepth 100000 in
theorem signed_sized {H : Type} {enc : TypeId × Value → H} {W : World} {l : List Value} {d : DataW H} {p : List MemPlace} {fuel : Nat} (hf : DataW.trod enc Tryd.prog W 0 (fun _ => true) true fuel 30 l = some (d, p)) :
    ∃ (s : SgT) (c : Value), l = sgC s c ∧ okS s ∧ Reads W c s.2 ∧ (∀ N, (d.weights Tryd.prog 30).all (· ≤ N) = true → s.2.length ≤ N) ∧ ∀ q ∈ p, q.block < W.heap.size := by
  have hp := DataW.trod_lt _ _ _ _ hf
  obtain ⟨y0, y1, n, hx, hl, h0, h1⟩ := Go.ChangeShapes.trod_struct2 Tryd.underlying30 hf
  rw [cells_signed] at hl
  rw [cells_root] at h0
  rw [cells_bytesc] at h1
  simp only at hl h0 h1
  obtain ⟨c, e1⟩ := take_one11 (k := 97) hl (by omega)
  rw [e1] at h1
  obtain ⟨dd, pp⟩ := y1
  obtain ⟨sg, hr, hsz, _⟩ := reads_sized (v := c) h1
  obtain ⟨r0, r1, r2, r3, n', hx', hl', k0, k1, k2, k3⟩ := Go.Joins.trod_struct4 Tryd.underlying27 h0
  rw [cells_u64c] at k0
  rw [cells_digest] at k1 k2 k3
  obtain ⟨m, e0, _, hw⟩ := DataW.trod_int Tryd.underlying25 k0
  obtain ⟨a1, b1⟩ := r1
  obtain ⟨a2, b2⟩ := r2
  obtain ⟨a3, b3⟩ := r3
  obtain ⟨x, f1, lx, _⟩ := digest_of_cells k1
  obtain ⟨y, f2, ly, _⟩ := digest_of_cells k2
  obtain ⟨z, f3, lz, _⟩ := digest_of_cells k3
  have hb := bounds_u64 hw
  obtain ⟨r, hr0⟩ : ∃ r, r = (l.drop 0).take 97 := ⟨_, rfl⟩
  rw [← hr0] at e0 f1 f2 f3 hl'
  rw [cells_root] at hl'
  have d1 : r = r.take 1 ++ r.drop 1 := (List.take_append_drop 1 r).symm
  have d2 : r.drop 1 = (r.drop 1).take 32 ++ r.drop 33 := by
    have := (List.take_append_drop 32 (r.drop 1)).symm
    rwa [List.drop_drop] at this
  have d3 : r.drop 33 = (r.drop 33).take 32 ++ r.drop 65 := by
    have := (List.take_append_drop 32 (r.drop 33)).symm
    rwa [List.drop_drop] at this
  have d4 : r.drop 65 = (r.drop 65).take 32 := by
    rw [List.take_of_length_le (by rw [List.length_drop]; omega)]
  rw [List.drop_zero] at e0
  have hrr : r = .int .u64 m :: (cb x ++ (cb y ++ cb z)) := by
    rw [d1, d2, d3, d4, e0, f1, f2, f3]; rfl
  have dl : l = l.take 97 ++ l.drop 97 := (List.take_append_drop 97 l).symm
  have d97 : l.drop 97 = (l.drop 97).take 1 := by rw [List.take_of_length_le (by rw [List.length_drop]; omega)]
  rw [List.drop_zero] at hr0
  refine ⟨((m.toNat, x, y, z), sg), c, ?_, okS_mk lx ly lz (by omega), hr, fun N hN => ?_, hp⟩
  rotate_left
  · simp only [Prod.mk.injEq] at hx
    rw [hx.1, DataW.weights] at hN
    simp only [Tryd.underlying30, List.map_cons, List.map_nil, DataW.weightsEach, List.all_append, Bool.and_eq_true] at hN
    exact hsz N hN.2.1
  rw [dl, ← hr0, d97, e1, hrr]
  unfold sgC
  rw [Int.toNat_of_nonneg (by omega)]
  simp
set_option maxRecDepth 100000 in
theorem readsS_sized {H : Type} {enc : TypeId × Value → H} {W : World} {v : Value} {d : DataW H} {p : List MemPlace} {fuel : Nat} (hf : DataW.trod enc Tryd.prog W 0 (fun _ => true) true fuel 24 [v] = some (d, p)) :
    ∃ l, ReadsS W v l ∧ (∀ N, (d.weights Tryd.prog 24).all (· ≤ N) = true → ∀ s ∈ l, s.2.length ≤ N) ∧ ∀ x ∈ p, x.block < W.heap.size := by
  have hp0 := DataW.trod_lt _ _ _ _ hf
  rcases Go.Deep.open_slice Tryd.underlying24 hf with ⟨hcs, hx⟩ | ⟨a, len, cap, m, n, D, Pl, hcs, _, hl, hm, hmm, hx, hV⟩
  · simp only [List.cons.injEq, and_true] at hcs
    subst hcs
    exact ⟨[], ReadsS.nil W, (fun _ _ s hs => by cases hs), hp0⟩
  · simp only [List.cons.injEq, and_true] at hcs
    subst hcs
    simp only [Prod.mk.injEq] at hx
    obtain ⟨rfl, hpl⟩ := hx
    simp only [if_true] at hmm
    subst hmm
    rw [cells_signed] at hV
    obtain ⟨B, hB⟩ := Go.Deep.choose_lt (α := SgT × Value) (p := fun i q => W.cells? 0 (a.add (i * 98)) 98 = some (sgC q.1 q.2) ∧ okS q.1 ∧ Reads W q.2 q.1.2 ∧ ∀ N, ((D i).weights Tryd.prog 30).all (· ≤ N) = true → q.1.2.length ≤ N) (fun i hi => by
      obtain ⟨cs', h1, h2⟩ := hV i hi
      obtain ⟨s, c, rfl, h3, h4, h5, _⟩ := signed_sized h2
      exact ⟨(s, c), h1, h3, h4, h5⟩)
    have hlen : ((List.range len).map fun i => (B i).1).length = len := by simp
    obtain ⟨ab, ao, spot⟩ := a
    have cell : ∀ i, i < m → ∀ j, j < 98 → W.cell? ((⟨ab, ao, spot⟩ : Addr).add (i * 98 + j)) = (sgC (B i).1 (B i).2)[j]? := by
      intro i hi j hj
      obtain ⟨h1, _⟩ := hB i hi
      obtain ⟨_, _, h4⟩ := World.cells?_some h1
      have := h4 j hj
      rw [Go.Deep.add_add] at this
      exact this
    have hspot : 0 < m → spot = none := fun hp => by
      have h := cell 0 hp 0 (by omega)
      rw [show (sgC (B 0).1 (B 0).2)[0]? = some (.int .u64 ((B 0).1.1.1 : Int)) from rfl] at h
      simpa [Addr.add] using World.cell?_spot h
    refine ⟨(List.range len).map fun i => (B i).1, ⟨⟨some ⟨ab, ao, spot⟩, m, by rw [hlen], by rw [hlen]; exact hl, (fun h => by cases h), fun hp => ?_⟩, ?_⟩, ?_, hp0⟩
    · rw [hlen] at hp ⊢
      have hs := hspot (by omega)
      subst hs
      refine ⟨ab, ao, rfl, fun j hj => ?_⟩
      have e : ((List.range len).map fun i => (B i).1).getD j zeroS = (B j).1 := by simp [hj]
      rw [e]
      refine ⟨(B j).2, ⟨fun i v hv => ?_, (hB j (by omega)).2.1⟩, (hB j (by omega)).2.2.1⟩
      have hi : i < 98 := by have := (List.getElem?_eq_some_iff.1 hv).1; rwa [len_sgC (hB j (by omega)).2.1] at this
      have h := cell j (by omega) i hi
      rw [hv, Addr.add_lit] at h
      rw [Nat.add_assoc]; exact h
    · intro s hs
      obtain ⟨i, hi, rfl⟩ := List.mem_map.1 hs
      exact (hB i (by have := List.mem_range.1 hi; omega)).2.1
    · intro N hN s hs
      rw [DataW.weights] at hN
      simp only [Tryd.underlying24, List.all_cons, List.all_append, Bool.and_eq_true, decide_eq_true_eq, List.length_map, List.length_range] at hN
      obtain ⟨i, hi, rfl⟩ := List.mem_map.1 hs
      have hi2 := List.mem_range.1 hi
      exact (hB i (by omega)).2.2.2 N (weightsAll_mem _ hN.2.1 _ (List.mem_map_of_mem hi))
set_option maxRecDepth 100000 in
theorem signeds_sized {H : Type} {enc : TypeId × Value → H} {W : World} {base : Nat} {v : Value} {d : DataW H} {p : List MemPlace} (hval : Value.okWide Tryd.prog W .any base 24 v)
    (h : DataW.Trod enc Tryd.prog W 0 (fun _ => true) true 24 v d p) :
    ∃ l, ReadsS W v l ∧ (∀ N, (d.weights Tryd.prog 24).all (· ≤ N) = true → ∀ s ∈ l, s.2.length ≤ N) ∧ ∀ x ∈ p, x.block < W.heap.size := by
  obtain ⟨a1, len, cap, rfl⟩ := okWide_slice Tryd.underlying24 hval
  obtain ⟨fuel, hf⟩ := h
  exact readsS_sized hf
end Go.Proofs.YtableajopaappaaDoor

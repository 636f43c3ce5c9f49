/- Texts that the proof leans on, one behind the other: The walks of the five statements of layer 19. What the listed variable gives: the rounds' words lie where the walks look for them. What a slice of bytes that came in gives: the bytes that it reads as; and that it reads so still behind a call that changed no old block. .. -/
import Derived.Test.YtmkjcgjbhibnpaaDoorMpb
import Derived.Test.YtmkjcgjbhibnpaaDoorRows
import Derived.Test.YtmkjcgjbhibnpaaDoorMpa
import Derived.ProofKit
import Derived.LaidMore
import Derived.OpenShut
import Derived.Stop.Joined
import Derived.Lib.LaidTab
import Derived.Carry
import Derived.ChangeSlices
import Derived.Deep.Strs
import Derived.Lib.SmallJoins
import Derived.ChangeSame
/- The walks of the five statements of layer 19. -/
namespace Go.Proofs.YtmkjcgjbhibnpaaDoor
open Go.RowKit
set_option maxRecDepth 100000
theorem nxE_ask (bn bk : By) (bs : Nat) (ky au : By) : nxE bn bk bs true 2 bn ky au = if chk bn ky ≠ 0 then (chk bn ky, 0) else if bs = 18446744073709551615 then (12, 0) else if au = hmac bk (authB bn (bs + 1) ky) then (0, bs + 1) else (8, 0) := by
  unfold nxE pcE cgE
  by_cases h : chk bn ky = 0
  · simp [h]
  · simp [h]
theorem nxE_ok {bn bk qn qy au : By} {bs sn : Nat} {th : Bool} {qk : Int} (h : nxE bn bk bs th qk qn qy au = (0, sn)) : chk qn qy = 0 ∧ (th = true → qk = 2 ∧ bn = qn ∧ sn = bs + 1 ∧ bs ≠ 18446744073709551615) ∧ (th = false → qk = 1 ∧ sn = 1) := by
  unfold nxE at h
  by_cases hp : pcE bn th qk qn qy = 0
  · rw [if_neg (by simp [hp])] at h
    have hl := pc_len hp
    have hc : chk qn qy = 0 := by
      unfold pcE at hp
      split at hp
      · cases hp
      · split at hp
        · rename_i h2; exact absurd hp h2
        · rename_i h2; exact Decidable.not_not.1 h2
    refine ⟨hc, fun ht => ?_, fun ht => ?_⟩
    · subst ht
      by_cases h1 : qk = 1
      · rw [if_pos h1] at h; simp [rgE] at h
      · rw [if_neg h1] at h
        unfold cgE at h
        rw [if_neg (by simp)] at h
        by_cases h2 : bs = 18446744073709551615
        · rw [if_pos h2] at h; simp at h
        · rw [if_neg h2] at h
          split at h
          · exact ⟨by have := hl.1; omega, hl.2.2.2 rfl, (Prod.mk.inj h).2.symm, h2⟩
          · simp at h
    · subst ht
      by_cases h1 : qk = 1
      · rw [if_pos h1] at h
        unfold rgE at h
        rw [if_neg (by simp)] at h
        split at h
        · exact ⟨h1, (Prod.mk.inj h).2.symm⟩
        · simp at h
      · rw [if_neg h1] at h
        simp [cgE] at h
  · rw [if_pos hp] at h
    exact absurd (Prod.mk.inj h).1 hp
/-- Next, as the statements call it -/
def NxC (f : FuncId) (w : World) (a1 a2 a3 : Value) (xn xk : By) (sn : Nat) (er : Int) : Prop :=
  Calls Tryd.prog f #[a1, a2, a3] w fun e w' => ∃ ad n c, e = .returned (.tuple #[.agg (bcl xn (.slice ad n c) sn).toArray, .int .i64 er]) ∧ Reads w' (.slice ad n c) xk ∧ Below w.heap.size w w'
theorem nxC_of {f : FuncId} {bn bk qn qy au : By} {vb vk : Value} {bs sn : Nat} {th : Bool} {qk er : Int} {w : World} (hp : nxE bn bk bs th qk qn qy au = (er, sn)) (h : Calls Tryd.prog f #[.agg (bcl bn vb bs).toArray, .bool th, .agg (reqV qk qn vk au).toArray] w (NxR bn bk bs th qk qn qy au w)) :
    NxC f w (.agg (bcl bn vb bs).toArray) (.bool th) (.agg (reqV qk qn vk au).toArray) (if er = 0 then qn else []) (if er = 0 then qy else []) sn er := by
  unfold NxR at h
  rw [hp] at h
  exact h
theorem wpSeq_storeReq {ops : Array Oper} {Q : Exit → Act → World → Prop} {rest : List Oper} {o : Oper} {a : Act} {w : World} (x y : Operand) (g : Nat) (kd : Int) (nm au : By) (ad : Option Addr) (n c : Nat) (hb : Blk w g (reqV 0 [] (.slice none 0 0) zb32) 29) (ha : au.length = 32) (ho : o.op = .store 29 x y) (hx : a.eval x = .pointer (some ⟨g, 0, none⟩)) (hy : a.eval y = .agg (reqV kd nm (.slice ad n c) au).toArray) (hw : o.guard = none)
    (h : ∀ w', SetR (reqV kd nm (.slice ad n c) au) 29 w g w' → wpList Tryd.prog ops Q rest (a.put o.dst undef) w') : wpList Tryd.prog ops Q (o :: rest) a w :=
  wpSeq_storeRow 29 x y g (reqV 0 [] (.slice none 0 0) zb32) (reqV kd nm (.slice ad n c) au) hb (by rw [len_req ha]; rfl) (info_reqV ha) reqV_one ho hx hy hw h
set_option maxRecDepth 100000 in
set_option maxHeartbeats 16000000 in
theorem policyDecides_law (bn bk : By) (vb : Value) (bs : Nat) (th : Bool) (qk : Int) (qn qy au : By) (vk : Value) (w : World) (hK : KOk w) (hb : Reads w vb bk) (hk : Reads w vk qy) (ha : au.length = 32) (hbs : bs < 18446744073709551616) :
    Calls Tryd.prog 3 #[.agg (bcl bn vb bs).toArray, .bool th, .agg (reqV qk qn vk au).toArray] w fun e w' => e = .returned (.bool true) ∧ Below w.heap.size w w' := by
  have HKO : Hid (KOk w) := hK
  have HB : Hid (Reads w vb bk) := hb
  have HK : Hid (Reads w vk qy) := hk
  obtain ⟨adb, cpb, hvb⟩ := hb.sliceP
  obtain ⟨adq, cpq, hvq⟩ := hk.sliceP
  obtain ⟨nb, HNB⟩ : ∃ x, Hid (x = bk.length) := ⟨_, rfl⟩
  obtain ⟨nq, HNQ⟩ : ∃ x, Hid (x = qy.length) := ⟨_, rfl⟩
  rw [← HNB.out] at hvb
  rw [← HNQ.out] at hvq
  subst hvb hvq
  clear hb hk hK
  have HBL : Hid (Below w.heap.size w w) := Below.refl _ _
  have HA : Hid (au.length = 32) := ha
  by_cases h1 : bk.length ≤ 2000
  case neg =>
    have HF1 : Hid (decide (bk.length ≤ 2000) = false) := decide_eq_false h1
    clear h1 ha hbs
    go_enter Tryd.func3, Tryd.ntmps3
    have tk0 : Hid True := trivial
    have tk1 : Hid True := trivial
    have tk2 : Hid True := trivial
    have tk3 : Hid True := trivial
    go_wp2_with (first
      | (clear tk0; with_reducible refine wpSeq_boxW 25 (.tmp 0) (bcl bn (.slice adb nb cpb) bs) ?_ ?_ ?_ ?_
         · rfl
         · rfl
         · rfl
         intro g w1 nn
         have hb := nn.below
         have H1 : Hid (Blk w1 g (bcl bn (.slice adb nb cpb) bs) 25) := nn.blk
         clear nn
         replace HBL : Hid (Below w.heap.size w w1) := HBL.out.trans (hb.mono HBL.out.size)
         clear hb)
      | (clear tk1; with_reducible refine wpSeq_boxW 29 (.tmp 2) (reqV qk qn (.slice adq nq cpq) au) ?_ ?_ ?_ ?_
         · rfl
         · rfl
         · rfl
         intro h w2 nn
         have hb := nn.below
         have H2 : Hid (Blk w2 h (reqV qk qn (.slice adq nq cpq) au) 29) := nn.blk
         clear nn
         replace H1 : Hid (Blk w2 g (bcl bn (.slice adb nb cpb) bs) 25) := H1.out.below hb H1.out.lt
         replace HBL : Hid (Below w.heap.size w w2) := HBL.out.trans (hb.mono HBL.out.size)
         clear hb
         have b0 : w2.cell? ⟨g, 0, none⟩ = some (.string (strB bn)) := H1.out.cell 0
         have b1 : w2.cell? ⟨g, 1, none⟩ = some (.slice adb nb cpb) := H1.out.cell 1
         have b2 : w2.cell? ⟨g, 2, none⟩ = some (.int .u64 (bs : Int)) := H1.out.cell 2
         have q0 : w2.cell? ⟨h, 0, none⟩ = some (.int .i64 qk) := H2.out.cell 0
         have q1 : w2.cell? ⟨h, 1, none⟩ = some (.string (strB qn)) := H2.out.cell 1
         have q2 : w2.cell? ⟨h, 2, none⟩ = some (.slice adq nq cpq) := H2.out.cell 2)
      | (clear tk2; go_at_call 8; refine (few19_any (.slice adb nb cpb) _ _ (HB.out.below HBL.out)).mono ?_; rintro e wq2 ⟨rfl, hq⟩
         obtain rfl := hq.symm
         rw [HF1.out])
      | (clear tk3; go_at_call 9; refine (works19_any _ (HKO.out.below HBL.out HKO.out.lt)).mono ?_; rintro e wz ⟨rfl, hz⟩
         have HBZ : Hid (Below w.heap.size w wz) := HBL.out.trans (hz.mono HBL.out.size)
         clear hz))
    go_ret
    exact ⟨rfl, HBZ.out⟩
  case pos =>
  by_cases h2 : qy.length ≤ 2000
  case neg =>
    have HF1 : Hid (decide (bk.length ≤ 2000) = true) := decide_eq_true h1
    have HF2 : Hid (decide (qy.length ≤ 2000) = false) := decide_eq_false h2
    clear h1 h2 ha hbs
    go_enter Tryd.func3, Tryd.ntmps3
    have tk0 : Hid True := trivial
    have tk1 : Hid True := trivial
    have tk2 : Hid True := trivial
    have tk3 : Hid True := trivial
    have tk4 : Hid True := trivial
    go_wp2_with (first
      | (clear tk0; with_reducible refine wpSeq_boxW 25 (.tmp 0) (bcl bn (.slice adb nb cpb) bs) ?_ ?_ ?_ ?_
         · rfl
         · rfl
         · rfl
         intro g w1 nn
         have hb := nn.below
         have H1 : Hid (Blk w1 g (bcl bn (.slice adb nb cpb) bs) 25) := nn.blk
         clear nn
         replace HBL : Hid (Below w.heap.size w w1) := HBL.out.trans (hb.mono HBL.out.size)
         clear hb)
      | (clear tk1; with_reducible refine wpSeq_boxW 29 (.tmp 2) (reqV qk qn (.slice adq nq cpq) au) ?_ ?_ ?_ ?_
         · rfl
         · rfl
         · rfl
         intro h w2 nn
         have hb := nn.below
         have H2 : Hid (Blk w2 h (reqV qk qn (.slice adq nq cpq) au) 29) := nn.blk
         clear nn
         replace H1 : Hid (Blk w2 g (bcl bn (.slice adb nb cpb) bs) 25) := H1.out.below hb H1.out.lt
         replace HBL : Hid (Below w.heap.size w w2) := HBL.out.trans (hb.mono HBL.out.size)
         clear hb
         have b0 : w2.cell? ⟨g, 0, none⟩ = some (.string (strB bn)) := H1.out.cell 0
         have b1 : w2.cell? ⟨g, 1, none⟩ = some (.slice adb nb cpb) := H1.out.cell 1
         have b2 : w2.cell? ⟨g, 2, none⟩ = some (.int .u64 (bs : Int)) := H1.out.cell 2
         have q0 : w2.cell? ⟨h, 0, none⟩ = some (.int .i64 qk) := H2.out.cell 0
         have q1 : w2.cell? ⟨h, 1, none⟩ = some (.string (strB qn)) := H2.out.cell 1
         have q2 : w2.cell? ⟨h, 2, none⟩ = some (.slice adq nq cpq) := H2.out.cell 2)
      | (clear tk2; go_at_call 8; refine (few19_any (.slice adb nb cpb) _ _ (HB.out.below HBL.out)).mono ?_; rintro e wq2 ⟨rfl, hq⟩
         obtain rfl := hq.symm
         rw [HF1.out])
      | (clear tk3; go_at_call 8; refine (few19_any (.slice adq nq cpq) _ _ (HK.out.below HBL.out)).mono ?_; rintro e wq3 ⟨rfl, hq⟩
         obtain rfl := hq.symm
         rw [HF2.out])
      | (clear tk4; go_at_call 9; refine (works19_any _ (HKO.out.below HBL.out HKO.out.lt)).mono ?_; rintro e wz ⟨rfl, hz⟩
         have HBZ : Hid (Below w.heap.size w wz) := HBL.out.trans (hz.mono HBL.out.size)
         clear hz))
    go_ret
    exact ⟨rfl, HBZ.out⟩
  case pos =>
    have HF1 : Hid (decide (bk.length ≤ 2000) = true) := decide_eq_true h1
    have HF2 : Hid (decide (qy.length ≤ 2000) = true) := decide_eq_true h2
    obtain ⟨er, sn, HNX⟩ : ∃ er sn, Hid (nxE bn bk bs th qk qn qy au = (er, sn)) := ⟨_, _, rfl⟩
    obtain ⟨xn, HXN⟩ : ∃ x, Hid (x = if er = 0 then qn else []) := ⟨_, rfl⟩
    obtain ⟨xk, HXK⟩ : ∃ x, Hid (x = if er = 0 then qy else []) := ⟨_, rfl⟩
    have HC1 : Hid (∀ W, Below w.heap.size w W → NxC 10 W (.agg (bcl bn (.slice adb nb cpb) bs).toArray) (.bool th) (.agg (reqV qk qn (.slice adq nq cpq) au).toArray) xn xk sn er) := fun W hW => by
      rw [HXN.out, HXK.out]
      exact nxC_of HNX.out (polNext_any bn bk _ bs th qk qn qy au _ W (HKO.out.below hW HKO.out.lt) (HB.out.below hW) (HK.out.below hW) ha hbs (Nat.le_trans h1 (by decide)))
    have HC2 : Hid (∀ W, Below w.heap.size w W → NxC 11 W (.agg (bcl bn (.slice adb nb cpb) bs).toArray) (.bool th) (.agg (reqV qk qn (.slice adq nq cpq) au).toArray) xn xk sn er) := fun W hW => by
      rw [HXN.out, HXK.out]
      exact nxC_of HNX.out (yNext_any bn bk _ bs th qk qn qy au _ W (HB.out.below hW) (HK.out.below hW) ha hbs (Nat.le_trans h1 (by decide)))
    clear h1 h2 ha hbs
    go_enter Tryd.func3, Tryd.ntmps3
    have tk0 : Hid True := trivial
    have tk1 : Hid True := trivial
    have tk2 : Hid True := trivial
    have tk3 : Hid True := trivial
    have tk4 : Hid True := trivial
    have tk5 : Hid True := trivial
    have tk6 : Hid True := trivial
    have tk7 : Hid True := trivial
    have tk8 : Hid True := trivial
    have tk9 : Hid True := trivial
    have tk10 : Hid True := trivial
    have tk11 : Hid True := trivial
    have tk12 : Hid True := trivial
    have tk13 : Hid True := trivial
    have tk14 : Hid True := trivial
    have tk15 : Hid True := trivial
    have tk16 : Hid True := trivial
    have tk17 : Hid True := trivial
    go_wp2_with (first
      | (clear tk0; with_reducible refine wpSeq_boxW 25 (.tmp 0) (bcl bn (.slice adb nb cpb) bs) ?_ ?_ ?_ ?_
         · rfl
         · rfl
         · rfl
         intro g w1 nn
         have hb := nn.below
         have H1 : Hid (Blk w1 g (bcl bn (.slice adb nb cpb) bs) 25) := nn.blk
         clear nn
         replace HBL : Hid (Below w.heap.size w w1) := HBL.out.trans (hb.mono HBL.out.size)
         clear hb)
      | (clear tk1; with_reducible refine wpSeq_boxW 29 (.tmp 2) (reqV qk qn (.slice adq nq cpq) au) ?_ ?_ ?_ ?_
         · rfl
         · rfl
         · rfl
         intro h w2 nn
         have hb := nn.below
         have H2 : Hid (Blk w2 h (reqV qk qn (.slice adq nq cpq) au) 29) := nn.blk
         clear nn
         replace H1 : Hid (Blk w2 g (bcl bn (.slice adb nb cpb) bs) 25) := H1.out.below hb H1.out.lt
         replace HBL : Hid (Below w.heap.size w w2) := HBL.out.trans (hb.mono HBL.out.size)
         clear hb
         have b0 : w2.cell? ⟨g, 0, none⟩ = some (.string (strB bn)) := H1.out.cell 0
         have b1 : w2.cell? ⟨g, 1, none⟩ = some (.slice adb nb cpb) := H1.out.cell 1
         have b2 : w2.cell? ⟨g, 2, none⟩ = some (.int .u64 (bs : Int)) := H1.out.cell 2
         have q0 : w2.cell? ⟨h, 0, none⟩ = some (.int .i64 qk) := H2.out.cell 0
         have q1 : w2.cell? ⟨h, 1, none⟩ = some (.string (strB qn)) := H2.out.cell 1
         have q2 : w2.cell? ⟨h, 2, none⟩ = some (.slice adq nq cpq) := H2.out.cell 2)
      | (clear tk2; go_at_call 8; refine (few19_any (.slice adb nb cpb) _ _ (HB.out.below HBL.out)).mono ?_; rintro e wq2 ⟨rfl, hq⟩
         obtain rfl := hq.symm
         rw [HF1.out])
      | (clear tk3; go_at_call 8; refine (few19_any (.slice adq nq cpq) _ _ (HK.out.below HBL.out)).mono ?_; rintro e wq3 ⟨rfl, hq⟩
         obtain rfl := hq.symm
         rw [HF2.out])
      | (clear tk4; with_reducible refine wpSeq_loadW 25 (.tmp 3) g 0 (bcl bn (.slice adb nb cpb) bs) _ H1.out.range Tryd.underlying25 rfl info_bcl ?_ ?_ ?_ ?_
         · rfl
         · rfl
         · rfl)
      | (clear tk5; with_reducible refine wpSeq_loadW 29 (.tmp 5) h 0 (reqV qk qn (.slice adq nq cpq) au) _ H2.out.range Tryd.underlying29 rfl (info_reqV HA.out) ?_ ?_ ?_ ?_
         · rfl
         · rfl
         · rfl)
      | (clear tk6; go_at_call 10; refine (HC1.out _ HBL.out).mono ?_; rintro e w3 ⟨a3, n3, c3, rfl, hr, hb⟩
         have HR3 : Hid (Reads w3 (.slice a3 n3 c3) xk) := hr
         clear hr
         clear b0 b1 b2 q0 q1 q2
         replace H1 : Hid (Blk w3 g (bcl bn (.slice adb nb cpb) bs) 25) := H1.out.below hb H1.out.lt
         replace H2 : Hid (Blk w3 h (reqV qk qn (.slice adq nq cpq) au) 29) := H2.out.below hb H2.out.lt
         replace HBL : Hid (Below w.heap.size w w3) := HBL.out.trans (hb.mono HBL.out.size)
         clear hb)
      | (clear tk7; with_reducible refine wpSeq_allocB ?_ ?_ ?_
         · rfl
         · rfl
         intro g7 w4 nn
         have HNN : Hid (NewR (bcl [] (.slice none 0 0) 0) 25 w3 g7 w4) := nn
         clear nn)
      | (clear tk8; with_reducible refine wpSeq_storeRow 25 (.tmp 7) (.tmp 27) g7 (bcl [] (.slice none 0 0) 0) (bcl xn (.slice a3 n3 c3) sn) HNN.out.blk len_bcl info_bcl bcl_one ?_ ?_ ?_ ?_ ?_
         · rfl
         · rfl
         · rfl
         · rfl
         intro w5 sr
         have hb : Below w3.heap.size w3 w5 := HNN.out.below.trans (sr.only.below HNN.out.ge HNN.out.below.size)
         have H7 : Hid (Blk w5 g7 (bcl xn (.slice a3 n3 c3) sn) 25) := sr.blk
         replace HR3 : Hid (Reads w5 (.slice a3 n3 c3) xk) := HR3.out.below hb
         clear sr HNN
         replace H1 : Hid (Blk w5 g (bcl bn (.slice adb nb cpb) bs) 25) := H1.out.below hb H1.out.lt
         replace H2 : Hid (Blk w5 h (reqV qk qn (.slice adq nq cpq) au) 29) := H2.out.below hb H2.out.lt
         replace HBL : Hid (Below w.heap.size w w5) := HBL.out.trans (hb.mono HBL.out.size)
         clear hb)
      | (clear tk9; with_reducible refine wpSeq_loadW 25 (.tmp 3) g 0 (bcl bn (.slice adb nb cpb) bs) _ H1.out.range Tryd.underlying25 rfl info_bcl ?_ ?_ ?_ ?_
         · rfl
         · rfl
         · rfl)
      | (clear tk10; with_reducible refine wpSeq_loadW 29 (.tmp 5) h 0 (reqV qk qn (.slice adq nq cpq) au) _ H2.out.range Tryd.underlying29 rfl (info_reqV HA.out) ?_ ?_ ?_ ?_
         · rfl
         · rfl
         · rfl)
      | (clear tk11; go_at_call 11; refine (HC2.out _ HBL.out).mono ?_; rintro e w6 ⟨a5, n5, c5, rfl, hr, hb⟩
         have HR5 : Hid (Reads w6 (.slice a5 n5 c5) xk) := hr
         clear hr
         replace HR3 : Hid (Reads w6 (.slice a3 n3 c3) xk) := HR3.out.below hb
         replace H1 : Hid (Blk w6 g (bcl bn (.slice adb nb cpb) bs) 25) := H1.out.below hb H1.out.lt
         replace H2 : Hid (Blk w6 h (reqV qk qn (.slice adq nq cpq) au) 29) := H2.out.below hb H2.out.lt
         replace H7 : Hid (Blk w6 g7 (bcl xn (.slice a3 n3 c3) sn) 25) := H7.out.below hb H7.out.lt
         replace HBL : Hid (Below w.heap.size w w6) := HBL.out.trans (hb.mono HBL.out.size)
         clear hb)
      | (clear tk12; with_reducible refine wpSeq_allocB ?_ ?_ ?_
         · rfl
         · rfl
         intro g9 w7 nn
         have HNN : Hid (NewR (bcl [] (.slice none 0 0) 0) 25 w6 g9 w7) := nn
         clear nn)
      | (clear tk13; with_reducible refine wpSeq_storeRow 25 (.tmp 9) (.tmp 34) g9 (bcl [] (.slice none 0 0) 0) (bcl xn (.slice a5 n5 c5) sn) HNN.out.blk len_bcl info_bcl bcl_one ?_ ?_ ?_ ?_ ?_
         · rfl
         · rfl
         · rfl
         · rfl
         intro w8 sr
         have hb : Below w6.heap.size w6 w8 := HNN.out.below.trans (sr.only.below HNN.out.ge HNN.out.below.size)
         have H9 : Hid (Blk w8 g9 (bcl xn (.slice a5 n5 c5) sn) 25) := sr.blk
         replace HR3 : Hid (Reads w8 (.slice a3 n3 c3) xk) := HR3.out.below hb
         replace HR5 : Hid (Reads w8 (.slice a5 n5 c5) xk) := HR5.out.below hb
         clear sr HNN
         replace H1 : Hid (Blk w8 g (bcl bn (.slice adb nb cpb) bs) 25) := H1.out.below hb H1.out.lt
         replace H2 : Hid (Blk w8 h (reqV qk qn (.slice adq nq cpq) au) 29) := H2.out.below hb H2.out.lt
         replace H7 : Hid (Blk w8 g7 (bcl xn (.slice a3 n3 c3) sn) 25) := H7.out.below hb H7.out.lt
         replace HBL : Hid (Below w.heap.size w w8) := HBL.out.trans (hb.mono HBL.out.size)
         clear hb)
      | (clear tk14; with_reducible refine wpSeq_loadW 25 (.tmp 7) g7 0 (bcl xn (.slice a3 n3 c3) sn) _ H7.out.range Tryd.underlying25 rfl info_bcl ?_ ?_ ?_ ?_
         · rfl
         · rfl
         · rfl)
      | (clear tk15; with_reducible refine wpSeq_loadW 25 (.tmp 9) g9 0 (bcl xn (.slice a5 n5 c5) sn) _ H9.out.range Tryd.underlying25 rfl info_bcl ?_ ?_ ?_ ?_
         · rfl
         · rfl
         · rfl)
      | (clear tk16; go_at_call 12; refine (sameBinding_any xn xn xk xk (.slice a3 n3 c3) (.slice a5 n5 c5) sn sn _ HR3.out HR5.out).mono ?_; rintro e w9 ⟨rfl, hb⟩
         rw [decide_eq_true (⟨rfl, rfl, rfl⟩ : xn = xn ∧ sn = sn ∧ xk = xk)]
         clear HR3 HR5
         replace H1 : Hid (Blk w9 g (bcl bn (.slice adb nb cpb) bs) 25) := H1.out.below hb H1.out.lt
         replace H2 : Hid (Blk w9 h (reqV qk qn (.slice adq nq cpq) au) 29) := H2.out.below hb H2.out.lt
         replace H7 : Hid (Blk w9 g7 (bcl xn (.slice a3 n3 c3) sn) 25) := H7.out.below hb H7.out.lt
         replace H9 : Hid (Blk w9 g9 (bcl xn (.slice a5 n5 c5) sn) 25) := H9.out.below hb H9.out.lt
         replace HBL : Hid (Below w.heap.size w w9) := HBL.out.trans (hb.mono HBL.out.size)
         clear hb)
      | (clear tk17; go_at_call 9; refine (works19_any _ (HKO.out.below HBL.out HKO.out.lt)).mono ?_; rintro e wz ⟨rfl, hz⟩
         have HBZ : Hid (Below w.heap.size w wz) := HBL.out.trans (hz.mono HBL.out.size)
         clear hz))
    go_ret
    exact ⟨rfl, HBZ.out⟩
end Go.Proofs.YtmkjcgjbhibnpaaDoor
/- What the listed variable gives: the rounds' words lie where the walks look for them. -/
namespace Go.Proofs.YtmkjcgjbhibnpaaDoor
open Go.ChangeShapes Go.WideShapes Go.ChangeAt Go.WideMaps Go.WideElems Go.RowKit
set_option maxRecDepth 100000
theorem own : ownKnob Tryd.prog.godebug = none := by kernel_rfl
theorem gKw : Tryd.prog.globalNamed "blazon/sha.roundWords" = some 0 := by kernel_rfl
theorem tKw : (Tryd.prog.globals[0]?).map (·.type) = some 74 := by kernel_rfl
def laidK : List (String × DataW Unit) := [("blazon/sha.roundWords", Rows.laid_blazon_sha_roundWords)]
def kzs : List Int := kw.map fun x => (x.toNat : Int)
theorem laid_tab : (Rows.laid_blazon_sha_roundWords : DataW Unit) = Lib.tabData .u32 kzs := by kernel_rfl
theorem door_met (os : Os) (args : Array Value) : laidMetH Tryd.prog laidK ((World.doorLaid Tryd.prog 400 os).forCall (fun _ _ => 0) ⟨#[], args, []⟩).memory :=
  laidMetH_of_parts3 (fuel := 8) (laidMet_of_run' 8 (by kernel_rfl) (by kernel_rfl)) (by kernel_rfl) (by kernel_rfl)
theorem getD_toNat (l : List (BitVec 32)) (j : Nat) : (l.map fun x => (x.toNat : Int)).getD j 0 = ((l.getD j 0).toNat : Int) := by
  rw [List.getD_eq_getElem?_getD, List.getD_eq_getElem?_getD, List.getElem?_map]
  cases l[j]? <;> rfl
theorem kok_of_laid {W : World} (h : laidMetH Tryd.prog laidK W) : KOk W := by
  rw [MakeChecks.laidMetH_plain _ _ _ (by kernel_rfl)] at h
  unfold laidK at h
  rw [laid_tab] at h
  have hT := Lib.tabIs_of_head gKw tKw Tryd.underlying74 Tryd.underlying61 (by kernel_rfl) (by kernel_rfl) h
  intro j hj
  rw [hT.cell gKw j (by simpa [kzs, kw] using hj), kzs, getD_toNat]
end Go.Proofs.YtmkjcgjbhibnpaaDoor
/- What a slice of bytes that came in gives: the bytes that it reads as; and that it reads so still behind a call that changed no old block. -/
namespace Go.Proofs.YtmkjcgjbhibnpaaDoor
open Go.ChangeShapes Go.WideShapes Go.ChangeAt Go.WideMaps Go.WideElems Go.RowKit
set_option maxRecDepth 100000
theorem cells_byte : Tryd.prog.cellsOf 5 = 1 := by kernel_rfl
theorem laid_out : laidOutB Tryd.prog = true := by kernel_rfl
theorem readable_bytes : Tryd.prog.readableRec 22 = true := by kernel_rfl
theorem row_bytes : 22 < Tryd.prog.types.size := of_decide_eq_true (by kernel_rfl)
theorem byte_range {zs : List Int} (h : ∀ n ∈ zs, (Lit.int .u8 n).wf = true) (j : Nat) : 0 ≤ zs.getD j 0 ∧ zs.getD j 0 < 256 := by
  rw [List.getD_eq_getElem?_getD]
  cases hj : zs[j]? with
  | none => simp
  | some n =>
    have := h n (List.mem_of_getElem? hj)
    have := bounds_u8 this
    simp
    omega
theorem reads_of_trod {H : Type} {enc : TypeId × Value → H} {W : World} {base : Nat} {v : Value} {d : DataW H} {p : List MemPlace} (hval : Value.okWide Tryd.prog W .any base 22 v)
    (h : DataW.Trod enc Tryd.prog W 0 (fun _ => true) true 22 v d p) :
    ∃ bs, Reads W v bs ∧ bs.length ≤ maxLen ∧ ∀ x ∈ p, x.block < W.heap.size := by
  obtain ⟨a1, len, cap, rfl⟩ := okWide_slice Tryd.underlying22 hval
  obtain ⟨fuel, hf⟩ := h
  rcases open_ints Tryd.underlying22 Tryd.underlying5 cells_byte hf with ⟨hcs, hx⟩ | ⟨a, len', cap', zs, hcs, _, hl, hm, hz, hx, hcell, hwz⟩
  · simp [Value.cells] at hcs
    obtain ⟨rfl, rfl, rfl⟩ := hcs
    simp only [Prod.mk.injEq] at hx
    obtain ⟨rfl, rfl⟩ := hx
    exact ⟨[], ⟨none, 0, rfl, Nat.le_refl _, fun _ => rfl, fun h => by cases h⟩, Nat.zero_le _, fun _ h => by cases h⟩
  · simp [Value.cells] at hcs
    obtain ⟨rfl, rfl, rfl⟩ := hcs
    simp only [Prod.mk.injEq] at hx
    obtain ⟨rfl, rfl⟩ := hx
    simp only [if_true] at hz
    have hlen : ((zs.take len).map fun n => BitVec.ofInt 8 n).length = len := by simp; omega
    obtain ⟨ab, ao, spot⟩ := a
    refine ⟨(zs.take len).map fun n => BitVec.ofInt 8 n, ⟨some ⟨ab, ao, spot⟩, cap, by rw [hlen], by rw [hlen]; exact hl, (fun h => by cases h), fun hp => ?_⟩, by rw [hlen]; omega, fun x hx => ?_⟩
    · rw [hlen] at hp ⊢
      have hspot : spot = none := by simpa [Addr.add] using World.cell?_spot (hcell 0 (by omega))
      subst hspot
      refine ⟨ab, ao, rfl, fun j hj => ?_⟩
      have hcj := hcell j (by omega)
      rw [Addr.add_lit] at hcj
      rw [hcj]
      have hb := byte_range hwz j
      have e : ((zs.take len).map fun n => BitVec.ofInt 8 n).getD j 0 = BitVec.ofInt 8 (zs.getD j 0) := by
        rw [List.getD_eq_getElem?_getD, List.getElem?_map, List.getElem?_take_of_lt hj, List.getD_eq_getElem?_getD, List.getElem?_eq_getElem (show j < zs.length by omega)]
        rfl
      rw [e, BitVec.toNat_ofInt]
      congr 2
      omega
    · simp only [MemPlace.row, List.mem_map, List.mem_range] at hx
      obtain ⟨i, hi, rfl⟩ := hx
      have hcj := hcell i (by omega)
      have := block_lt_of_cell hcj
      simp only [Addr.add] at this
      split at this <;> exact this
end Go.Proofs.YtmkjcgjbhibnpaaDoor
/- What a digest that came in gives: its 32 bytes. -/
namespace Go.Proofs.YtmkjcgjbhibnpaaDoor
open Go.ChangeShapes Go.WideShapes Go.ChangeAt Go.WideMaps Go.WideElems Go.RowKit
set_option maxRecDepth 100000
theorem cells_digest : Tryd.prog.cellsOf 27 = 32 := by kernel_rfl
def numOf8 : Value → BitVec 8
  | .int _ n => BitVec.ofInt 8 n
  | _ => 0
end Go.Proofs.YtmkjcgjbhibnpaaDoor
/- What a binding, a root and a pair of digests that came in give: their parts. -/
namespace Go.Proofs.YtmkjcgjbhibnpaaDoor
open Go.ChangeShapes Go.WideShapes Go.ChangeAt Go.WideMaps Go.WideElems Go.RowKit
set_option maxRecDepth 100000
theorem readable_binding : Tryd.prog.readableRec 25 = true := by kernel_rfl
theorem row_binding : 25 < Tryd.prog.types.size := of_decide_eq_true (by kernel_rfl)
theorem cells_binding : Tryd.prog.cellsOf 25 = 3 := by kernel_rfl
theorem cells_string : Tryd.prog.cellsOf 9 = 1 := by kernel_rfl
theorem cells_u64 : Tryd.prog.cellsOf 23 = 1 := by kernel_rfl
theorem cells_bytes1 : Tryd.prog.cellsOf 22 = 1 := by kernel_rfl
theorem digest_of_cells {H : Type} {enc : TypeId × Value → H} {W : World} {fuel : Nat} {cs : List Value} {y : DataW H × List MemPlace} (hf : DataW.trod enc Tryd.prog W 0 (fun _ => true) true fuel 27 cs = some y) :
    ∃ dg, cs = cb dg ∧ dg.length = 32 := by
  obtain ⟨xs, m, _, hx, hl, hn, hi⟩ := DataW.trod_array Tryd.underlying27 hf
  rw [cells_digest] at hl
  rw [cells_byte] at hi
  have each : ∀ i, i < 32 → ∃ n, cs[i]? = some (.int .u8 n) ∧ (Lit.int .u8 n).wf = true := by
    intro i h32
    have h1 := hi i h32
    rw [List.getElem?_eq_getElem (by omega)] at h1
    obtain ⟨n, hc, _, hw⟩ := DataW.trod_int Tryd.underlying5 h1
    refine ⟨n, ?_, hw⟩
    rw [Nat.mul_one] at hc
    have h2 := congrArg (fun l => l[0]?) hc
    simpa using h2
  have hlen : (cs.map numOf8).length = 32 := by simpa using hl
  refine ⟨cs.map numOf8, ?_, hlen⟩
  apply List.ext_getElem?
  intro i
  by_cases h32 : i < 32
  · obtain ⟨n, h1, hw⟩ := each i h32
    have hb := bounds_u8 hw
    rw [h1, cb_get _ _ (by omega), List.getD_eq_getElem?_getD, List.getElem?_map, h1]
    simp only [Option.map_some, Option.getD_some, numOf8, BitVec.toNat_ofInt]
    congr 2
    omega
  · rw [List.getElem?_eq_none (by omega), List.getElem?_eq_none (by rw [cb_len]; omega)]
theorem strB_of (s : ByteArray) : ∃ nm, s = strB nm := by
  refine ⟨s.data.toList.map fun b => BitVec.ofNat 8 b.toNat, ?_⟩
  have h := strB_data (s.data.toList.map fun b => BitVec.ofNat 8 b.toNat)
  have h2 : (s.data.toList.map fun b => BitVec.ofNat 8 b.toNat).map (fun b => UInt8.ofNat b.toNat) = s.data.toList := by
    rw [List.map_map]
    have : ((fun b : BitVec 8 => UInt8.ofNat b.toNat) ∘ fun b : UInt8 => BitVec.ofNat 8 b.toNat) = id := by
      funext b
      simp only [Function.comp, BitVec.toNat_ofNat, id]
      have := b.toNat_lt
      rw [Nat.mod_eq_of_lt (by omega)]
      simp
    rw [this, List.map_id]
  rw [h2] at h
  obtain ⟨d⟩ := s
  generalize strB _ = t at *
  obtain ⟨e⟩ := t
  simp only at h
  rw [Array.ext' h]
theorem reads_of_cells0 {H : Type} {enc : TypeId × Value → H} {W : World} {v : Value} {y : DataW H × List MemPlace} {fuel : Nat} (hf : DataW.trod enc Tryd.prog W 0 (fun _ => true) true fuel 22 [v] = some y) :
    ∃ bs, Reads W v bs := by
  rcases open_ints Tryd.underlying22 Tryd.underlying5 cells_byte hf with ⟨hcs, hx⟩ | ⟨a, len, cap, zs, hcs, _, hl, hm, hz, hx, hcell, hwz⟩
  · simp only [List.cons.injEq, and_true] at hcs
    subst hcs
    exact ⟨[], ⟨none, 0, rfl, Nat.le_refl _, fun _ => rfl, fun h => by cases h⟩⟩
  · simp only [List.cons.injEq, and_true] at hcs
    subst hcs
    simp only [if_true] at hz
    have hlen : ((zs.take len).map fun n => BitVec.ofInt 8 n).length = len := by simp; omega
    obtain ⟨ab, ao, spot⟩ := a
    refine ⟨(zs.take len).map fun n => BitVec.ofInt 8 n, ⟨some ⟨ab, ao, spot⟩, cap, by rw [hlen], by rw [hlen]; exact hl, (fun h => by cases h), fun hp => ?_⟩⟩
    rw [hlen] at hp ⊢
    have hspot : spot = none := by simpa [Addr.add] using World.cell?_spot (hcell 0 (by omega))
    subst hspot
    refine ⟨ab, ao, rfl, fun j hj => ?_⟩
    have hcj := hcell j (by omega)
    rw [Addr.add_lit] at hcj
    rw [hcj]
    have hb := byte_range hwz j
    have e : ((zs.take len).map fun n => BitVec.ofInt 8 n).getD j 0 = BitVec.ofInt 8 (zs.getD j 0) := by
      rw [List.getD_eq_getElem?_getD, List.getElem?_map, List.getElem?_take_of_lt hj, List.getD_eq_getElem?_getD, List.getElem?_eq_getElem (show j < zs.length by omega)]
      rfl
    rw [e, BitVec.toNat_ofInt]
    congr 2
    omega
theorem binding_of_trod {H : Type} {enc : TypeId × Value → H} {W : World} {base : Nat} {v : Value} {d : DataW H} {p : List MemPlace} (hval : Value.okWide Tryd.prog W .any base 25 v)
    (h : DataW.Trod enc Tryd.prog W 0 (fun _ => true) true 25 v d p) :
    ∃ nm vk ky sr, v = .agg #[.string (strB nm), vk, .int .u64 ((sr : Nat) : Int)] ∧ Reads W vk ky ∧ sr < 18446744073709551616 ∧ ∀ x ∈ p, x.block < W.heap.size := by
  simp only [Value.okWide, Tryd.underlying25] at hval
  obtain ⟨cs, rfl, hcs, _⟩ := hval
  obtain ⟨fuel, hf⟩ := h
  have hp := DataW.trod_lt _ _ _ _ hf
  obtain ⟨y0, y1, y2, n, hx, hl, h0, h1, h2⟩ := Go.Deep.trod_struct3 Tryd.underlying25 hf
  simp only [Value.cells] at hl h0 h1 h2
  rw [cells_binding] at hl
  rw [cells_string] at h0
  rw [cells_bytes1] at h1
  rw [cells_u64] at h2
  obtain ⟨l⟩ := cs
  match l, hl with
  | [c0, c1, c2], _ =>
    obtain ⟨s, e0, _, _⟩ := DataW.trod_string Tryd.underlying9 h0
    obtain ⟨bs, hr⟩ := reads_of_cells0 (v := c1) h1
    obtain ⟨m, e2, _, hw⟩ := DataW.trod_int Tryd.underlying23 h2
    simp at e0 e2
    subst e0 e2
    obtain ⟨nm, rfl⟩ := strB_of s
    have hb := bounds_u64 hw
    refine ⟨nm, c1, bs, m.toNat, ?_, hr, by omega, hp⟩
    rw [Int.toNat_of_nonneg (by omega)]
end Go.Proofs.YtmkjcgjbhibnpaaDoor
/- What a bool that came in gives. -/
namespace Go.Proofs.YtmkjcgjbhibnpaaDoor
open Go.ChangeShapes Go.WideShapes Go.ChangeAt Go.WideMaps Go.WideElems Go.RowKit
set_option maxRecDepth 100000
theorem open_boolP {H : Type} {enc : TypeId × Value → H} {W : World} {base : Nat} {v : Value} {d : DataW H} {p : List MemPlace} (hval : Value.okWide Tryd.prog W .any base 4 v)
    (h : DataW.Trod enc Tryd.prog W 0 (fun _ => true) true 4 v d p) : ∃ b, v = .bool b ∧ d = .lit (.bool b) ∧ p = [] := by
  obtain ⟨b, rfl⟩ := okWide_bool Tryd.underlying4 hval
  obtain ⟨fuel, hf⟩ := h
  obtain ⟨b', hc, hx⟩ := DataW.trod_bool Tryd.underlying4 hf
  simp [Value.cells] at hc
  subst hc
  simp only [Prod.mk.injEq] at hx
  exact ⟨b, rfl, hx.1, hx.2⟩
end Go.Proofs.YtmkjcgjbhibnpaaDoor
/- The opening of a request (layer 19). -/
namespace Go.Proofs.YtmkjcgjbhibnpaaDoor
open Go.ChangeShapes Go.WideShapes Go.ChangeAt Go.WideMaps Go.WideElems Go.RowKit
set_option maxRecDepth 100000
theorem cells_int1 : Tryd.prog.cellsOf 3 = 1 := by kernel_rfl
set_option maxRecDepth 100000 in
theorem readable_request : Tryd.prog.readableRec 29 = true := by kernel_rfl
set_option maxRecDepth 100000 in
theorem row_request : 29 < Tryd.prog.types.size := of_decide_eq_true (by kernel_rfl)
set_option maxRecDepth 100000 in
theorem cells_request : Tryd.prog.cellsOf 29 = 35 := by kernel_rfl
theorem take_one {l : List Value} {k n : Nat} (hl : l.length = n) (hk : k < n) : ∃ c, (l.drop k).take 1 = [c] := by
  have h : (l.drop k).length = n - k := by rw [List.length_drop, hl]
  match hq : l.drop k, h with
  | [], h => simp at h; omega
  | c :: r, _ => exact ⟨c, rfl⟩
set_option maxRecDepth 100000 in
theorem request_of_trod {H : Type} {enc : TypeId × Value → H} {W : World} {base : Nat} {v : Value} {d : DataW H} {p : List MemPlace} (hval : Value.okWide Tryd.prog W .any base 29 v)
    (h : DataW.Trod enc Tryd.prog W 0 (fun _ => true) true 29 v d p) :
    ∃ kd nm vk ky au, v = .agg (reqV kd nm vk au).toArray ∧ Reads W vk ky ∧ au.length = 32 ∧ ∀ q ∈ p, q.block < W.heap.size := by
  simp only [Value.okWide, Tryd.underlying29] at hval
  obtain ⟨cs, rfl, hcs, _⟩ := hval
  obtain ⟨fuel, hf⟩ := h
  have hp := DataW.trod_lt _ _ _ _ hf
  obtain ⟨y0, y1, y2, y3, n, hx, hl, h0, h1, h2, h3⟩ := Go.Joins.trod_struct4 Tryd.underlying29 hf
  simp only [Value.cells] at hl h0 h1 h2 h3
  rw [cells_request] at hl
  rw [cells_int1] at h0
  rw [cells_string] at h1
  rw [cells_bytes1] at h2
  rw [cells_digest] at h3
  obtain ⟨l⟩ := cs
  simp only at hl h0 h1 h2 h3
  have d0 : l = l.take 1 ++ l.drop 1 := (List.take_append_drop 1 l).symm
  have d1 : l.drop 1 = (l.drop 1).take 1 ++ l.drop 2 := by
    have := (List.take_append_drop 1 (l.drop 1)).symm
    rwa [List.drop_drop] at this
  have d2 : l.drop 2 = (l.drop 2).take 1 ++ l.drop 3 := by
    have := (List.take_append_drop 1 (l.drop 2)).symm
    rwa [List.drop_drop] at this
  have d3 : l.drop 3 = (l.drop 3).take 32 := by rw [List.take_of_length_le (by rw [List.length_drop]; omega)]
  rw [List.drop_zero] at h0
  obtain ⟨m, e0, _, hw⟩ := DataW.trod_int Tryd.underlying3 h0
  obtain ⟨s, e1, _, _⟩ := DataW.trod_string Tryd.underlying9 h1
  obtain ⟨nm, rfl⟩ := strB_of s
  obtain ⟨c2, e2⟩ := take_one (k := 2) hl (by omega)
  rw [e2] at h2
  obtain ⟨ky, hr⟩ := reads_of_cells0 (v := c2) h2
  obtain ⟨z3, q3⟩ := y3
  obtain ⟨au, e3, la⟩ := digest_of_cells h3
  refine ⟨m, nm, c2, ky, au, ?_, hr, la, hp⟩
  congr 1
  rw [d0, d1, d2, d3, e0, e1, e2, e3]
  rfl
end Go.Proofs.YtmkjcgjbhibnpaaDoor
/- The walk of PolicyAsks (layer 19). -/
namespace Go.Proofs.YtmkjcgjbhibnpaaDoor
open Go.RowKit
set_option maxRecDepth 100000
set_option maxRecDepth 100000 in
set_option maxHeartbeats 16000000 in
theorem policyAsks_law (bn bk ky : By) (vb : Value) (bs : Nat) (vk : Value) (w : World) (hK : KOk w) (hb : Reads w vb bk) (hk : Reads w vk ky) (hbs : bs < 18446744073709551616) :
    Calls Tryd.prog 4 #[.agg (bcl bn vb bs).toArray, vk] w fun e w' => e = .returned (.bool true) ∧ Below w.heap.size w w' := by
  have HKO : Hid (KOk w) := hK
  have HB : Hid (Reads w vb bk) := hb
  have HK : Hid (Reads w vk ky) := hk
  obtain ⟨adb, cpb, hvb⟩ := hb.sliceP
  obtain ⟨adq, cpq, hvq⟩ := hk.sliceP
  obtain ⟨nb, HNB⟩ : ∃ x, Hid (x = bk.length) := ⟨_, rfl⟩
  obtain ⟨nq, HNQ⟩ : ∃ x, Hid (x = ky.length) := ⟨_, rfl⟩
  rw [← HNB.out] at hvb
  rw [← HNQ.out] at hvq
  subst hvb hvq
  clear hb hk hK
  have HBL : Hid (Below w.heap.size w w) := Below.refl _ _
  by_cases h1 : bk.length ≤ 2000
  case neg =>
    have HF1 : Hid (decide (bk.length ≤ 2000) = false) := decide_eq_false h1
    clear h1 hbs
    go_enter Tryd.func4, Tryd.ntmps4
    have tk0 : Hid True := trivial
    have tk1 : Hid True := trivial
    have tk2 : Hid True := trivial
    go_wp2_with (first
      | (clear tk0; with_reducible refine wpSeq_boxW 25 (.tmp 0) (bcl bn (.slice adb nb cpb) bs) ?_ ?_ ?_ ?_
         · rfl
         · rfl
         · rfl
         intro g w1 nn
         have hb := nn.below
         have H1 : Hid (Blk w1 g (bcl bn (.slice adb nb cpb) bs) 25) := nn.blk
         clear nn
         replace HBL : Hid (Below w.heap.size w w1) := HBL.out.trans (hb.mono HBL.out.size)
         clear hb
         have b0 : w1.cell? ⟨g, 0, none⟩ = some (.string (strB bn)) := H1.out.cell 0
         have b1 : w1.cell? ⟨g, 1, none⟩ = some (.slice adb nb cpb) := H1.out.cell 1
         have b2 : w1.cell? ⟨g, 2, none⟩ = some (.int .u64 (bs : Int)) := H1.out.cell 2)
      | (clear tk1; go_at_call 8; refine (few19_any (.slice adb nb cpb) _ _ (HB.out.below HBL.out)).mono ?_; rintro e wq1 ⟨rfl, hq⟩
         obtain rfl := hq.symm
         rw [HF1.out])
      | (clear tk2; go_at_call 9; refine (works19_any _ (HKO.out.below HBL.out HKO.out.lt)).mono ?_; rintro e wz ⟨rfl, hz⟩
         have HBZ : Hid (Below w.heap.size w wz) := HBL.out.trans (hz.mono HBL.out.size)
         clear hz))
    go_ret
    exact ⟨rfl, HBZ.out⟩
  case pos =>
  by_cases h2 : ky.length ≤ 2000
  case neg =>
    have HF1 : Hid (decide (bk.length ≤ 2000) = true) := decide_eq_true h1
    have HF2 : Hid (decide (ky.length ≤ 2000) = false) := decide_eq_false h2
    clear h1 h2 hbs
    go_enter Tryd.func4, Tryd.ntmps4
    have tk0 : Hid True := trivial
    have tk1 : Hid True := trivial
    have tk2 : Hid True := trivial
    have tk3 : Hid True := trivial
    go_wp2_with (first
      | (clear tk0; with_reducible refine wpSeq_boxW 25 (.tmp 0) (bcl bn (.slice adb nb cpb) bs) ?_ ?_ ?_ ?_
         · rfl
         · rfl
         · rfl
         intro g w1 nn
         have hb := nn.below
         have H1 : Hid (Blk w1 g (bcl bn (.slice adb nb cpb) bs) 25) := nn.blk
         clear nn
         replace HBL : Hid (Below w.heap.size w w1) := HBL.out.trans (hb.mono HBL.out.size)
         clear hb
         have b0 : w1.cell? ⟨g, 0, none⟩ = some (.string (strB bn)) := H1.out.cell 0
         have b1 : w1.cell? ⟨g, 1, none⟩ = some (.slice adb nb cpb) := H1.out.cell 1
         have b2 : w1.cell? ⟨g, 2, none⟩ = some (.int .u64 (bs : Int)) := H1.out.cell 2)
      | (clear tk1; go_at_call 8; refine (few19_any (.slice adb nb cpb) _ _ (HB.out.below HBL.out)).mono ?_; rintro e wq1 ⟨rfl, hq⟩
         obtain rfl := hq.symm
         rw [HF1.out])
      | (clear tk2; go_at_call 8; refine (few19_any (.slice adq nq cpq) _ _ (HK.out.below HBL.out)).mono ?_; rintro e wq2 ⟨rfl, hq⟩
         obtain rfl := hq.symm
         rw [HF2.out])
      | (clear tk3; go_at_call 9; refine (works19_any _ (HKO.out.below HBL.out HKO.out.lt)).mono ?_; rintro e wz ⟨rfl, hz⟩
         have HBZ : Hid (Below w.heap.size w wz) := HBL.out.trans (hz.mono HBL.out.size)
         clear hz))
    go_ret
    exact ⟨rfl, HBZ.out⟩
  case pos =>
  have hsz : (strB bn).size = bn.length := strB_size bn
  by_cases h3 : bn.length ≤ 2000
  case neg =>
    have HF1 : Hid (decide (bk.length ≤ 2000) = true) := decide_eq_true h1
    have HF2 : Hid (decide (ky.length ≤ 2000) = true) := decide_eq_true h2
    have hgt : (2000 : Int) < ((strB bn).size : Int) := by rw [hsz]; omega
    clear h1 h2 h3 hbs hsz
    go_enter Tryd.func4, Tryd.ntmps4
    have tk0 : Hid True := trivial
    have tk1 : Hid True := trivial
    have tk2 : Hid True := trivial
    have tk3 : Hid True := trivial
    go_wp2_with (first
      | (clear tk0; with_reducible refine wpSeq_boxW 25 (.tmp 0) (bcl bn (.slice adb nb cpb) bs) ?_ ?_ ?_ ?_
         · rfl
         · rfl
         · rfl
         intro g w1 nn
         have hb := nn.below
         have H1 : Hid (Blk w1 g (bcl bn (.slice adb nb cpb) bs) 25) := nn.blk
         clear nn
         replace HBL : Hid (Below w.heap.size w w1) := HBL.out.trans (hb.mono HBL.out.size)
         clear hb
         have b0 : w1.cell? ⟨g, 0, none⟩ = some (.string (strB bn)) := H1.out.cell 0
         have b1 : w1.cell? ⟨g, 1, none⟩ = some (.slice adb nb cpb) := H1.out.cell 1
         have b2 : w1.cell? ⟨g, 2, none⟩ = some (.int .u64 (bs : Int)) := H1.out.cell 2)
      | (clear tk1; go_at_call 8; refine (few19_any (.slice adb nb cpb) _ _ (HB.out.below HBL.out)).mono ?_; rintro e wq1 ⟨rfl, hq⟩
         obtain rfl := hq.symm
         rw [HF1.out])
      | (clear tk2; go_at_call 8; refine (few19_any (.slice adq nq cpq) _ _ (HK.out.below HBL.out)).mono ?_; rintro e wq2 ⟨rfl, hq⟩
         obtain rfl := hq.symm
         rw [HF2.out])
      | (clear tk3; go_at_call 9; refine (works19_any _ (HKO.out.below HBL.out HKO.out.lt)).mono ?_; rintro e wz ⟨rfl, hz⟩
         have HBZ : Hid (Below w.heap.size w wz) := HBL.out.trans (hz.mono HBL.out.size)
         clear hz))
    go_ret
    exact ⟨rfl, HBZ.out⟩
  case pos =>
    have HF1 : Hid (decide (bk.length ≤ 2000) = true) := decide_eq_true h1
    have HF2 : Hid (decide (ky.length ≤ 2000) = true) := decide_eq_true h2
    have hle : ¬ (2000 : Int) < ((strB bn).size : Int) := by rw [hsz]; omega
    obtain ⟨s1, HS1⟩ : ∃ x, Hid (x = (bs + 1) % 18446744073709551616) := ⟨_, rfl⟩
    have hw1 : IntKind.u64.wrap ((bs : Int) + 1) = (s1 : Int) := by rw [IntKind.wrap_u64, HS1.out]; omega
    have hs1 : s1 < 18446744073709551616 := by rw [HS1.out]; omega
    obtain ⟨dg, HDG⟩ : ∃ x, Hid (x = hmac bk (authB bn s1 ky)) := ⟨_, rfl⟩
    have HDL : Hid (dg.length = 32) := by show _ = _; rw [HDG.out]; exact len_dig' _
    obtain ⟨er, sn, HNX⟩ : ∃ er sn, Hid (nxE bn bk bs true 2 bn ky dg = (er, sn)) := ⟨_, _, rfl⟩
    obtain ⟨ck, HCK⟩ : ∃ x, Hid (x = chk bn ky) := ⟨_, rfl⟩
    have key : (ck ≠ 0 ∧ er = ck) ∨ (ck = 0 ∧ bs = 18446744073709551615 ∧ er = 12) ∨ (ck = 0 ∧ bs ≠ 18446744073709551615 ∧ er = 0 ∧ sn = s1) := by
      have h0 := HNX.out
      rw [nxE_ask, ← HCK.out] at h0
      by_cases k1 : ck = 0
      · rw [if_neg (by simp [k1])] at h0
        by_cases k2 : bs = 18446744073709551615
        · rw [if_pos k2] at h0; exact Or.inr (Or.inl ⟨k1, k2, (Prod.mk.inj h0).1.symm⟩)
        · have k3 : s1 = bs + 1 := by rw [HS1.out]; omega
          rw [if_neg k2, ← k3, if_pos HDG.out] at h0
          exact Or.inr (Or.inr ⟨k1, k2, (Prod.mk.inj h0).1.symm, (Prod.mk.inj h0).2.symm⟩)
      · rw [if_pos k1] at h0; exact Or.inl ⟨k1, (Prod.mk.inj h0).1.symm⟩
    have HCA : Hid (∀ W, Below w.heap.size w W → Calls Tryd.prog 13 #[.agg (bcl bn (.slice adb nb cpb) bs).toArray, (.slice adq nq cpq)] W fun e w' => ∃ ad n c, e = .returned (.agg (reqV 2 bn (.slice ad n c) dg).toArray) ∧ Reads w' (.slice ad n c) ky ∧ Below W.heap.size W w') := fun W hW => by
      have h := polAsk_any bn bk ky (.slice adb nb cpb) (.slice adq nq cpq) bs s1 W (HKO.out.below hW HKO.out.lt) (HB.out.below hW) (HK.out.below hW) hw1 ⟨by omega, by omega, hs1, by omega⟩
      unfold AskR at h
      rw [← HDG.out] at h
      exact h
    have HCY : Hid (∀ W, Below w.heap.size w W → Calls Tryd.prog 15 #[.agg (bcl bn (.slice adb nb cpb) bs).toArray, (.slice adq nq cpq)] W fun e w' => ∃ ad n c, e = .returned (.agg (reqV 2 bn (.slice ad n c) dg).toArray) ∧ Reads w' (.slice ad n c) ky ∧ Below W.heap.size W w') := fun W hW => by
      have h := yAsk_any bn bk ky (.slice adb nb cpb) (.slice adq nq cpq) bs s1 W (HKO.out.below hW HKO.out.lt) (HB.out.below hW) (HK.out.below hW) hw1 ⟨by omega, by omega, hs1, by omega⟩
      unfold AskR at h
      rw [← HDG.out] at h
      exact h
    obtain ⟨xn, HXN⟩ : ∃ x, Hid (x = if er = 0 then bn else []) := ⟨_, rfl⟩
    obtain ⟨xk, HXK⟩ : ∃ x, Hid (x = if er = 0 then ky else []) := ⟨_, rfl⟩
    have HCN : Hid (∀ W v, Below w.heap.size w W → Reads W v ky → NxC 10 W (.agg (bcl bn (.slice adb nb cpb) bs).toArray) (.bool true) (.agg (reqV 2 bn v dg).toArray) xn xk sn er) := fun W v hW hv => by
      rw [HXN.out, HXK.out]
      exact nxC_of HNX.out (polNext_any bn bk _ bs true 2 bn ky dg v W (HKO.out.below hW HKO.out.lt) (HB.out.below hW) hv HDL.out hbs (by omega))
    clear h1 h2 h3 hbs hsz hs1 HNX
    go_enter Tryd.func4, Tryd.ntmps4
    have tk0 : Hid True := trivial
    have tk1 : Hid True := trivial
    have tk2 : Hid True := trivial
    have tk3 : Hid True := trivial
    have tk4 : Hid True := trivial
    have tk5 : Hid True := trivial
    have tk6 : Hid True := trivial
    go_wp2_with (first
      | (clear tk0; with_reducible refine wpSeq_boxW 25 (.tmp 0) (bcl bn (.slice adb nb cpb) bs) ?_ ?_ ?_ ?_
         · rfl
         · rfl
         · rfl
         intro g w1 nn
         have hb := nn.below
         have H1 : Hid (Blk w1 g (bcl bn (.slice adb nb cpb) bs) 25) := nn.blk
         clear nn
         replace HBL : Hid (Below w.heap.size w w1) := HBL.out.trans (hb.mono HBL.out.size)
         clear hb
         have b0 : w1.cell? ⟨g, 0, none⟩ = some (.string (strB bn)) := H1.out.cell 0
         have b1 : w1.cell? ⟨g, 1, none⟩ = some (.slice adb nb cpb) := H1.out.cell 1
         have b2 : w1.cell? ⟨g, 2, none⟩ = some (.int .u64 (bs : Int)) := H1.out.cell 2)
      | (clear tk1; go_at_call 8; refine (few19_any (.slice adb nb cpb) _ _ (HB.out.below HBL.out)).mono ?_; rintro e wq1 ⟨rfl, hq⟩
         obtain rfl := hq.symm
         rw [HF1.out])
      | (clear tk2; go_at_call 8; refine (few19_any (.slice adq nq cpq) _ _ (HK.out.below HBL.out)).mono ?_; rintro e wq2 ⟨rfl, hq⟩
         obtain rfl := hq.symm
         rw [HF2.out])
      | (clear tk3; with_reducible refine wpSeq_loadW 25 (.tmp 2) g 0 (bcl bn (.slice adb nb cpb) bs) _ H1.out.range Tryd.underlying25 rfl info_bcl ?_ ?_ ?_ ?_
         · rfl
         · rfl
         · rfl)
      | (clear tk4; go_at_call 13; refine (HCA.out _ HBL.out).mono ?_; rintro e w2 ⟨aq, nq2, cq, rfl, hr, hb⟩
         have HRQ : Hid (Reads w2 (.slice aq nq2 cq) ky) := hr
         clear hr b0 b1 b2
         replace H1 : Hid (Blk w2 g (bcl bn (.slice adb nb cpb) bs) 25) := H1.out.below hb H1.out.lt
         replace HBL : Hid (Below w.heap.size w w2) := HBL.out.trans (hb.mono HBL.out.size)
         clear hb)
      | (clear tk5; with_reducible refine wpSeq_allocR ?_ ?_ ?_
         · rfl
         · rfl
         intro g5 w3 nn
         have HNR : Hid (NewR (reqV 0 [] (.slice none 0 0) zb32) 29 w2 g5 w3) := nn
         clear nn)
      | (clear tk6; with_reducible refine wpSeq_storeReq (.tmp 5) (.tmp 27) g5 2 bn dg aq nq2 cq HNR.out.blk HDL.out ?_ ?_ ?_ ?_ ?_
         · rfl
         · rfl
         · rfl
         · rfl
         intro w4 sr
         have hb : Below w2.heap.size w2 w4 := HNR.out.below.trans (sr.only.below HNR.out.ge HNR.out.below.size)
         have H5 : Hid (Blk w4 g5 (reqV 2 bn (.slice aq nq2 cq) dg) 29) := sr.blk
         replace HRQ : Hid (Reads w4 (.slice aq nq2 cq) ky) := HRQ.out.below hb
         clear sr HNR
         replace H1 : Hid (Blk w4 g (bcl bn (.slice adb nb cpb) bs) 25) := H1.out.below hb H1.out.lt
         replace HBL : Hid (Below w.heap.size w w4) := HBL.out.trans (hb.mono HBL.out.size)
         clear hb))
    refine wp_region_held_drew (S := Below w4.heap.size w4.drew) (by kernel_rfl) (Below.refl _ _) ?_
    intro hS
    clear hS
    have HBd : Hid (Below w.heap.size w w4.drew) := HBL.out.trans ((Below.refl _ _).drew.mono HBL.out.size)
    have HD0 : Hid (Blk w4.drew g (bcl bn (.slice adb nb cpb) bs) 25) := H1.out.below (Below.refl _ _).drew H1.out.lt
    have HD1 : Hid (Blk w4.drew g5 (reqV 2 bn (.slice aq nq2 cq) dg) 29) := H5.out.below (Below.refl _ _).drew H5.out.lt
    have HE0 : Hid (Reads w4.drew (.slice aq nq2 cq) ky) := HRQ.out.below (Below.refl _ _).drew
    have HLW : Hid (w.heap.size ≤ w4.heap.size) := HBL.out.size
    clear HBL H1 H5 HRQ
    obtain ⟨B, HBB⟩ : ∃ x, Hid (x = w4.heap.size) := ⟨_, rfl⟩
    have HBD : Hid (w4.drew.heap.size = B) := by rw [HBB.out]; rfl
    rw [← HBB.out] at HLW ⊢
    change wpAnyH _ _ _ _ _ _ _ _ (World.drew w4)
    generalize World.drew w4 = wd at *
    clear HBB
    have hS : Below B wd wd := Below.refl _ _
    have HX : Hid (∀ W, Below B wd W → B ≤ W.heap.size ∧ Below w.heap.size w W ∧ Blk W g (bcl bn (.slice adb nb cpb) bs) 25 ∧ Blk W g5 (reqV 2 bn (.slice aq nq2 cq) dg) 29 ∧ Reads W (.slice aq nq2 cq) ky) := fun W hW =>
      have hW2 : Below wd.heap.size wd W := hW.mono (Nat.le_of_eq HBD.out)
      ⟨by have := hW.size; rw [HBD.out] at this; exact this, HBd.out.trans (hW.mono HLW.out), HD0.out.below hW2 HD0.out.lt, HD1.out.below hW2 HD1.out.lt, HE0.out.below hW2⟩
    clear HBd HD0 HD1 HE0
    refine wpAnyH_take (i := 0) (v := .agg (reqV 2 bn (.slice aq nq2 cq) dg).toArray) rfl (by kernel_rfl) (by kernel_rfl) (by kernel_rfl) (fun _ _ _ h => h) (Or.inl ⟨by rfl, fun wx hx => by (have hq := (HX.out wx hx).2.2.2.1; exact load_run 29 _ rfl _ 0 rfl _ _ hq.range Tryd.underlying29 rfl (info_reqV HDL.out))⟩) hS ?_
    simp only [Act.put, List.getElem_toArray, List.getElem_cons_zero, List.setIfInBounds_toArray, List.set_cons_zero, List.set_cons_succ]
    refine wpAnyH_take (i := 1) (v := .agg (bcl bn (.slice adb nb cpb) bs).toArray) rfl (by kernel_rfl) (by kernel_rfl) (by kernel_rfl) (fun _ _ _ h => h) (Or.inl ⟨by rfl, fun wx hx => by exact load_reqW _ rfl _ rfl (HX.out wx hx).2.2.1⟩) hS ?_
    simp only [Act.put, List.getElem_toArray, List.getElem_cons_succ, List.getElem_cons_zero, List.setIfInBounds_toArray, List.set_cons_zero, List.set_cons_succ]
    refine wpAnyH_take (i := 2) (v := (.slice adq nq cpq)) rfl (by kernel_rfl) (by kernel_rfl) (by kernel_rfl) (fun _ _ _ h => h) (Or.inl ⟨by rfl, fun wx hx => by simp [go_sem]⟩) hS ?_
    simp only [Act.put, List.getElem_toArray, List.getElem_cons_succ, List.getElem_cons_zero, List.setIfInBounds_toArray, List.set_cons_zero, List.set_cons_succ]
    refine wpAnyH_enter 3 (by kernel_rfl) rfl (by rfl) (f := 15) (args := #[.agg (bcl bn (.slice adb nb cpb) bs).toArray, (.slice adq nq cpq)]) (by simp [go_sem]) (HCY.out _ (HX.out _ hS).2.1) ?_
    rintro e wa ⟨ay, ny, cy, rfl, hry, hb⟩
    have hS := hS.trans (hb.mono (HX.out _ hS).1)
    refine ⟨_, rfl, hS, ?_⟩
    simp only [Act.put, List.getElem_toArray, List.getElem_cons_succ, List.getElem_cons_zero, List.setIfInBounds_toArray, List.set_cons_zero, List.set_cons_succ]
    refine wpAnyH_enter 4 (by kernel_rfl) rfl (by rfl) (f := 14) (args := #[.agg (reqV 2 bn (.slice aq nq2 cq) dg).toArray, .agg (reqV 2 bn (.slice ay ny cy) dg).toArray]) (by simp [go_sem]) (sameReq_any 2 2 bn bn ky ky dg dg (.slice aq nq2 cq) (.slice ay ny cy) _ HDL.out HDL.out (HX.out _ hS).2.2.2.2 hry) ?_
    rintro e wb ⟨rfl, hb⟩
    rw [decide_eq_true (⟨rfl, rfl, rfl, rfl⟩ : (2 : Int) = 2 ∧ bn = bn ∧ ky = ky ∧ dg = dg)]
    have hS := hS.trans (hb.mono (HX.out _ hS).1)
    refine ⟨_, rfl, hS, ?_⟩
    simp only [Act.put, List.getElem_toArray, List.getElem_cons_succ, List.getElem_cons_zero, List.setIfInBounds_toArray, List.set_cons_zero, List.set_cons_succ]
    refine wpAnyH_take (i := 5) (v := .bool false) rfl (by kernel_rfl) (by kernel_rfl) (by kernel_rfl) (fun _ _ _ h => h) (Or.inl ⟨by rfl, fun wx hx => by simp [go_sem]⟩) hS ?_
    simp only [Act.put, List.getElem_toArray, List.getElem_cons_succ, List.getElem_cons_zero, List.setIfInBounds_toArray, List.set_cons_zero, List.set_cons_succ]
    refine wpAnyH_done (by kernel_rfl) ?_ _
    have HBL : Hid (Below w.heap.size w wb) := (HX.out _ hS).2.1
    have H1 : Hid (Blk wb g (bcl bn (.slice adb nb cpb) bs) 25) := (HX.out _ hS).2.2.1
    have H5 : Hid (Blk wb g5 (reqV 2 bn (.slice aq nq2 cq) dg) 29) := (HX.out _ hS).2.2.2.1
    have HRQ : Hid (Reads wb (.slice aq nq2 cq) ky) := (HX.out _ hS).2.2.2.2
    clear hS hry hb HX HBD HLW
    rcases key with ⟨k1, k2⟩ | ⟨k1, k2, k3⟩ | ⟨k1, k2, k3, k4⟩
    · have e1 : (ck != 0) = true := by simpa using k1
      have e2 : (er == ck) = true := by simp [k2]
      clear k1 k2
      have tl0 : Hid True := trivial
      have tl1 : Hid True := trivial
      have tl2 : Hid True := trivial
      have tl3 : Hid True := trivial
      have tl4 : Hid True := trivial
      have tl5 : Hid True := trivial
      have tl6 : Hid True := trivial
      go_wp2_with (first
        | (clear tl0; with_reducible refine wpSeq_loadW 25 (.tmp 2) g 0 (bcl bn (.slice adb nb cpb) bs) _ H1.out.range Tryd.underlying25 rfl info_bcl ?_ ?_ ?_ ?_
           · rfl
           · rfl
           · rfl)
        | (clear tl1; with_reducible refine wpSeq_loadW 29 (.tmp 5) g5 0 (reqV 2 bn (.slice aq nq2 cq) dg) _ H5.out.range Tryd.underlying29 rfl (info_reqV HDL.out) ?_ ?_ ?_ ?_
           · rfl
           · rfl
           · rfl)
        | (clear tl2; go_at_call 10; refine (HCN.out _ _ HBL.out HRQ.out).mono ?_; rintro e w91 ⟨a6, n6, c6, rfl, hr, hb⟩
           have HR6 : Hid (Reads w91 (.slice a6 n6 c6) xk) := hr
           clear hr
           clear HRQ
           replace H1 : Hid (Blk w91 g (bcl bn (.slice adb nb cpb) bs) 25) := H1.out.below hb H1.out.lt
           replace H5 : Hid (Blk w91 g5 (reqV 2 bn (.slice aq nq2 cq) dg) 29) := H5.out.below hb H5.out.lt
           replace HBL : Hid (Below w.heap.size w w91) := HBL.out.trans (hb.mono HBL.out.size)
           clear hb)
        | (clear tl3; with_reducible refine wpSeq_allocB ?_ ?_ ?_
           · rfl
           · rfl
           intro g6 w92 nn
           have HNN : Hid (NewR (bcl [] (.slice none 0 0) 0) 25 w91 g6 w92) := nn
           clear nn)
        | (clear tl4; with_reducible refine wpSeq_storeRow 25 (.tmp 6) (.tmp 38) g6 (bcl [] (.slice none 0 0) 0) (bcl xn (.slice a6 n6 c6) sn) HNN.out.blk len_bcl info_bcl bcl_one ?_ ?_ ?_ ?_ ?_
           · rfl
           · rfl
           · rfl
           · rfl
           intro w93 sr
           have hb : Below w91.heap.size w91 w93 := HNN.out.below.trans (sr.only.below HNN.out.ge HNN.out.below.size)
           have H6 : Hid (Blk w93 g6 (bcl xn (.slice a6 n6 c6) sn) 25) := sr.blk
           replace HR6 : Hid (Reads w93 (.slice a6 n6 c6) xk) := HR6.out.below hb
           clear sr HNN
           replace H1 : Hid (Blk w93 g (bcl bn (.slice adb nb cpb) bs) 25) := H1.out.below hb H1.out.lt
           replace H5 : Hid (Blk w93 g5 (reqV 2 bn (.slice aq nq2 cq) dg) 29) := H5.out.below hb H5.out.lt
           replace HBL : Hid (Below w.heap.size w w93) := HBL.out.trans (hb.mono HBL.out.size)
           clear hb
           have b0 : w93.cell? ⟨g, 0, none⟩ = some (.string (strB bn)) := H1.out.cell 0)
        | (clear tl5; go_at_call 16; refine (rfcheck_any bn ky (.slice adq nq cpq) _ (HK.out.below HBL.out)).mono ?_; rintro e wx93 ⟨rfl, qd, rfl⟩
           rw [← HCK.out]
           clear b0
           have hb : Below w93.heap.size w93 (w93.drewN qd) := ⟨rfl, rfl, rfl, Nat.le_refl _, fun _ _ => rfl⟩
           generalize w93.drewN qd = w94 at *
           replace HR6 : Hid (Reads w94 (.slice a6 n6 c6) xk) := HR6.out.below hb
           replace H1 : Hid (Blk w94 g (bcl bn (.slice adb nb cpb) bs) 25) := H1.out.below hb H1.out.lt
           replace H5 : Hid (Blk w94 g5 (reqV 2 bn (.slice aq nq2 cq) dg) 29) := H5.out.below hb H5.out.lt
           replace H6 : Hid (Blk w94 g6 (bcl xn (.slice a6 n6 c6) sn) 25) := H6.out.below hb H6.out.lt
           replace HBL : Hid (Below w.heap.size w w94) := HBL.out.trans (hb.mono HBL.out.size)
           clear hb
           have b0 : w94.cell? ⟨g, 0, none⟩ = some (.string (strB bn)) := H1.out.cell 0
           have b2 : w94.cell? ⟨g, 2, none⟩ = some (.int .u64 (bs : Int)) := H1.out.cell 2
           have x0 : w94.cell? ⟨g6, 0, none⟩ = some (.string (strB xn)) := H6.out.cell 0
           have x1 : w94.cell? ⟨g6, 1, none⟩ = some (.slice a6 n6 c6) := H6.out.cell 1
           have x2 : w94.cell? ⟨g6, 2, none⟩ = some (.int .u64 (sn : Int)) := H6.out.cell 2
           have x3 : (convert 22 9 (.slice a6 n6 c6)).run Tryd.prog w94 = .ok (.string (strB xk)) w94 := conv_reads HR6.out
           have x4 : (convert 22 9 (.slice adq nq cpq)).run Tryd.prog w94 = .ok (.string (strB ky)) w94 := conv_reads (HK.out.below HBL.out)
           clear HR6)
        | (clear tl6; go_at_call 9; refine (works19_any _ (HKO.out.below HBL.out HKO.out.lt)).mono ?_; rintro e wz ⟨rfl, hz⟩
           have HBZ : Hid (Below w.heap.size w wz) := HBL.out.trans (hz.mono HBL.out.size)
           clear hz))
      go_ret
      exact ⟨rfl, HBZ.out⟩
    · have e3 : (((bs : Nat) : Int) == 18446744073709551615) = true := by rw [k2]; rfl
      subst k1 k3
      clear k2
      have tl0 : Hid True := trivial
      have tl1 : Hid True := trivial
      have tl2 : Hid True := trivial
      have tl3 : Hid True := trivial
      have tl4 : Hid True := trivial
      have tl5 : Hid True := trivial
      have tl6 : Hid True := trivial
      go_wp2_with (first
        | (clear tl0; with_reducible refine wpSeq_loadW 25 (.tmp 2) g 0 (bcl bn (.slice adb nb cpb) bs) _ H1.out.range Tryd.underlying25 rfl info_bcl ?_ ?_ ?_ ?_
           · rfl
           · rfl
           · rfl)
        | (clear tl1; with_reducible refine wpSeq_loadW 29 (.tmp 5) g5 0 (reqV 2 bn (.slice aq nq2 cq) dg) _ H5.out.range Tryd.underlying29 rfl (info_reqV HDL.out) ?_ ?_ ?_ ?_
           · rfl
           · rfl
           · rfl)
        | (clear tl2; go_at_call 10; refine (HCN.out _ _ HBL.out HRQ.out).mono ?_; rintro e w91 ⟨a6, n6, c6, rfl, hr, hb⟩
           have HR6 : Hid (Reads w91 (.slice a6 n6 c6) xk) := hr
           clear hr
           clear HRQ
           replace H1 : Hid (Blk w91 g (bcl bn (.slice adb nb cpb) bs) 25) := H1.out.below hb H1.out.lt
           replace H5 : Hid (Blk w91 g5 (reqV 2 bn (.slice aq nq2 cq) dg) 29) := H5.out.below hb H5.out.lt
           replace HBL : Hid (Below w.heap.size w w91) := HBL.out.trans (hb.mono HBL.out.size)
           clear hb)
        | (clear tl3; with_reducible refine wpSeq_allocB ?_ ?_ ?_
           · rfl
           · rfl
           intro g6 w92 nn
           have HNN : Hid (NewR (bcl [] (.slice none 0 0) 0) 25 w91 g6 w92) := nn
           clear nn)
        | (clear tl4; with_reducible refine wpSeq_storeRow 25 (.tmp 6) (.tmp 38) g6 (bcl [] (.slice none 0 0) 0) (bcl xn (.slice a6 n6 c6) sn) HNN.out.blk len_bcl info_bcl bcl_one ?_ ?_ ?_ ?_ ?_
           · rfl
           · rfl
           · rfl
           · rfl
           intro w93 sr
           have hb : Below w91.heap.size w91 w93 := HNN.out.below.trans (sr.only.below HNN.out.ge HNN.out.below.size)
           have H6 : Hid (Blk w93 g6 (bcl xn (.slice a6 n6 c6) sn) 25) := sr.blk
           replace HR6 : Hid (Reads w93 (.slice a6 n6 c6) xk) := HR6.out.below hb
           clear sr HNN
           replace H1 : Hid (Blk w93 g (bcl bn (.slice adb nb cpb) bs) 25) := H1.out.below hb H1.out.lt
           replace H5 : Hid (Blk w93 g5 (reqV 2 bn (.slice aq nq2 cq) dg) 29) := H5.out.below hb H5.out.lt
           replace HBL : Hid (Below w.heap.size w w93) := HBL.out.trans (hb.mono HBL.out.size)
           clear hb
           have b0 : w93.cell? ⟨g, 0, none⟩ = some (.string (strB bn)) := H1.out.cell 0)
        | (clear tl5; go_at_call 16; refine (rfcheck_any bn ky (.slice adq nq cpq) _ (HK.out.below HBL.out)).mono ?_; rintro e wx93 ⟨rfl, qd, rfl⟩
           rw [← HCK.out]
           clear b0
           have hb : Below w93.heap.size w93 (w93.drewN qd) := ⟨rfl, rfl, rfl, Nat.le_refl _, fun _ _ => rfl⟩
           generalize w93.drewN qd = w94 at *
           replace HR6 : Hid (Reads w94 (.slice a6 n6 c6) xk) := HR6.out.below hb
           replace H1 : Hid (Blk w94 g (bcl bn (.slice adb nb cpb) bs) 25) := H1.out.below hb H1.out.lt
           replace H5 : Hid (Blk w94 g5 (reqV 2 bn (.slice aq nq2 cq) dg) 29) := H5.out.below hb H5.out.lt
           replace H6 : Hid (Blk w94 g6 (bcl xn (.slice a6 n6 c6) sn) 25) := H6.out.below hb H6.out.lt
           replace HBL : Hid (Below w.heap.size w w94) := HBL.out.trans (hb.mono HBL.out.size)
           clear hb
           have b0 : w94.cell? ⟨g, 0, none⟩ = some (.string (strB bn)) := H1.out.cell 0
           have b2 : w94.cell? ⟨g, 2, none⟩ = some (.int .u64 (bs : Int)) := H1.out.cell 2
           have x0 : w94.cell? ⟨g6, 0, none⟩ = some (.string (strB xn)) := H6.out.cell 0
           have x1 : w94.cell? ⟨g6, 1, none⟩ = some (.slice a6 n6 c6) := H6.out.cell 1
           have x2 : w94.cell? ⟨g6, 2, none⟩ = some (.int .u64 (sn : Int)) := H6.out.cell 2
           have x3 : (convert 22 9 (.slice a6 n6 c6)).run Tryd.prog w94 = .ok (.string (strB xk)) w94 := conv_reads HR6.out
           have x4 : (convert 22 9 (.slice adq nq cpq)).run Tryd.prog w94 = .ok (.string (strB ky)) w94 := conv_reads (HK.out.below HBL.out)
           clear HR6)
        | (clear tl6; go_at_call 9; refine (works19_any _ (HKO.out.below HBL.out HKO.out.lt)).mono ?_; rintro e wz ⟨rfl, hz⟩
           have HBZ : Hid (Below w.heap.size w wz) := HBL.out.trans (hz.mono HBL.out.size)
           clear hz))
      go_ret
      exact ⟨rfl, HBZ.out⟩
    · have e3 : (((bs : Nat) : Int) == 18446744073709551615) = false := by rw [beq_eq_false_iff_ne]; omega
      have hn1 : bn = xn := by rw [HXN.out, if_pos k3]
      have hn2 : ky = xk := by rw [HXK.out, if_pos k3]
      clear HXN HXK
      subst k1 k3 k4 hn1 hn2
      clear k2
      have tl0 : Hid True := trivial
      have tl1 : Hid True := trivial
      have tl2 : Hid True := trivial
      have tl3 : Hid True := trivial
      have tl4 : Hid True := trivial
      have tl5 : Hid True := trivial
      have tl6 : Hid True := trivial
      go_wp2_with (first
        | (clear tl0; with_reducible refine wpSeq_loadW 25 (.tmp 2) g 0 (bcl bn (.slice adb nb cpb) bs) _ H1.out.range Tryd.underlying25 rfl info_bcl ?_ ?_ ?_ ?_
           · rfl
           · rfl
           · rfl)
        | (clear tl1; with_reducible refine wpSeq_loadW 29 (.tmp 5) g5 0 (reqV 2 bn (.slice aq nq2 cq) dg) _ H5.out.range Tryd.underlying29 rfl (info_reqV HDL.out) ?_ ?_ ?_ ?_
           · rfl
           · rfl
           · rfl)
        | (clear tl2; go_at_call 10; refine (HCN.out _ _ HBL.out HRQ.out).mono ?_; rintro e w91 ⟨a6, n6, c6, rfl, hr, hb⟩
           have HR6 : Hid (Reads w91 (.slice a6 n6 c6) ky) := hr
           clear hr
           clear HRQ
           replace H1 : Hid (Blk w91 g (bcl bn (.slice adb nb cpb) bs) 25) := H1.out.below hb H1.out.lt
           replace H5 : Hid (Blk w91 g5 (reqV 2 bn (.slice aq nq2 cq) dg) 29) := H5.out.below hb H5.out.lt
           replace HBL : Hid (Below w.heap.size w w91) := HBL.out.trans (hb.mono HBL.out.size)
           clear hb)
        | (clear tl3; with_reducible refine wpSeq_allocB ?_ ?_ ?_
           · rfl
           · rfl
           intro g6 w92 nn
           have HNN : Hid (NewR (bcl [] (.slice none 0 0) 0) 25 w91 g6 w92) := nn
           clear nn)
        | (clear tl4; with_reducible refine wpSeq_storeRow 25 (.tmp 6) (.tmp 38) g6 (bcl [] (.slice none 0 0) 0) (bcl bn (.slice a6 n6 c6) sn) HNN.out.blk len_bcl info_bcl bcl_one ?_ ?_ ?_ ?_ ?_
           · rfl
           · rfl
           · rfl
           · rfl
           intro w93 sr
           have hb : Below w91.heap.size w91 w93 := HNN.out.below.trans (sr.only.below HNN.out.ge HNN.out.below.size)
           have H6 : Hid (Blk w93 g6 (bcl bn (.slice a6 n6 c6) sn) 25) := sr.blk
           replace HR6 : Hid (Reads w93 (.slice a6 n6 c6) ky) := HR6.out.below hb
           clear sr HNN
           replace H1 : Hid (Blk w93 g (bcl bn (.slice adb nb cpb) bs) 25) := H1.out.below hb H1.out.lt
           replace H5 : Hid (Blk w93 g5 (reqV 2 bn (.slice aq nq2 cq) dg) 29) := H5.out.below hb H5.out.lt
           replace HBL : Hid (Below w.heap.size w w93) := HBL.out.trans (hb.mono HBL.out.size)
           clear hb
           have b0 : w93.cell? ⟨g, 0, none⟩ = some (.string (strB bn)) := H1.out.cell 0)
        | (clear tl5; go_at_call 16; refine (rfcheck_any bn ky (.slice adq nq cpq) _ (HK.out.below HBL.out)).mono ?_; rintro e wx93 ⟨rfl, qd, rfl⟩
           rw [← HCK.out]
           clear b0
           have hb : Below w93.heap.size w93 (w93.drewN qd) := ⟨rfl, rfl, rfl, Nat.le_refl _, fun _ _ => rfl⟩
           generalize w93.drewN qd = w94 at *
           replace HR6 : Hid (Reads w94 (.slice a6 n6 c6) ky) := HR6.out.below hb
           replace H1 : Hid (Blk w94 g (bcl bn (.slice adb nb cpb) bs) 25) := H1.out.below hb H1.out.lt
           replace H5 : Hid (Blk w94 g5 (reqV 2 bn (.slice aq nq2 cq) dg) 29) := H5.out.below hb H5.out.lt
           replace H6 : Hid (Blk w94 g6 (bcl bn (.slice a6 n6 c6) sn) 25) := H6.out.below hb H6.out.lt
           replace HBL : Hid (Below w.heap.size w w94) := HBL.out.trans (hb.mono HBL.out.size)
           clear hb
           have b0 : w94.cell? ⟨g, 0, none⟩ = some (.string (strB bn)) := H1.out.cell 0
           have b2 : w94.cell? ⟨g, 2, none⟩ = some (.int .u64 (bs : Int)) := H1.out.cell 2
           have x0 : w94.cell? ⟨g6, 0, none⟩ = some (.string (strB bn)) := H6.out.cell 0
           have x1 : w94.cell? ⟨g6, 1, none⟩ = some (.slice a6 n6 c6) := H6.out.cell 1
           have x2 : w94.cell? ⟨g6, 2, none⟩ = some (.int .u64 (sn : Int)) := H6.out.cell 2
           have x3 : (convert 22 9 (.slice a6 n6 c6)).run Tryd.prog w94 = .ok (.string (strB ky)) w94 := conv_reads HR6.out
           have x4 : (convert 22 9 (.slice adq nq cpq)).run Tryd.prog w94 = .ok (.string (strB ky)) w94 := conv_reads (HK.out.below HBL.out)
           clear HR6)
        | (clear tl6; go_at_call 9; refine (works19_any _ (HKO.out.below HBL.out HKO.out.lt)).mono ?_; rintro e wz ⟨rfl, hz⟩
           have HBZ : Hid (Below w.heap.size w wz) := HBL.out.trans (hz.mono HBL.out.size)
           clear hz))
      go_ret
      exact ⟨rfl, HBZ.out⟩
end Go.Proofs.YtmkjcgjbhibnpaaDoor
/- The walk of PolicyOthers (layer 19). -/
namespace Go.Proofs.YtmkjcgjbhibnpaaDoor
open Go.RowKit
set_option maxRecDepth 100000
set_option maxRecDepth 100000 in
set_option maxHeartbeats 16000000 in
theorem policyOthers_law (bn bk wk ky : By) (vb : Value) (bs : Nat) (vw vk : Value) (w : World) (hK : KOk w) (hb : Reads w vb bk) (hw0 : Reads w vw wk) (hk : Reads w vk ky) (hbs : bs < 18446744073709551616) :
    Calls Tryd.prog 5 #[.agg (bcl bn vb bs).toArray, vw, vk] w fun e w' => e = .returned (.bool true) ∧ Below w.heap.size w w' := by
  have HKO : Hid (KOk w) := hK
  have HB : Hid (Reads w vb bk) := hb
  have HK : Hid (Reads w vk ky) := hk
  obtain ⟨adb, cpb, hvb⟩ := hb.sliceP
  obtain ⟨adq, cpq, hvq⟩ := hk.sliceP
  obtain ⟨nb, HNB⟩ : ∃ x, Hid (x = bk.length) := ⟨_, rfl⟩
  obtain ⟨nq, HNQ⟩ : ∃ x, Hid (x = ky.length) := ⟨_, rfl⟩
  rw [← HNB.out] at hvb
  rw [← HNQ.out] at hvq
  subst hvb hvq
  have HW : Hid (Reads w vw wk) := hw0
  obtain ⟨adw, cpw, hvw⟩ := hw0.sliceP
  obtain ⟨nw, HNW⟩ : ∃ x, Hid (x = wk.length) := ⟨_, rfl⟩
  rw [← HNW.out] at hvw
  subst hvw
  clear hb hk hK hw0
  have HBL : Hid (Below w.heap.size w w) := Below.refl _ _
  by_cases h1 : bk.length ≤ 2000
  case neg =>
    have HF1 : Hid (decide (bk.length ≤ 2000) = false) := decide_eq_false h1
    clear h1 hbs
    go_enter Tryd.func5, Tryd.ntmps5
    have tk0 : Hid True := trivial
    have tk1 : Hid True := trivial
    have tk2 : Hid True := trivial
    go_wp2_with (first
      | (clear tk0; with_reducible refine wpSeq_boxW 25 (.tmp 0) (bcl bn (.slice adb nb cpb) bs) ?_ ?_ ?_ ?_
         · rfl
         · rfl
         · rfl
         intro g w1 nn
         have hb := nn.below
         have H1 : Hid (Blk w1 g (bcl bn (.slice adb nb cpb) bs) 25) := nn.blk
         clear nn
         replace HBL : Hid (Below w.heap.size w w1) := HBL.out.trans (hb.mono HBL.out.size)
         clear hb
         have b0 : w1.cell? ⟨g, 0, none⟩ = some (.string (strB bn)) := H1.out.cell 0
         have b1 : w1.cell? ⟨g, 1, none⟩ = some (.slice adb nb cpb) := H1.out.cell 1
         have b2 : w1.cell? ⟨g, 2, none⟩ = some (.int .u64 (bs : Int)) := H1.out.cell 2)
      | (clear tk1; go_at_call 8; refine (few19_any (.slice adb nb cpb) _ _ (HB.out.below HBL.out)).mono ?_; rintro e wq1 ⟨rfl, hq⟩
         obtain rfl := hq.symm
         rw [HF1.out])
      | (clear tk2; go_at_call 9; refine (works19_any _ (HKO.out.below HBL.out HKO.out.lt)).mono ?_; rintro e wz ⟨rfl, hz⟩
         have HBZ : Hid (Below w.heap.size w wz) := HBL.out.trans (hz.mono HBL.out.size)
         clear hz))
    go_ret
    exact ⟨rfl, HBZ.out⟩
  case pos =>
  by_cases h2 : wk.length ≤ 2000
  case neg =>
    have HF1 : Hid (decide (bk.length ≤ 2000) = true) := decide_eq_true h1
    have HF2 : Hid (decide (wk.length ≤ 2000) = false) := decide_eq_false h2
    clear h1 h2 hbs
    go_enter Tryd.func5, Tryd.ntmps5
    have tk0 : Hid True := trivial
    have tk1 : Hid True := trivial
    have tk2 : Hid True := trivial
    have tk3 : Hid True := trivial
    go_wp2_with (first
      | (clear tk0; with_reducible refine wpSeq_boxW 25 (.tmp 0) (bcl bn (.slice adb nb cpb) bs) ?_ ?_ ?_ ?_
         · rfl
         · rfl
         · rfl
         intro g w1 nn
         have hb := nn.below
         have H1 : Hid (Blk w1 g (bcl bn (.slice adb nb cpb) bs) 25) := nn.blk
         clear nn
         replace HBL : Hid (Below w.heap.size w w1) := HBL.out.trans (hb.mono HBL.out.size)
         clear hb
         have b0 : w1.cell? ⟨g, 0, none⟩ = some (.string (strB bn)) := H1.out.cell 0
         have b1 : w1.cell? ⟨g, 1, none⟩ = some (.slice adb nb cpb) := H1.out.cell 1
         have b2 : w1.cell? ⟨g, 2, none⟩ = some (.int .u64 (bs : Int)) := H1.out.cell 2)
      | (clear tk1; go_at_call 8; refine (few19_any (.slice adb nb cpb) _ _ (HB.out.below HBL.out)).mono ?_; rintro e wq1 ⟨rfl, hq⟩
         obtain rfl := hq.symm
         rw [HF1.out])
      | (clear tk2; go_at_call 8; refine (few19_any (.slice adw nw cpw) _ _ (HW.out.below HBL.out)).mono ?_; rintro e wq2 ⟨rfl, hq⟩
         obtain rfl := hq.symm
         rw [HF2.out])
      | (clear tk3; go_at_call 9; refine (works19_any _ (HKO.out.below HBL.out HKO.out.lt)).mono ?_; rintro e wz ⟨rfl, hz⟩
         have HBZ : Hid (Below w.heap.size w wz) := HBL.out.trans (hz.mono HBL.out.size)
         clear hz))
    go_ret
    exact ⟨rfl, HBZ.out⟩
  case pos =>
  by_cases h3 : ky.length ≤ 2000
  case neg =>
    have HF1 : Hid (decide (bk.length ≤ 2000) = true) := decide_eq_true h1
    have HF2 : Hid (decide (wk.length ≤ 2000) = true) := decide_eq_true h2
    have HF3 : Hid (decide (ky.length ≤ 2000) = false) := decide_eq_false h3
    clear h1 h2 h3 hbs
    go_enter Tryd.func5, Tryd.ntmps5
    have tk0 : Hid True := trivial
    have tk1 : Hid True := trivial
    have tk2 : Hid True := trivial
    have tk3 : Hid True := trivial
    have tk4 : Hid True := trivial
    go_wp2_with (first
      | (clear tk0; with_reducible refine wpSeq_boxW 25 (.tmp 0) (bcl bn (.slice adb nb cpb) bs) ?_ ?_ ?_ ?_
         · rfl
         · rfl
         · rfl
         intro g w1 nn
         have hb := nn.below
         have H1 : Hid (Blk w1 g (bcl bn (.slice adb nb cpb) bs) 25) := nn.blk
         clear nn
         replace HBL : Hid (Below w.heap.size w w1) := HBL.out.trans (hb.mono HBL.out.size)
         clear hb
         have b0 : w1.cell? ⟨g, 0, none⟩ = some (.string (strB bn)) := H1.out.cell 0
         have b1 : w1.cell? ⟨g, 1, none⟩ = some (.slice adb nb cpb) := H1.out.cell 1
         have b2 : w1.cell? ⟨g, 2, none⟩ = some (.int .u64 (bs : Int)) := H1.out.cell 2)
      | (clear tk1; go_at_call 8; refine (few19_any (.slice adb nb cpb) _ _ (HB.out.below HBL.out)).mono ?_; rintro e wq1 ⟨rfl, hq⟩
         obtain rfl := hq.symm
         rw [HF1.out])
      | (clear tk2; go_at_call 8; refine (few19_any (.slice adw nw cpw) _ _ (HW.out.below HBL.out)).mono ?_; rintro e wq2 ⟨rfl, hq⟩
         obtain rfl := hq.symm
         rw [HF2.out])
      | (clear tk3; go_at_call 8; refine (few19_any (.slice adq nq cpq) _ _ (HK.out.below HBL.out)).mono ?_; rintro e wq3 ⟨rfl, hq⟩
         obtain rfl := hq.symm
         rw [HF3.out])
      | (clear tk4; go_at_call 9; refine (works19_any _ (HKO.out.below HBL.out HKO.out.lt)).mono ?_; rintro e wz ⟨rfl, hz⟩
         have HBZ : Hid (Below w.heap.size w wz) := HBL.out.trans (hz.mono HBL.out.size)
         clear hz))
    go_ret
    exact ⟨rfl, HBZ.out⟩
  case pos =>
  obtain ⟨ck, HCK⟩ : ∃ x, Hid (x = chk bn ky) := ⟨_, rfl⟩
  by_cases h4 : ck = 0
  case neg =>
    have HF1 : Hid (decide (bk.length ≤ 2000) = true) := decide_eq_true h1
    have HF2 : Hid (decide (wk.length ≤ 2000) = true) := decide_eq_true h2
    have HF3 : Hid (decide (ky.length ≤ 2000) = true) := decide_eq_true h3
    have e1 : (ck != 0) = true := by simpa using h4
    clear h1 h2 h3 h4 hbs
    go_enter Tryd.func5, Tryd.ntmps5
    have tk0 : Hid True := trivial
    have tk1 : Hid True := trivial
    have tk2 : Hid True := trivial
    have tk3 : Hid True := trivial
    have tk4 : Hid True := trivial
    have tk5 : Hid True := trivial
    go_wp2_with (first
      | (clear tk0; with_reducible refine wpSeq_boxW 25 (.tmp 0) (bcl bn (.slice adb nb cpb) bs) ?_ ?_ ?_ ?_
         · rfl
         · rfl
         · rfl
         intro g w1 nn
         have hb := nn.below
         have H1 : Hid (Blk w1 g (bcl bn (.slice adb nb cpb) bs) 25) := nn.blk
         clear nn
         replace HBL : Hid (Below w.heap.size w w1) := HBL.out.trans (hb.mono HBL.out.size)
         clear hb
         have b0 : w1.cell? ⟨g, 0, none⟩ = some (.string (strB bn)) := H1.out.cell 0
         have b1 : w1.cell? ⟨g, 1, none⟩ = some (.slice adb nb cpb) := H1.out.cell 1
         have b2 : w1.cell? ⟨g, 2, none⟩ = some (.int .u64 (bs : Int)) := H1.out.cell 2)
      | (clear tk1; go_at_call 8; refine (few19_any (.slice adb nb cpb) _ _ (HB.out.below HBL.out)).mono ?_; rintro e wq1 ⟨rfl, hq⟩
         obtain rfl := hq.symm
         rw [HF1.out])
      | (clear tk2; go_at_call 8; refine (few19_any (.slice adw nw cpw) _ _ (HW.out.below HBL.out)).mono ?_; rintro e wq2 ⟨rfl, hq⟩
         obtain rfl := hq.symm
         rw [HF2.out])
      | (clear tk3; go_at_call 8; refine (few19_any (.slice adq nq cpq) _ _ (HK.out.below HBL.out)).mono ?_; rintro e wq3 ⟨rfl, hq⟩
         obtain rfl := hq.symm
         rw [HF3.out])
      | (clear tk4; go_at_call 16; refine (rfcheck_any bn ky (.slice adq nq cpq) _ (HK.out.below HBL.out)).mono ?_; rintro e wx1 ⟨rfl, qd, rfl⟩
         rw [← HCK.out]
         clear b0 b1 b2
         have hb : Below w1.heap.size w1 (w1.drewN qd) := ⟨rfl, rfl, rfl, Nat.le_refl _, fun _ _ => rfl⟩
         generalize w1.drewN qd = w2 at *
         replace H1 : Hid (Blk w2 g (bcl bn (.slice adb nb cpb) bs) 25) := H1.out.below hb H1.out.lt
         replace HBL : Hid (Below w.heap.size w w2) := HBL.out.trans (hb.mono HBL.out.size)
         clear hb
         have b0 : w2.cell? ⟨g, 0, none⟩ = some (.string (strB bn)) := H1.out.cell 0
         have b1 : w2.cell? ⟨g, 1, none⟩ = some (.slice adb nb cpb) := H1.out.cell 1
         have b2 : w2.cell? ⟨g, 2, none⟩ = some (.int .u64 (bs : Int)) := H1.out.cell 2)
      | (clear tk5; go_at_call 9; refine (works19_any _ (HKO.out.below HBL.out HKO.out.lt)).mono ?_; rintro e wz ⟨rfl, hz⟩
         have HBZ : Hid (Below w.heap.size w wz) := HBL.out.trans (hz.mono HBL.out.size)
         clear hz))
    go_ret
    exact ⟨rfl, HBZ.out⟩
  case pos =>
  subst h4
  by_cases h5 : bs = 18446744073709551615
  case pos =>
    have HF1 : Hid (decide (bk.length ≤ 2000) = true) := decide_eq_true h1
    have HF2 : Hid (decide (wk.length ≤ 2000) = true) := decide_eq_true h2
    have HF3 : Hid (decide (ky.length ≤ 2000) = true) := decide_eq_true h3
    have e3 : (((bs : Nat) : Int) == 18446744073709551615) = true := by rw [h5]; rfl
    clear h1 h2 h3 h5 hbs
    go_enter Tryd.func5, Tryd.ntmps5
    have tk0 : Hid True := trivial
    have tk1 : Hid True := trivial
    have tk2 : Hid True := trivial
    have tk3 : Hid True := trivial
    have tk4 : Hid True := trivial
    have tk5 : Hid True := trivial
    go_wp2_with (first
      | (clear tk0; with_reducible refine wpSeq_boxW 25 (.tmp 0) (bcl bn (.slice adb nb cpb) bs) ?_ ?_ ?_ ?_
         · rfl
         · rfl
         · rfl
         intro g w1 nn
         have hb := nn.below
         have H1 : Hid (Blk w1 g (bcl bn (.slice adb nb cpb) bs) 25) := nn.blk
         clear nn
         replace HBL : Hid (Below w.heap.size w w1) := HBL.out.trans (hb.mono HBL.out.size)
         clear hb
         have b0 : w1.cell? ⟨g, 0, none⟩ = some (.string (strB bn)) := H1.out.cell 0
         have b1 : w1.cell? ⟨g, 1, none⟩ = some (.slice adb nb cpb) := H1.out.cell 1
         have b2 : w1.cell? ⟨g, 2, none⟩ = some (.int .u64 (bs : Int)) := H1.out.cell 2)
      | (clear tk1; go_at_call 8; refine (few19_any (.slice adb nb cpb) _ _ (HB.out.below HBL.out)).mono ?_; rintro e wq1 ⟨rfl, hq⟩
         obtain rfl := hq.symm
         rw [HF1.out])
      | (clear tk2; go_at_call 8; refine (few19_any (.slice adw nw cpw) _ _ (HW.out.below HBL.out)).mono ?_; rintro e wq2 ⟨rfl, hq⟩
         obtain rfl := hq.symm
         rw [HF2.out])
      | (clear tk3; go_at_call 8; refine (few19_any (.slice adq nq cpq) _ _ (HK.out.below HBL.out)).mono ?_; rintro e wq3 ⟨rfl, hq⟩
         obtain rfl := hq.symm
         rw [HF3.out])
      | (clear tk4; go_at_call 16; refine (rfcheck_any bn ky (.slice adq nq cpq) _ (HK.out.below HBL.out)).mono ?_; rintro e wx1 ⟨rfl, qd, rfl⟩
         rw [← HCK.out]
         clear b0 b1 b2
         have hb : Below w1.heap.size w1 (w1.drewN qd) := ⟨rfl, rfl, rfl, Nat.le_refl _, fun _ _ => rfl⟩
         generalize w1.drewN qd = w2 at *
         replace H1 : Hid (Blk w2 g (bcl bn (.slice adb nb cpb) bs) 25) := H1.out.below hb H1.out.lt
         replace HBL : Hid (Below w.heap.size w w2) := HBL.out.trans (hb.mono HBL.out.size)
         clear hb
         have b0 : w2.cell? ⟨g, 0, none⟩ = some (.string (strB bn)) := H1.out.cell 0
         have b1 : w2.cell? ⟨g, 1, none⟩ = some (.slice adb nb cpb) := H1.out.cell 1
         have b2 : w2.cell? ⟨g, 2, none⟩ = some (.int .u64 (bs : Int)) := H1.out.cell 2)
      | (clear tk5; go_at_call 9; refine (works19_any _ (HKO.out.below HBL.out HKO.out.lt)).mono ?_; rintro e wz ⟨rfl, hz⟩
         have HBZ : Hid (Below w.heap.size w wz) := HBL.out.trans (hz.mono HBL.out.size)
         clear hz))
    go_ret
    exact ⟨rfl, HBZ.out⟩
  case neg =>
    have HF1 : Hid (decide (bk.length ≤ 2000) = true) := decide_eq_true h1
    have HF2 : Hid (decide (wk.length ≤ 2000) = true) := decide_eq_true h2
    have HF3 : Hid (decide (ky.length ≤ 2000) = true) := decide_eq_true h3
    have e3 : (((bs : Nat) : Int) == 18446744073709551615) = false := by rw [beq_eq_false_iff_ne]; omega
    obtain ⟨s1, HS1⟩ : ∃ x, Hid (x = bs + 1) := ⟨_, rfl⟩
    have hw1 : IntKind.u64.wrap ((bs : Int) + 1) = (s1 : Int) := by rw [IntKind.wrap_u64, HS1.out]; omega
    have hs1 : s1 < 18446744073709551616 := by rw [HS1.out]; omega
    have HLN : Hid (bn.length ≤ 32 ∧ ky.length ≤ 64) := chk_len HCK.out.symm
    obtain ⟨dw, HDW⟩ : ∃ x, Hid (x = hmac wk (authB bn s1 ky)) := ⟨_, rfl⟩
    have HDWL : Hid (dw.length = 32) := by show _ = _; rw [HDW.out]; exact len_dig' _
    obtain ⟨dg, HDG⟩ : ∃ x, Hid (x = hmac bk (authB bn s1 ky)) := ⟨_, rfl⟩
    have HDGL : Hid (dg.length = 32) := by show _ = _; rw [HDG.out]; exact len_dig' _
    obtain ⟨er, sn, HNX⟩ : ∃ er sn, Hid (nxE bn bk bs true 2 bn ky dw = (er, sn)) := ⟨_, _, rfl⟩
    have key : (dw = dg ∧ er = 0) ∨ (dw ≠ dg ∧ er = 8) := by
      have h0 := HNX.out
      rw [nxE_ask, ← HCK.out, if_neg (by simp), if_neg h5, ← HS1.out, ← HDG.out] at h0
      by_cases k1 : dw = dg
      · rw [if_pos k1] at h0; exact Or.inl ⟨k1, (Prod.mk.inj h0).1.symm⟩
      · rw [if_neg k1] at h0; exact Or.inr ⟨k1, (Prod.mk.inj h0).1.symm⟩
    have HCA : Hid (∀ W, Below w.heap.size w W → Calls Tryd.prog 13 #[.agg (bcl bn (.slice adw nw cpw) bs).toArray, (.slice adq nq cpq)] W fun e w' => ∃ ad n c, e = .returned (.agg (reqV 2 bn (.slice ad n c) dw).toArray) ∧ Reads w' (.slice ad n c) ky ∧ Below W.heap.size W w') := fun W hW => by
      have h := polAsk_any bn wk ky (.slice adw nw cpw) (.slice adq nq cpq) bs s1 W (HKO.out.below hW HKO.out.lt) (HW.out.below hW) (HK.out.below hW) hw1 ⟨by have := HLN.out; omega, by have := HLN.out; omega, hs1, by omega⟩
      unfold AskR at h
      rw [← HDW.out] at h
      exact h
    obtain ⟨xn, HXN⟩ : ∃ x, Hid (x = if er = 0 then bn else []) := ⟨_, rfl⟩
    obtain ⟨xk, HXK⟩ : ∃ x, Hid (x = if er = 0 then ky else []) := ⟨_, rfl⟩
    have HCN : Hid (∀ W v, Below w.heap.size w W → Reads W v ky → NxC 10 W (.agg (bcl bn (.slice adb nb cpb) bs).toArray) (.bool true) (.agg (reqV 2 bn v dw).toArray) xn xk sn er) := fun W v hW hv => by
      rw [HXN.out, HXK.out]
      exact nxC_of HNX.out (polNext_any bn bk _ bs true 2 bn ky dw v W (HKO.out.below hW HKO.out.lt) (HB.out.below hW) hv HDWL.out hbs (by omega))
    have HLB : Hid (bk.length ≤ 2000 ∧ wk.length ≤ 2000 ∧ s1 < 18446744073709551616) := ⟨h1, h2, hs1⟩
    obtain ⟨xs, HXS⟩ : ∃ c, Hid (c = cb dw) := ⟨_, rfl⟩
    obtain ⟨ds, HDS⟩ : ∃ c, Hid (c = cb dg) := ⟨_, rfl⟩
    have hdx : ∀ (wx : World), (Op.equalIn 10000 27 (.agg xs.toArray) (.agg ds.toArray)).run Tryd.prog wx = .ok (decide (dw = dg)) wx := fun wx => by rw [HXS.out, HDS.out]; exact eq_dig dw dg HDWL.out HDGL.out wx
    clear h1 h2 h3 h5 hbs hs1 HNX
    go_enter Tryd.func5, Tryd.ntmps5
    have tk0 : Hid True := trivial
    have tk1 : Hid True := trivial
    have tk2 : Hid True := trivial
    have tk3 : Hid True := trivial
    have tk4 : Hid True := trivial
    have tk5 : Hid True := trivial
    have tk6 : Hid True := trivial
    have tk7 : Hid True := trivial
    have tk8 : Hid True := trivial
    have tk9 : Hid True := trivial
    have tk10 : Hid True := trivial
    have tk11 : Hid True := trivial
    have tk12 : Hid True := trivial
    have tk13 : Hid True := trivial
    go_wp2_with (first
      | (clear tk0; with_reducible refine wpSeq_boxW 25 (.tmp 0) (bcl bn (.slice adb nb cpb) bs) ?_ ?_ ?_ ?_
         · rfl
         · rfl
         · rfl
         intro g w1 nn
         have hb := nn.below
         have H1 : Hid (Blk w1 g (bcl bn (.slice adb nb cpb) bs) 25) := nn.blk
         clear nn
         replace HBL : Hid (Below w.heap.size w w1) := HBL.out.trans (hb.mono HBL.out.size)
         clear hb
         have b0 : w1.cell? ⟨g, 0, none⟩ = some (.string (strB bn)) := H1.out.cell 0
         have b1 : w1.cell? ⟨g, 1, none⟩ = some (.slice adb nb cpb) := H1.out.cell 1
         have b2 : w1.cell? ⟨g, 2, none⟩ = some (.int .u64 (bs : Int)) := H1.out.cell 2)
      | (clear tk1; go_at_call 8; refine (few19_any (.slice adb nb cpb) _ _ (HB.out.below HBL.out)).mono ?_; rintro e wq1 ⟨rfl, hq⟩
         obtain rfl := hq.symm
         rw [HF1.out])
      | (clear tk2; go_at_call 8; refine (few19_any (.slice adw nw cpw) _ _ (HW.out.below HBL.out)).mono ?_; rintro e wq2 ⟨rfl, hq⟩
         obtain rfl := hq.symm
         rw [HF2.out])
      | (clear tk3; go_at_call 8; refine (few19_any (.slice adq nq cpq) _ _ (HK.out.below HBL.out)).mono ?_; rintro e wq3 ⟨rfl, hq⟩
         obtain rfl := hq.symm
         rw [HF3.out])
      | (clear tk4; go_at_call 16; refine (rfcheck_any bn ky (.slice adq nq cpq) _ (HK.out.below HBL.out)).mono ?_; rintro e wx1 ⟨rfl, qd, rfl⟩
         rw [← HCK.out]
         clear b0 b1 b2
         have hb : Below w1.heap.size w1 (w1.drewN qd) := ⟨rfl, rfl, rfl, Nat.le_refl _, fun _ _ => rfl⟩
         generalize w1.drewN qd = w2 at *
         replace H1 : Hid (Blk w2 g (bcl bn (.slice adb nb cpb) bs) 25) := H1.out.below hb H1.out.lt
         replace HBL : Hid (Below w.heap.size w w2) := HBL.out.trans (hb.mono HBL.out.size)
         clear hb
         have b0 : w2.cell? ⟨g, 0, none⟩ = some (.string (strB bn)) := H1.out.cell 0
         have b1 : w2.cell? ⟨g, 1, none⟩ = some (.slice adb nb cpb) := H1.out.cell 1
         have b2 : w2.cell? ⟨g, 2, none⟩ = some (.int .u64 (bs : Int)) := H1.out.cell 2)
      | (clear tk5; with_reducible refine wpSeq_build 25 [(0, .tmp 39), (1, .tmp 40), (2, .tmp 42)] (bcl bn (.slice adw nw cpw) bs) (by kernel_rfl) ?_ ?_ ?_
         · rfl
         · rfl)
      | (clear tk6; go_at_call 13; refine (HCA.out _ HBL.out).mono ?_; rintro e w3 ⟨aq, nq2, cq, rfl, hr, hb⟩
         have HRQ : Hid (Reads w3 (.slice aq nq2 cq) ky) := hr
         clear hr b0 b1 b2
         replace H1 : Hid (Blk w3 g (bcl bn (.slice adb nb cpb) bs) 25) := H1.out.below hb H1.out.lt
         replace HBL : Hid (Below w.heap.size w w3) := HBL.out.trans (hb.mono HBL.out.size)
         clear hb)
      | (clear tk7; with_reducible refine wpSeq_allocR ?_ ?_ ?_
         · rfl
         · rfl
         intro g5 w4 nn
         have HNR : Hid (NewR (reqV 0 [] (.slice none 0 0) zb32) 29 w3 g5 w4) := nn
         clear nn)
      | (clear tk8; with_reducible refine wpSeq_storeReq (.tmp 7) (.tmp 45) g5 2 bn dw aq nq2 cq HNR.out.blk HDWL.out ?_ ?_ ?_ ?_ ?_
         · rfl
         · rfl
         · rfl
         · rfl
         intro w5 sr
         have hb : Below w3.heap.size w3 w5 := HNR.out.below.trans (sr.only.below HNR.out.ge HNR.out.below.size)
         have H5 : Hid (Blk w5 g5 (reqV 2 bn (.slice aq nq2 cq) dw) 29) := sr.blk
         replace HRQ : Hid (Reads w5 (.slice aq nq2 cq) ky) := HRQ.out.below hb
         clear sr HNR
         replace H1 : Hid (Blk w5 g (bcl bn (.slice adb nb cpb) bs) 25) := H1.out.below hb H1.out.lt
         replace HBL : Hid (Below w.heap.size w w5) := HBL.out.trans (hb.mono HBL.out.size)
         clear hb)
      | (clear tk9; with_reducible refine wpSeq_loadW 25 (.tmp 3) g 0 (bcl bn (.slice adb nb cpb) bs) _ H1.out.range Tryd.underlying25 rfl info_bcl ?_ ?_ ?_ ?_
         · rfl
         · rfl
         · rfl)
      | (clear tk10; with_reducible refine wpSeq_loadW 29 (.tmp 7) g5 0 (reqV 2 bn (.slice aq nq2 cq) dw) _ H5.out.range Tryd.underlying29 rfl (info_reqV HDWL.out) ?_ ?_ ?_ ?_
         · rfl
         · rfl
         · rfl)
      | (clear tk11; go_at_call 10; refine (HCN.out _ _ HBL.out HRQ.out).mono ?_; rintro e w6 ⟨a6, n6, c6, rfl, hr, hb⟩
         have HR6 : Hid (Reads w6 (.slice a6 n6 c6) xk) := hr
         clear hr
         clear HRQ HR6
         replace H1 : Hid (Blk w6 g (bcl bn (.slice adb nb cpb) bs) 25) := H1.out.below hb H1.out.lt
         replace H5 : Hid (Blk w6 g5 (reqV 2 bn (.slice aq nq2 cq) dw) 29) := H5.out.below hb H5.out.lt
         replace HBL : Hid (Below w.heap.size w w6) := HBL.out.trans (hb.mono HBL.out.size)
         clear hb)
      | (clear tk12; with_reducible refine wpSeq_allocB ?_ ?_ ?_
         · rfl
         · rfl
         intro g6 w7 nn
         have HNN : Hid (NewR (bcl [] (.slice none 0 0) 0) 25 w6 g6 w7) := nn
         clear nn)
      | (clear tk13; with_reducible refine wpSeq_storeRow 25 (.tmp 8) (.tmp 50) g6 (bcl [] (.slice none 0 0) 0) (bcl xn (.slice a6 n6 c6) sn) HNN.out.blk len_bcl info_bcl bcl_one ?_ ?_ ?_ ?_ ?_
         · rfl
         · rfl
         · rfl
         · rfl
         intro w8 sr
         have hb : Below w6.heap.size w6 w8 := HNN.out.below.trans (sr.only.below HNN.out.ge HNN.out.below.size)
         have H6 : Hid (Blk w8 g6 (bcl xn (.slice a6 n6 c6) sn) 25) := sr.blk
         clear sr HNN
         replace H1 : Hid (Blk w8 g (bcl bn (.slice adb nb cpb) bs) 25) := H1.out.below hb H1.out.lt
         replace H5 : Hid (Blk w8 g5 (reqV 2 bn (.slice aq nq2 cq) dw) 29) := H5.out.below hb H5.out.lt
         replace HBL : Hid (Below w.heap.size w w8) := HBL.out.trans (hb.mono HBL.out.size)
         clear hb))
    refine wp_region_held_drew (S := Below w8.heap.size w8.drew) (by kernel_rfl) (Below.refl _ _) ?_
    intro hS
    clear hS
    have HBd : Hid (Below w.heap.size w w8.drew) := HBL.out.trans ((Below.refl _ _).drew.mono HBL.out.size)
    have HD0 : Hid (Blk w8.drew g (bcl bn (.slice adb nb cpb) bs) 25) := H1.out.below (Below.refl _ _).drew H1.out.lt
    have HLW : Hid (w.heap.size ≤ w8.heap.size) := HBL.out.size
    clear HBL H1 
    obtain ⟨B, HBB⟩ : ∃ x, Hid (x = w8.heap.size) := ⟨_, rfl⟩
    have HBD : Hid (w8.drew.heap.size = B) := by rw [HBB.out]; rfl
    rw [← HBB.out] at HLW ⊢
    change wpAnyH _ _ _ _ _ _ _ _ (World.drew w8)
    generalize World.drew w8 = wd at *
    clear HBB
    have hS : Below B wd wd := Below.refl _ _
    have HX : Hid (∀ W, Below B wd W → B ≤ W.heap.size ∧ Below w.heap.size w W ∧ Blk W g (bcl bn (.slice adb nb cpb) bs) 25) := fun W hW =>
      have hW2 : Below wd.heap.size wd W := hW.mono (Nat.le_of_eq HBD.out)
      ⟨by have := hW.size; rw [HBD.out] at this; exact this, HBd.out.trans (hW.mono HLW.out), HD0.out.below hW2 HD0.out.lt⟩
    clear HBd HD0 
    refine wpAnyH_take (i := 0) (v := (.slice adw nw cpw)) rfl (by kernel_rfl) (by kernel_rfl) (by kernel_rfl) (fun _ _ _ h => h) (Or.inl ⟨by rfl, fun wx hx => by simp [go_sem]⟩) hS ?_
    simp only [Act.put, List.getElem_toArray, List.getElem_cons_zero, List.setIfInBounds_toArray, List.set_cons_zero, List.set_cons_succ]
    refine wpAnyH_take (i := 1) (v := .pointer (some ⟨g, 0, none⟩)) rfl (by kernel_rfl) (by kernel_rfl) (by kernel_rfl) (fun _ _ _ h => h) (Or.inl ⟨by rfl, fun wx hx => by simp [go_sem]⟩) hS ?_
    simp only [Act.put, List.getElem_toArray, List.getElem_cons_succ, List.getElem_cons_zero, List.setIfInBounds_toArray, List.set_cons_zero, List.set_cons_succ]
    refine wpAnyH_take (i := 2) (v := .string (strB bn)) rfl (by kernel_rfl) (by kernel_rfl) (by kernel_rfl) (fun _ _ _ h => h) (Or.inl ⟨by rfl, fun wx hx => by (have hq := (HX.out wx hx).2.2.cell 0; simp [go_sem, bcl] at hq ⊢; simp [hq])⟩) hS ?_
    simp only [Act.put, List.getElem_toArray, List.getElem_cons_succ, List.getElem_cons_zero, List.setIfInBounds_toArray, List.set_cons_zero, List.set_cons_succ]
    refine wpAnyH_take (i := 3) (v := .pointer (some ⟨g, 2, none⟩)) rfl (by kernel_rfl) (by kernel_rfl) (by kernel_rfl) (fun _ _ _ h => h) (Or.inl ⟨by rfl, fun wx hx => by simp [go_sem]⟩) hS ?_
    simp only [Act.put, List.getElem_toArray, List.getElem_cons_succ, List.getElem_cons_zero, List.setIfInBounds_toArray, List.set_cons_zero, List.set_cons_succ]
    refine wpAnyH_take (i := 4) (v := .int .u64 (bs : Int)) rfl (by kernel_rfl) (by kernel_rfl) (by kernel_rfl) (fun _ _ _ h => h) (Or.inl ⟨by rfl, fun wx hx => by (have hq := (HX.out wx hx).2.2.cell 2; simp [go_sem, bcl] at hq ⊢; simp [hq])⟩) hS ?_
    simp only [Act.put, List.getElem_toArray, List.getElem_cons_succ, List.getElem_cons_zero, List.setIfInBounds_toArray, List.set_cons_zero, List.set_cons_succ]
    refine wpAnyH_take (i := 5) (v := .int .u64 (s1 : Int)) rfl (by kernel_rfl) (by kernel_rfl) (by kernel_rfl) (fun _ _ _ h => h) (Or.inl ⟨by rfl, fun wx hx => by simp [go_sem, hw1]⟩) hS ?_
    simp only [Act.put, List.getElem_toArray, List.getElem_cons_succ, List.getElem_cons_zero, List.setIfInBounds_toArray, List.set_cons_zero, List.set_cons_succ]
    refine wpAnyH_take (i := 6) (v := (.slice adq nq cpq)) rfl (by kernel_rfl) (by kernel_rfl) (by kernel_rfl) (fun _ _ _ h => h) (Or.inl ⟨by rfl, fun wx hx => by simp [go_sem]⟩) hS ?_
    simp only [Act.put, List.getElem_toArray, List.getElem_cons_succ, List.getElem_cons_zero, List.setIfInBounds_toArray, List.set_cons_zero, List.set_cons_succ]
    refine wpAnyH_take (i := 8) (v := .pointer (some ⟨g, 1, none⟩)) rfl (by kernel_rfl) (by kernel_rfl) (by kernel_rfl) (fun _ _ _ h => h) (Or.inl ⟨by rfl, fun wx hx => by simp [go_sem]⟩) hS ?_
    simp only [Act.put, List.getElem_toArray, List.getElem_cons_succ, List.getElem_cons_zero, List.setIfInBounds_toArray, List.set_cons_zero, List.set_cons_succ]
    refine wpAnyH_take (i := 9) (v := (.slice adb nb cpb)) rfl (by kernel_rfl) (by kernel_rfl) (by kernel_rfl) (fun _ _ _ h => h) (Or.inl ⟨by rfl, fun wx hx => by (have hq := (HX.out wx hx).2.2.cell 1; simp [go_sem, bcl] at hq ⊢; simp [hq])⟩) hS ?_
    simp only [Act.put, List.getElem_toArray, List.getElem_cons_succ, List.getElem_cons_zero, List.setIfInBounds_toArray, List.set_cons_zero, List.set_cons_succ]
    refine wpAnyH_take (i := 10) (v := .pointer (some ⟨g, 0, none⟩)) rfl (by kernel_rfl) (by kernel_rfl) (by kernel_rfl) (fun _ _ _ h => h) (Or.inl ⟨by rfl, fun wx hx => by simp [go_sem]⟩) hS ?_
    simp only [Act.put, List.getElem_toArray, List.getElem_cons_succ, List.getElem_cons_zero, List.setIfInBounds_toArray, List.set_cons_zero, List.set_cons_succ]
    refine wpAnyH_take (i := 11) (v := .string (strB bn)) rfl (by kernel_rfl) (by kernel_rfl) (by kernel_rfl) (fun _ _ _ h => h) (Or.inl ⟨by rfl, fun wx hx => by (have hq := (HX.out wx hx).2.2.cell 0; simp [go_sem, bcl] at hq ⊢; simp [hq])⟩) hS ?_
    simp only [Act.put, List.getElem_toArray, List.getElem_cons_succ, List.getElem_cons_zero, List.setIfInBounds_toArray, List.set_cons_zero, List.set_cons_succ]
    refine wpAnyH_take (i := 12) (v := .pointer (some ⟨g, 2, none⟩)) rfl (by kernel_rfl) (by kernel_rfl) (by kernel_rfl) (fun _ _ _ h => h) (Or.inl ⟨by rfl, fun wx hx => by simp [go_sem]⟩) hS ?_
    simp only [Act.put, List.getElem_toArray, List.getElem_cons_succ, List.getElem_cons_zero, List.setIfInBounds_toArray, List.set_cons_zero, List.set_cons_succ]
    refine wpAnyH_take (i := 13) (v := .int .u64 (bs : Int)) rfl (by kernel_rfl) (by kernel_rfl) (by kernel_rfl) (fun _ _ _ h => h) (Or.inl ⟨by rfl, fun wx hx => by (have hq := (HX.out wx hx).2.2.cell 2; simp [go_sem, bcl] at hq ⊢; simp [hq])⟩) hS ?_
    simp only [Act.put, List.getElem_toArray, List.getElem_cons_succ, List.getElem_cons_zero, List.setIfInBounds_toArray, List.set_cons_zero, List.set_cons_succ]
    refine wpAnyH_take (i := 14) (v := .int .u64 (s1 : Int)) rfl (by kernel_rfl) (by kernel_rfl) (by kernel_rfl) (fun _ _ _ h => h) (Or.inl ⟨by rfl, fun wx hx => by simp [go_sem, hw1]⟩) hS ?_
    simp only [Act.put, List.getElem_toArray, List.getElem_cons_succ, List.getElem_cons_zero, List.setIfInBounds_toArray, List.set_cons_zero, List.set_cons_succ]
    refine wpAnyH_take (i := 15) (v := (.slice adq nq cpq)) rfl (by kernel_rfl) (by kernel_rfl) (by kernel_rfl) (fun _ _ _ h => h) (Or.inl ⟨by rfl, fun wx hx => by simp [go_sem]⟩) hS ?_
    simp only [Act.put, List.getElem_toArray, List.getElem_cons_succ, List.getElem_cons_zero, List.setIfInBounds_toArray, List.set_cons_zero, List.set_cons_succ]
    refine wpAnyH_enter 7 (by kernel_rfl) rfl (by rfl) (f := 17) (args := #[(.slice adw nw cpw), .string (strB bn), .int .u64 (s1 : Int), (.slice adq nq cpq)]) (by simp [go_sem]) (rAuth_any wk bn ky (.slice adw nw cpw) (.slice adq nq cpq) s1 _ (HW.out.below (HX.out _ hS).2.1) (HK.out.below (HX.out _ hS).2.1) ⟨by have := HLN.out; omega, by have := HLN.out; omega, HLB.out.2.2, by have := HLB.out; omega⟩) ?_
    rintro e wa ⟨rfl, hb⟩
    rw [← HDW.out, ← HXS.out]
    have hS := hS.trans (hb.mono (HX.out _ hS).1)
    refine ⟨_, rfl, hS, ?_⟩
    simp only [Act.put, List.getElem_toArray, List.getElem_cons_succ, List.getElem_cons_zero, List.setIfInBounds_toArray, List.set_cons_zero, List.set_cons_succ]
    refine wpAnyH_enter 16 (by kernel_rfl) rfl (by rfl) (f := 17) (args := #[(.slice adb nb cpb), .string (strB bn), .int .u64 (s1 : Int), (.slice adq nq cpq)]) (by simp [go_sem]) (rAuth_any bk bn ky (.slice adb nb cpb) (.slice adq nq cpq) s1 _ (HB.out.below (HX.out _ hS).2.1) (HK.out.below (HX.out _ hS).2.1) ⟨by have := HLN.out; omega, by have := HLN.out; omega, HLB.out.2.2, by have := HLB.out; omega⟩) ?_
    rintro e wb ⟨rfl, hb⟩
    rw [← HDG.out, ← HDS.out]
    have hS := hS.trans (hb.mono (HX.out _ hS).1)
    refine ⟨_, rfl, hS, ?_⟩
    simp only [Act.put, List.getElem_toArray, List.getElem_cons_succ, List.getElem_cons_zero, List.setIfInBounds_toArray, List.set_cons_zero, List.set_cons_succ]
    refine wpAnyH_take (i := 17) (v := .bool (decide (dw = dg))) rfl (by kernel_rfl) (by kernel_rfl) (by kernel_rfl) (fun _ _ _ h => h) (Or.inl ⟨by rfl, fun wx hx => by simp [go_sem, hdx]⟩) hS ?_
    simp only [Act.put, List.getElem_toArray, List.getElem_cons_succ, List.getElem_cons_zero, List.setIfInBounds_toArray, List.set_cons_zero, List.set_cons_succ]
    refine wpAnyH_take (i := 18) (v := .bool (decide (dw = dg))) rfl (by kernel_rfl) (by kernel_rfl) (by kernel_rfl) (fun _ _ _ h => h) (Or.inl ⟨by rfl, fun wx hx => by simp [go_sem]⟩) hS ?_
    simp only [Act.put, List.getElem_toArray, List.getElem_cons_succ, List.getElem_cons_zero, List.setIfInBounds_toArray, List.set_cons_zero, List.set_cons_succ]
    refine wpAnyH_done (by kernel_rfl) ?_ _
    have HBL : Hid (Below w.heap.size w wb) := (HX.out _ hS).2.1
    clear hS hb HX HBD HLW hdx
    rcases key with ⟨k1, rfl⟩ | ⟨k1, rfl⟩
    all_goals first | rw [decide_eq_true k1] | rw [decide_eq_false k1]
    all_goals clear k1
    all_goals
      have tl0 : Hid True := trivial
      go_wp2_with (first
        | (clear tl0; go_at_call 9; refine (works19_any _ (HKO.out.below HBL.out HKO.out.lt)).mono ?_; rintro e wz ⟨rfl, hz⟩
           have HBZ : Hid (Below w.heap.size w wz) := HBL.out.trans (hz.mono HBL.out.size)
           clear hz))
    all_goals
      go_ret
      exact ⟨rfl, HBZ.out⟩
end Go.Proofs.YtmkjcgjbhibnpaaDoor
/- The walk of PolicyOnce (layer 19). -/
namespace Go.Proofs.YtmkjcgjbhibnpaaDoor
open Go.RowKit
set_option maxRecDepth 100000
set_option maxRecDepth 100000 in
set_option maxHeartbeats 16000000 in
theorem policyOnce_law (bn bk ky : By) (vb : Value) (bs : Nat) (vk : Value) (w : World) (hK : KOk w) (hb : Reads w vb bk) (hk : Reads w vk ky) (hbs : bs < 18446744073709551616) :
    Calls Tryd.prog 6 #[.agg (bcl bn vb bs).toArray, vk] w fun e w' => e = .returned (.bool true) ∧ Below w.heap.size w w' := by
  have HKO : Hid (KOk w) := hK
  have HB : Hid (Reads w vb bk) := hb
  have HK : Hid (Reads w vk ky) := hk
  obtain ⟨adb, cpb, hvb⟩ := hb.sliceP
  obtain ⟨adq, cpq, hvq⟩ := hk.sliceP
  obtain ⟨nb, HNB⟩ : ∃ x, Hid (x = bk.length) := ⟨_, rfl⟩
  obtain ⟨nq, HNQ⟩ : ∃ x, Hid (x = ky.length) := ⟨_, rfl⟩
  rw [← HNB.out] at hvb
  rw [← HNQ.out] at hvq
  subst hvb hvq
  clear hb hk hK
  have HBL : Hid (Below w.heap.size w w) := Below.refl _ _
  by_cases h1 : bk.length ≤ 2000
  case neg =>
    have HF1 : Hid (decide (bk.length ≤ 2000) = false) := decide_eq_false h1
    clear h1 hbs
    go_enter Tryd.func6, Tryd.ntmps6
    have tk0 : Hid True := trivial
    have tk1 : Hid True := trivial
    have tk2 : Hid True := trivial
    go_wp2_with (first
      | (clear tk0; with_reducible refine wpSeq_boxW 25 (.tmp 0) (bcl bn (.slice adb nb cpb) bs) ?_ ?_ ?_ ?_
         · rfl
         · rfl
         · rfl
         intro g w1 nn
         have hb := nn.below
         have H1 : Hid (Blk w1 g (bcl bn (.slice adb nb cpb) bs) 25) := nn.blk
         clear nn
         replace HBL : Hid (Below w.heap.size w w1) := HBL.out.trans (hb.mono HBL.out.size)
         clear hb
         have b0 : w1.cell? ⟨g, 0, none⟩ = some (.string (strB bn)) := H1.out.cell 0
         have b1 : w1.cell? ⟨g, 1, none⟩ = some (.slice adb nb cpb) := H1.out.cell 1
         have b2 : w1.cell? ⟨g, 2, none⟩ = some (.int .u64 (bs : Int)) := H1.out.cell 2)
      | (clear tk1; go_at_call 8; refine (few19_any (.slice adb nb cpb) _ _ (HB.out.below HBL.out)).mono ?_; rintro e wq1 ⟨rfl, hq⟩
         obtain rfl := hq.symm
         rw [HF1.out])
      | (clear tk2; go_at_call 9; refine (works19_any _ (HKO.out.below HBL.out HKO.out.lt)).mono ?_; rintro e wz ⟨rfl, hz⟩
         have HBZ : Hid (Below w.heap.size w wz) := HBL.out.trans (hz.mono HBL.out.size)
         clear hz))
    go_ret
    exact ⟨rfl, HBZ.out⟩
  case pos =>
  by_cases h2 : ky.length ≤ 2000
  case neg =>
    have HF1 : Hid (decide (bk.length ≤ 2000) = true) := decide_eq_true h1
    have HF2 : Hid (decide (ky.length ≤ 2000) = false) := decide_eq_false h2
    clear h1 h2 hbs
    go_enter Tryd.func6, Tryd.ntmps6
    have tk0 : Hid True := trivial
    have tk1 : Hid True := trivial
    have tk2 : Hid True := trivial
    have tk3 : Hid True := trivial
    go_wp2_with (first
      | (clear tk0; with_reducible refine wpSeq_boxW 25 (.tmp 0) (bcl bn (.slice adb nb cpb) bs) ?_ ?_ ?_ ?_
         · rfl
         · rfl
         · rfl
         intro g w1 nn
         have hb := nn.below
         have H1 : Hid (Blk w1 g (bcl bn (.slice adb nb cpb) bs) 25) := nn.blk
         clear nn
         replace HBL : Hid (Below w.heap.size w w1) := HBL.out.trans (hb.mono HBL.out.size)
         clear hb
         have b0 : w1.cell? ⟨g, 0, none⟩ = some (.string (strB bn)) := H1.out.cell 0
         have b1 : w1.cell? ⟨g, 1, none⟩ = some (.slice adb nb cpb) := H1.out.cell 1
         have b2 : w1.cell? ⟨g, 2, none⟩ = some (.int .u64 (bs : Int)) := H1.out.cell 2)
      | (clear tk1; go_at_call 8; refine (few19_any (.slice adb nb cpb) _ _ (HB.out.below HBL.out)).mono ?_; rintro e wq1 ⟨rfl, hq⟩
         obtain rfl := hq.symm
         rw [HF1.out])
      | (clear tk2; go_at_call 8; refine (few19_any (.slice adq nq cpq) _ _ (HK.out.below HBL.out)).mono ?_; rintro e wq2 ⟨rfl, hq⟩
         obtain rfl := hq.symm
         rw [HF2.out])
      | (clear tk3; go_at_call 9; refine (works19_any _ (HKO.out.below HBL.out HKO.out.lt)).mono ?_; rintro e wz ⟨rfl, hz⟩
         have HBZ : Hid (Below w.heap.size w wz) := HBL.out.trans (hz.mono HBL.out.size)
         clear hz))
    go_ret
    exact ⟨rfl, HBZ.out⟩
  case pos =>
  obtain ⟨ck, HCK⟩ : ∃ x, Hid (x = chk bn ky) := ⟨_, rfl⟩
  by_cases h4 : ck = 0
  case neg =>
    have HF1 : Hid (decide (bk.length ≤ 2000) = true) := decide_eq_true h1
    have HF2 : Hid (decide (ky.length ≤ 2000) = true) := decide_eq_true h2
    have e1 : (ck != 0) = true := by simpa using h4
    clear h1 h2 h4 hbs
    go_enter Tryd.func6, Tryd.ntmps6
    have tk0 : Hid True := trivial
    have tk1 : Hid True := trivial
    have tk2 : Hid True := trivial
    have tk3 : Hid True := trivial
    have tk4 : Hid True := trivial
    go_wp2_with (first
      | (clear tk0; with_reducible refine wpSeq_boxW 25 (.tmp 0) (bcl bn (.slice adb nb cpb) bs) ?_ ?_ ?_ ?_
         · rfl
         · rfl
         · rfl
         intro g w1 nn
         have hb := nn.below
         have H1 : Hid (Blk w1 g (bcl bn (.slice adb nb cpb) bs) 25) := nn.blk
         clear nn
         replace HBL : Hid (Below w.heap.size w w1) := HBL.out.trans (hb.mono HBL.out.size)
         clear hb
         have b0 : w1.cell? ⟨g, 0, none⟩ = some (.string (strB bn)) := H1.out.cell 0
         have b1 : w1.cell? ⟨g, 1, none⟩ = some (.slice adb nb cpb) := H1.out.cell 1
         have b2 : w1.cell? ⟨g, 2, none⟩ = some (.int .u64 (bs : Int)) := H1.out.cell 2)
      | (clear tk1; go_at_call 8; refine (few19_any (.slice adb nb cpb) _ _ (HB.out.below HBL.out)).mono ?_; rintro e wq1 ⟨rfl, hq⟩
         obtain rfl := hq.symm
         rw [HF1.out])
      | (clear tk2; go_at_call 8; refine (few19_any (.slice adq nq cpq) _ _ (HK.out.below HBL.out)).mono ?_; rintro e wq2 ⟨rfl, hq⟩
         obtain rfl := hq.symm
         rw [HF2.out])
      | (clear tk3; go_at_call 16; refine (rfcheck_any bn ky (.slice adq nq cpq) _ (HK.out.below HBL.out)).mono ?_; rintro e wx1 ⟨rfl, qd, rfl⟩
         rw [← HCK.out]
         clear b0 b1 b2
         have hb : Below w1.heap.size w1 (w1.drewN qd) := ⟨rfl, rfl, rfl, Nat.le_refl _, fun _ _ => rfl⟩
         generalize w1.drewN qd = w2 at *
         replace H1 : Hid (Blk w2 g (bcl bn (.slice adb nb cpb) bs) 25) := H1.out.below hb H1.out.lt
         replace HBL : Hid (Below w.heap.size w w2) := HBL.out.trans (hb.mono HBL.out.size)
         clear hb
         have b0 : w2.cell? ⟨g, 0, none⟩ = some (.string (strB bn)) := H1.out.cell 0
         have b1 : w2.cell? ⟨g, 1, none⟩ = some (.slice adb nb cpb) := H1.out.cell 1
         have b2 : w2.cell? ⟨g, 2, none⟩ = some (.int .u64 (bs : Int)) := H1.out.cell 2)
      | (clear tk4; go_at_call 9; refine (works19_any _ (HKO.out.below HBL.out HKO.out.lt)).mono ?_; rintro e wz ⟨rfl, hz⟩
         have HBZ : Hid (Below w.heap.size w wz) := HBL.out.trans (hz.mono HBL.out.size)
         clear hz))
    go_ret
    exact ⟨rfl, HBZ.out⟩
  case pos =>
  subst h4
  by_cases h5 : 9223372036854775808 < bs
  case pos =>
    have HF1 : Hid (decide (bk.length ≤ 2000) = true) := decide_eq_true h1
    have HF2 : Hid (decide (ky.length ≤ 2000) = true) := decide_eq_true h2
    have e3 : (9223372036854775808 : Int) < ((bs : Nat) : Int) := by omega
    clear h1 h2 h5 hbs
    go_enter Tryd.func6, Tryd.ntmps6
    have tk0 : Hid True := trivial
    have tk1 : Hid True := trivial
    have tk2 : Hid True := trivial
    have tk3 : Hid True := trivial
    have tk4 : Hid True := trivial
    go_wp2_with (first
      | (clear tk0; with_reducible refine wpSeq_boxW 25 (.tmp 0) (bcl bn (.slice adb nb cpb) bs) ?_ ?_ ?_ ?_
         · rfl
         · rfl
         · rfl
         intro g w1 nn
         have hb := nn.below
         have H1 : Hid (Blk w1 g (bcl bn (.slice adb nb cpb) bs) 25) := nn.blk
         clear nn
         replace HBL : Hid (Below w.heap.size w w1) := HBL.out.trans (hb.mono HBL.out.size)
         clear hb
         have b0 : w1.cell? ⟨g, 0, none⟩ = some (.string (strB bn)) := H1.out.cell 0
         have b1 : w1.cell? ⟨g, 1, none⟩ = some (.slice adb nb cpb) := H1.out.cell 1
         have b2 : w1.cell? ⟨g, 2, none⟩ = some (.int .u64 (bs : Int)) := H1.out.cell 2)
      | (clear tk1; go_at_call 8; refine (few19_any (.slice adb nb cpb) _ _ (HB.out.below HBL.out)).mono ?_; rintro e wq1 ⟨rfl, hq⟩
         obtain rfl := hq.symm
         rw [HF1.out])
      | (clear tk2; go_at_call 8; refine (few19_any (.slice adq nq cpq) _ _ (HK.out.below HBL.out)).mono ?_; rintro e wq2 ⟨rfl, hq⟩
         obtain rfl := hq.symm
         rw [HF2.out])
      | (clear tk3; go_at_call 16; refine (rfcheck_any bn ky (.slice adq nq cpq) _ (HK.out.below HBL.out)).mono ?_; rintro e wx1 ⟨rfl, qd, rfl⟩
         rw [← HCK.out]
         clear b0 b1 b2
         have hb : Below w1.heap.size w1 (w1.drewN qd) := ⟨rfl, rfl, rfl, Nat.le_refl _, fun _ _ => rfl⟩
         generalize w1.drewN qd = w2 at *
         replace H1 : Hid (Blk w2 g (bcl bn (.slice adb nb cpb) bs) 25) := H1.out.below hb H1.out.lt
         replace HBL : Hid (Below w.heap.size w w2) := HBL.out.trans (hb.mono HBL.out.size)
         clear hb
         have b0 : w2.cell? ⟨g, 0, none⟩ = some (.string (strB bn)) := H1.out.cell 0
         have b1 : w2.cell? ⟨g, 1, none⟩ = some (.slice adb nb cpb) := H1.out.cell 1
         have b2 : w2.cell? ⟨g, 2, none⟩ = some (.int .u64 (bs : Int)) := H1.out.cell 2)
      | (clear tk4; go_at_call 9; refine (works19_any _ (HKO.out.below HBL.out HKO.out.lt)).mono ?_; rintro e wz ⟨rfl, hz⟩
         have HBZ : Hid (Below w.heap.size w wz) := HBL.out.trans (hz.mono HBL.out.size)
         clear hz))
    go_ret
    exact ⟨rfl, HBZ.out⟩
  case neg =>
    have HF1 : Hid (decide (bk.length ≤ 2000) = true) := decide_eq_true h1
    have HF2 : Hid (decide (ky.length ≤ 2000) = true) := decide_eq_true h2
    have e3 : ¬ (9223372036854775808 : Int) < ((bs : Nat) : Int) := by omega
    obtain ⟨s1, HS1⟩ : ∃ x, Hid (x = bs + 1) := ⟨_, rfl⟩
    obtain ⟨s2, HS2⟩ : ∃ x, Hid (x = bs + 2) := ⟨_, rfl⟩
    have hw1 : IntKind.u64.wrap ((bs : Int) + 1) = (s1 : Int) := by rw [IntKind.wrap_u64, HS1.out]; omega
    have hw2 : IntKind.u64.wrap ((bs : Int) + 2) = (s2 : Int) := by rw [IntKind.wrap_u64, HS2.out]; omega
    have hs1 : s1 < 18446744073709551616 := by rw [HS1.out]; omega
    have HLN : Hid (bn.length ≤ 32 ∧ ky.length ≤ 64) := chk_len HCK.out.symm
    obtain ⟨dw, HDW⟩ : ∃ x, Hid (x = hmac bk (authB bn s1 ky)) := ⟨_, rfl⟩
    have HDWL : Hid (dw.length = 32) := by show _ = _; rw [HDW.out]; exact len_dig' _
    obtain ⟨dg, HDG⟩ : ∃ x, Hid (x = hmac ky (authB bn s2 ky)) := ⟨_, rfl⟩
    have HDGL : Hid (dg.length = 32) := by show _ = _; rw [HDG.out]; exact len_dig' _
    have HN1 : Hid (nxE bn bk bs true 2 bn ky dw = (0, s1)) := by show _ = _; rw [nxE_ask, ← HCK.out, if_neg (by simp), if_neg (by omega), ← HS1.out, if_pos HDW.out]
    obtain ⟨er, sn, HNX⟩ : ∃ er sn, Hid (nxE bn ky s1 true 2 bn ky dw = (er, sn)) := ⟨_, _, rfl⟩
    have key : (dw = dg ∧ er = 0) ∨ (dw ≠ dg ∧ er = 8) := by
      have h0 := HNX.out
      rw [nxE_ask, ← HCK.out, if_neg (by simp), if_neg (by rw [HS1.out]; omega), show s1 + 1 = s2 by rw [HS1.out, HS2.out], ← HDG.out] at h0
      by_cases k1 : dw = dg
      · rw [if_pos k1] at h0; exact Or.inl ⟨k1, (Prod.mk.inj h0).1.symm⟩
      · rw [if_neg k1] at h0; exact Or.inr ⟨k1, (Prod.mk.inj h0).1.symm⟩
    have HCA : Hid (∀ W, Below w.heap.size w W → Calls Tryd.prog 13 #[.agg (bcl bn (.slice adb nb cpb) bs).toArray, (.slice adq nq cpq)] W fun e w' => ∃ ad n c, e = .returned (.agg (reqV 2 bn (.slice ad n c) dw).toArray) ∧ Reads w' (.slice ad n c) ky ∧ Below W.heap.size W w') := fun W hW => by
      have h := polAsk_any bn bk ky (.slice adb nb cpb) (.slice adq nq cpq) bs s1 W (HKO.out.below hW HKO.out.lt) (HB.out.below hW) (HK.out.below hW) hw1 ⟨by have := HLN.out; omega, by have := HLN.out; omega, hs1, by omega⟩
      unfold AskR at h
      rw [← HDW.out] at h
      exact h
    obtain ⟨xn, HXN⟩ : ∃ x, Hid (x = if er = 0 then bn else []) := ⟨_, rfl⟩
    obtain ⟨xk, HXK⟩ : ∃ x, Hid (x = if er = 0 then ky else []) := ⟨_, rfl⟩
    have HCN : Hid (∀ W v, Below w.heap.size w W → Reads W v ky → NxC 10 W (.agg (bcl bn (.slice adb nb cpb) bs).toArray) (.bool true) (.agg (reqV 2 bn v dw).toArray) bn ky s1 0) := fun W v hW hv => by
      exact nxC_of HN1.out (polNext_any bn bk _ bs true 2 bn ky dw v W (HKO.out.below hW HKO.out.lt) (HB.out.below hW) hv HDWL.out hbs (by omega))
    have HCO : Hid (∀ W v vb2, Below w.heap.size w W → Reads W v ky → Reads W vb2 ky → NxC 10 W (.agg (bcl bn vb2 s1).toArray) (.bool true) (.agg (reqV 2 bn v dw).toArray) xn xk sn er) := fun W v vb2 hW hv hv2 => by
      rw [HXN.out, HXK.out]
      exact nxC_of HNX.out (polNext_any bn ky _ s1 true 2 bn ky dw v W (HKO.out.below hW HKO.out.lt) hv2 hv HDWL.out hs1 (by omega))
    have HLB : Hid (bk.length ≤ 2000 ∧ ky.length ≤ 2000 ∧ s1 < 18446744073709551616 ∧ s2 < 18446744073709551616) := ⟨h1, h2, hs1, by rw [HS2.out]; omega⟩
    obtain ⟨xs, HXS⟩ : ∃ c, Hid (c = cb dw) := ⟨_, rfl⟩
    obtain ⟨ds, HDS⟩ : ∃ c, Hid (c = cb dg) := ⟨_, rfl⟩
    have hdx : ∀ (wx : World), (Op.equalIn 10000 27 (.agg xs.toArray) (.agg ds.toArray)).run Tryd.prog wx = .ok (decide (dw = dg)) wx := fun wx => by rw [HXS.out, HDS.out]; exact eq_dig dw dg HDWL.out HDGL.out wx
    clear h1 h2 h5 hbs hs1 HNX HN1
    go_enter Tryd.func6, Tryd.ntmps6
    have tk0 : Hid True := trivial
    have tk1 : Hid True := trivial
    have tk2 : Hid True := trivial
    have tk3 : Hid True := trivial
    have tk4 : Hid True := trivial
    have tk5 : Hid True := trivial
    have tk6 : Hid True := trivial
    have tk7 : Hid True := trivial
    have tk8 : Hid True := trivial
    have tk9 : Hid True := trivial
    have tk10 : Hid True := trivial
    have tk11 : Hid True := trivial
    have tk12 : Hid True := trivial
    have tk13 : Hid True := trivial
    have tk14 : Hid True := trivial
    have tk15 : Hid True := trivial
    go_wp2_with (first
      | (clear tk0; with_reducible refine wpSeq_boxW 25 (.tmp 0) (bcl bn (.slice adb nb cpb) bs) ?_ ?_ ?_ ?_
         · rfl
         · rfl
         · rfl
         intro g w1 nn
         have hb := nn.below
         have H1 : Hid (Blk w1 g (bcl bn (.slice adb nb cpb) bs) 25) := nn.blk
         clear nn
         replace HBL : Hid (Below w.heap.size w w1) := HBL.out.trans (hb.mono HBL.out.size)
         clear hb
         have b0 : w1.cell? ⟨g, 0, none⟩ = some (.string (strB bn)) := H1.out.cell 0
         have b1 : w1.cell? ⟨g, 1, none⟩ = some (.slice adb nb cpb) := H1.out.cell 1
         have b2 : w1.cell? ⟨g, 2, none⟩ = some (.int .u64 (bs : Int)) := H1.out.cell 2)
      | (clear tk1; go_at_call 8; refine (few19_any (.slice adb nb cpb) _ _ (HB.out.below HBL.out)).mono ?_; rintro e wq1 ⟨rfl, hq⟩
         obtain rfl := hq.symm
         rw [HF1.out])
      | (clear tk2; go_at_call 8; refine (few19_any (.slice adq nq cpq) _ _ (HK.out.below HBL.out)).mono ?_; rintro e wq2 ⟨rfl, hq⟩
         obtain rfl := hq.symm
         rw [HF2.out])
      | (clear tk3; go_at_call 16; refine (rfcheck_any bn ky (.slice adq nq cpq) _ (HK.out.below HBL.out)).mono ?_; rintro e wx1 ⟨rfl, qd, rfl⟩
         rw [← HCK.out]
         clear b0 b1 b2
         have hb : Below w1.heap.size w1 (w1.drewN qd) := ⟨rfl, rfl, rfl, Nat.le_refl _, fun _ _ => rfl⟩
         generalize w1.drewN qd = w2 at *
         replace H1 : Hid (Blk w2 g (bcl bn (.slice adb nb cpb) bs) 25) := H1.out.below hb H1.out.lt
         replace HBL : Hid (Below w.heap.size w w2) := HBL.out.trans (hb.mono HBL.out.size)
         clear hb
         have b0 : w2.cell? ⟨g, 0, none⟩ = some (.string (strB bn)) := H1.out.cell 0
         have b1 : w2.cell? ⟨g, 1, none⟩ = some (.slice adb nb cpb) := H1.out.cell 1
         have b2 : w2.cell? ⟨g, 2, none⟩ = some (.int .u64 (bs : Int)) := H1.out.cell 2)
      | (clear tk4; with_reducible refine wpSeq_loadW 25 (.tmp 2) g 0 (bcl bn (.slice adb nb cpb) bs) _ H1.out.range Tryd.underlying25 rfl info_bcl ?_ ?_ ?_ ?_
         · rfl
         · rfl
         · rfl)
      | (clear tk5; go_at_call 13; refine (HCA.out _ HBL.out).mono ?_; rintro e w3 ⟨aq, nq2, cq, rfl, hr, hb⟩
         have HRQ : Hid (Reads w3 (.slice aq nq2 cq) ky) := hr
         clear hr b0 b1 b2
         replace H1 : Hid (Blk w3 g (bcl bn (.slice adb nb cpb) bs) 25) := H1.out.below hb H1.out.lt
         replace HBL : Hid (Below w.heap.size w w3) := HBL.out.trans (hb.mono HBL.out.size)
         clear hb)
      | (clear tk6; with_reducible refine wpSeq_allocR ?_ ?_ ?_
         · rfl
         · rfl
         intro g5 w4 nn
         have HNR : Hid (NewR (reqV 0 [] (.slice none 0 0) zb32) 29 w3 g5 w4) := nn
         clear nn)
      | (clear tk7; with_reducible refine wpSeq_storeReq (.tmp 5) (.tmp 33) g5 2 bn dw aq nq2 cq HNR.out.blk HDWL.out ?_ ?_ ?_ ?_ ?_
         · rfl
         · rfl
         · rfl
         · rfl
         intro w5 sr
         have hb : Below w3.heap.size w3 w5 := HNR.out.below.trans (sr.only.below HNR.out.ge HNR.out.below.size)
         have H5 : Hid (Blk w5 g5 (reqV 2 bn (.slice aq nq2 cq) dw) 29) := sr.blk
         replace HRQ : Hid (Reads w5 (.slice aq nq2 cq) ky) := HRQ.out.below hb
         clear sr HNR
         replace H1 : Hid (Blk w5 g (bcl bn (.slice adb nb cpb) bs) 25) := H1.out.below hb H1.out.lt
         replace HBL : Hid (Below w.heap.size w w5) := HBL.out.trans (hb.mono HBL.out.size)
         clear hb)
      | (clear tk8; with_reducible refine wpSeq_loadW 25 (.tmp 2) g 0 (bcl bn (.slice adb nb cpb) bs) _ H1.out.range Tryd.underlying25 rfl info_bcl ?_ ?_ ?_ ?_
         · rfl
         · rfl
         · rfl)
      | (clear tk9; with_reducible refine wpSeq_loadW 29 (.tmp 5) g5 0 (reqV 2 bn (.slice aq nq2 cq) dw) _ H5.out.range Tryd.underlying29 rfl (info_reqV HDWL.out) ?_ ?_ ?_ ?_
         · rfl
         · rfl
         · rfl)
      | (clear tk10; go_at_call 10; refine (HCN.out _ _ HBL.out HRQ.out).mono ?_; rintro e w6 ⟨a6, n6, c6, rfl, hr, hb⟩
         have HR6 : Hid (Reads w6 (.slice a6 n6 c6) ky) := hr
         clear hr
         replace HRQ : Hid (Reads w6 (.slice aq nq2 cq) ky) := HRQ.out.below hb
         replace H1 : Hid (Blk w6 g (bcl bn (.slice adb nb cpb) bs) 25) := H1.out.below hb H1.out.lt
         replace H5 : Hid (Blk w6 g5 (reqV 2 bn (.slice aq nq2 cq) dw) 29) := H5.out.below hb H5.out.lt
         replace HBL : Hid (Below w.heap.size w w6) := HBL.out.trans (hb.mono HBL.out.size)
         clear hb)
      | (clear tk11; with_reducible refine wpSeq_allocB ?_ ?_ ?_
         · rfl
         · rfl
         intro g6 w7 nn
         have HNN : Hid (NewR (bcl [] (.slice none 0 0) 0) 25 w6 g6 w7) := nn
         clear nn)
      | (clear tk12; with_reducible refine wpSeq_storeRow 25 (.tmp 6) (.tmp 38) g6 (bcl [] (.slice none 0 0) 0) (bcl bn (.slice a6 n6 c6) s1) HNN.out.blk len_bcl info_bcl bcl_one ?_ ?_ ?_ ?_ ?_
         · rfl
         · rfl
         · rfl
         · rfl
         intro w8 sr
         have hb : Below w6.heap.size w6 w8 := HNN.out.below.trans (sr.only.below HNN.out.ge HNN.out.below.size)
         have H6 : Hid (Blk w8 g6 (bcl bn (.slice a6 n6 c6) s1) 25) := sr.blk
         replace HR6 : Hid (Reads w8 (.slice a6 n6 c6) ky) := HR6.out.below hb
         replace HRQ : Hid (Reads w8 (.slice aq nq2 cq) ky) := HRQ.out.below hb
         clear sr HNN
         replace H1 : Hid (Blk w8 g (bcl bn (.slice adb nb cpb) bs) 25) := H1.out.below hb H1.out.lt
         replace H5 : Hid (Blk w8 g5 (reqV 2 bn (.slice aq nq2 cq) dw) 29) := H5.out.below hb H5.out.lt
         replace HBL : Hid (Below w.heap.size w w8) := HBL.out.trans (hb.mono HBL.out.size)
         clear hb)
      | (clear tk13; with_reducible refine wpSeq_loadW 25 (.tmp 6) g6 0 (bcl bn (.slice a6 n6 c6) s1) _ H6.out.range Tryd.underlying25 rfl info_bcl ?_ ?_ ?_ ?_
         · rfl
         · rfl
         · rfl)
      | (clear tk14; with_reducible refine wpSeq_loadW 29 (.tmp 5) g5 0 (reqV 2 bn (.slice aq nq2 cq) dw) _ H5.out.range Tryd.underlying29 rfl (info_reqV HDWL.out) ?_ ?_ ?_ ?_
         · rfl
         · rfl
         · rfl)
      | (clear tk15; go_at_call 10; refine (HCO.out _ _ _ HBL.out HRQ.out HR6.out).mono ?_; rintro e w9 ⟨a7, n7, c7, rfl, hr, hb⟩
         have HR7 : Hid (Reads w9 (.slice a7 n7 c7) xk) := hr
         clear hr
         clear HRQ HR6 HR7
         replace H1 : Hid (Blk w9 g (bcl bn (.slice adb nb cpb) bs) 25) := H1.out.below hb H1.out.lt
         replace H5 : Hid (Blk w9 g5 (reqV 2 bn (.slice aq nq2 cq) dw) 29) := H5.out.below hb H5.out.lt
         replace H6 : Hid (Blk w9 g6 (bcl bn (.slice a6 n6 c6) s1) 25) := H6.out.below hb H6.out.lt
         replace HBL : Hid (Below w.heap.size w w9) := HBL.out.trans (hb.mono HBL.out.size)
         clear hb))
    refine wp_region_held_drew (S := Below w9.heap.size w9.drew) (by kernel_rfl) (Below.refl _ _) ?_
    intro hS
    clear hS
    have HBd : Hid (Below w.heap.size w w9.drew) := HBL.out.trans ((Below.refl _ _).drew.mono HBL.out.size)
    have HD0 : Hid (Blk w9.drew g (bcl bn (.slice adb nb cpb) bs) 25) := H1.out.below (Below.refl _ _).drew H1.out.lt
    have HLW : Hid (w.heap.size ≤ w9.heap.size) := HBL.out.size
    clear HBL H1 
    obtain ⟨B, HBB⟩ : ∃ x, Hid (x = w9.heap.size) := ⟨_, rfl⟩
    have HBD : Hid (w9.drew.heap.size = B) := by rw [HBB.out]; rfl
    rw [← HBB.out] at HLW ⊢
    change wpAnyH _ _ _ _ _ _ _ _ (World.drew w9)
    generalize World.drew w9 = wd at *
    clear HBB
    have hS : Below B wd wd := Below.refl _ _
    have HX : Hid (∀ W, Below B wd W → B ≤ W.heap.size ∧ Below w.heap.size w W ∧ Blk W g (bcl bn (.slice adb nb cpb) bs) 25) := fun W hW =>
      have hW2 : Below wd.heap.size wd W := hW.mono (Nat.le_of_eq HBD.out)
      ⟨by have := hW.size; rw [HBD.out] at this; exact this, HBd.out.trans (hW.mono HLW.out), HD0.out.below hW2 HD0.out.lt⟩
    clear HBd HD0 
    refine wpAnyH_take (i := 0) (v := .pointer (some ⟨g, 1, none⟩)) rfl (by kernel_rfl) (by kernel_rfl) (by kernel_rfl) (fun _ _ _ h => h) (Or.inl ⟨by rfl, fun wx hx => by simp [go_sem]⟩) hS ?_
    simp only [Act.put, List.getElem_toArray, List.getElem_cons_zero, List.setIfInBounds_toArray, List.set_cons_zero, List.set_cons_succ]
    refine wpAnyH_take (i := 1) (v := (.slice adb nb cpb)) rfl (by kernel_rfl) (by kernel_rfl) (by kernel_rfl) (fun _ _ _ h => h) (Or.inl ⟨by rfl, fun wx hx => by (have hq := (HX.out wx hx).2.2.cell 1; simp [go_sem, bcl] at hq ⊢; simp [hq])⟩) hS ?_
    simp only [Act.put, List.getElem_toArray, List.getElem_cons_succ, List.getElem_cons_zero, List.setIfInBounds_toArray, List.set_cons_zero, List.set_cons_succ]
    refine wpAnyH_take (i := 2) (v := .pointer (some ⟨g, 0, none⟩)) rfl (by kernel_rfl) (by kernel_rfl) (by kernel_rfl) (fun _ _ _ h => h) (Or.inl ⟨by rfl, fun wx hx => by simp [go_sem]⟩) hS ?_
    simp only [Act.put, List.getElem_toArray, List.getElem_cons_succ, List.getElem_cons_zero, List.setIfInBounds_toArray, List.set_cons_zero, List.set_cons_succ]
    refine wpAnyH_take (i := 3) (v := .string (strB bn)) rfl (by kernel_rfl) (by kernel_rfl) (by kernel_rfl) (fun _ _ _ h => h) (Or.inl ⟨by rfl, fun wx hx => by (have hq := (HX.out wx hx).2.2.cell 0; simp [go_sem, bcl] at hq ⊢; simp [hq])⟩) hS ?_
    simp only [Act.put, List.getElem_toArray, List.getElem_cons_succ, List.getElem_cons_zero, List.setIfInBounds_toArray, List.set_cons_zero, List.set_cons_succ]
    refine wpAnyH_take (i := 4) (v := .pointer (some ⟨g, 2, none⟩)) rfl (by kernel_rfl) (by kernel_rfl) (by kernel_rfl) (fun _ _ _ h => h) (Or.inl ⟨by rfl, fun wx hx => by simp [go_sem]⟩) hS ?_
    simp only [Act.put, List.getElem_toArray, List.getElem_cons_succ, List.getElem_cons_zero, List.setIfInBounds_toArray, List.set_cons_zero, List.set_cons_succ]
    refine wpAnyH_take (i := 5) (v := .int .u64 (bs : Int)) rfl (by kernel_rfl) (by kernel_rfl) (by kernel_rfl) (fun _ _ _ h => h) (Or.inl ⟨by rfl, fun wx hx => by (have hq := (HX.out wx hx).2.2.cell 2; simp [go_sem, bcl] at hq ⊢; simp [hq])⟩) hS ?_
    simp only [Act.put, List.getElem_toArray, List.getElem_cons_succ, List.getElem_cons_zero, List.setIfInBounds_toArray, List.set_cons_zero, List.set_cons_succ]
    refine wpAnyH_take (i := 6) (v := .int .u64 (s1 : Int)) rfl (by kernel_rfl) (by kernel_rfl) (by kernel_rfl) (fun _ _ _ h => h) (Or.inl ⟨by rfl, fun wx hx => by simp [go_sem, hw1]⟩) hS ?_
    simp only [Act.put, List.getElem_toArray, List.getElem_cons_succ, List.getElem_cons_zero, List.setIfInBounds_toArray, List.set_cons_zero, List.set_cons_succ]
    refine wpAnyH_take (i := 7) (v := (.slice adq nq cpq)) rfl (by kernel_rfl) (by kernel_rfl) (by kernel_rfl) (fun _ _ _ h => h) (Or.inl ⟨by rfl, fun wx hx => by simp [go_sem]⟩) hS ?_
    simp only [Act.put, List.getElem_toArray, List.getElem_cons_succ, List.getElem_cons_zero, List.setIfInBounds_toArray, List.set_cons_zero, List.set_cons_succ]
    refine wpAnyH_take (i := 9) (v := (.slice adq nq cpq)) rfl (by kernel_rfl) (by kernel_rfl) (by kernel_rfl) (fun _ _ _ h => h) (Or.inl ⟨by rfl, fun wx hx => by simp [go_sem]⟩) hS ?_
    simp only [Act.put, List.getElem_toArray, List.getElem_cons_succ, List.getElem_cons_zero, List.setIfInBounds_toArray, List.set_cons_zero, List.set_cons_succ]
    refine wpAnyH_take (i := 10) (v := .pointer (some ⟨g, 0, none⟩)) rfl (by kernel_rfl) (by kernel_rfl) (by kernel_rfl) (fun _ _ _ h => h) (Or.inl ⟨by rfl, fun wx hx => by simp [go_sem]⟩) hS ?_
    simp only [Act.put, List.getElem_toArray, List.getElem_cons_succ, List.getElem_cons_zero, List.setIfInBounds_toArray, List.set_cons_zero, List.set_cons_succ]
    refine wpAnyH_take (i := 11) (v := .string (strB bn)) rfl (by kernel_rfl) (by kernel_rfl) (by kernel_rfl) (fun _ _ _ h => h) (Or.inl ⟨by rfl, fun wx hx => by (have hq := (HX.out wx hx).2.2.cell 0; simp [go_sem, bcl] at hq ⊢; simp [hq])⟩) hS ?_
    simp only [Act.put, List.getElem_toArray, List.getElem_cons_succ, List.getElem_cons_zero, List.setIfInBounds_toArray, List.set_cons_zero, List.set_cons_succ]
    refine wpAnyH_take (i := 12) (v := .pointer (some ⟨g, 2, none⟩)) rfl (by kernel_rfl) (by kernel_rfl) (by kernel_rfl) (fun _ _ _ h => h) (Or.inl ⟨by rfl, fun wx hx => by simp [go_sem]⟩) hS ?_
    simp only [Act.put, List.getElem_toArray, List.getElem_cons_succ, List.getElem_cons_zero, List.setIfInBounds_toArray, List.set_cons_zero, List.set_cons_succ]
    refine wpAnyH_take (i := 13) (v := .int .u64 (bs : Int)) rfl (by kernel_rfl) (by kernel_rfl) (by kernel_rfl) (fun _ _ _ h => h) (Or.inl ⟨by rfl, fun wx hx => by (have hq := (HX.out wx hx).2.2.cell 2; simp [go_sem, bcl] at hq ⊢; simp [hq])⟩) hS ?_
    simp only [Act.put, List.getElem_toArray, List.getElem_cons_succ, List.getElem_cons_zero, List.setIfInBounds_toArray, List.set_cons_zero, List.set_cons_succ]
    refine wpAnyH_take (i := 14) (v := .int .u64 (s2 : Int)) rfl (by kernel_rfl) (by kernel_rfl) (by kernel_rfl) (fun _ _ _ h => h) (Or.inl ⟨by rfl, fun wx hx => by simp [go_sem, hw2]⟩) hS ?_
    simp only [Act.put, List.getElem_toArray, List.getElem_cons_succ, List.getElem_cons_zero, List.setIfInBounds_toArray, List.set_cons_zero, List.set_cons_succ]
    refine wpAnyH_take (i := 15) (v := (.slice adq nq cpq)) rfl (by kernel_rfl) (by kernel_rfl) (by kernel_rfl) (fun _ _ _ h => h) (Or.inl ⟨by rfl, fun wx hx => by simp [go_sem]⟩) hS ?_
    simp only [Act.put, List.getElem_toArray, List.getElem_cons_succ, List.getElem_cons_zero, List.setIfInBounds_toArray, List.set_cons_zero, List.set_cons_succ]
    refine wpAnyH_enter 8 (by kernel_rfl) rfl (by rfl) (f := 17) (args := #[(.slice adb nb cpb), .string (strB bn), .int .u64 (s1 : Int), (.slice adq nq cpq)]) (by simp [go_sem]) (rAuth_any bk bn ky (.slice adb nb cpb) (.slice adq nq cpq) s1 _ (HB.out.below (HX.out _ hS).2.1) (HK.out.below (HX.out _ hS).2.1) ⟨by have := HLN.out; omega, by have := HLN.out; omega, by have := HLB.out; omega, by have := HLB.out; omega⟩) ?_
    rintro e wa ⟨rfl, hb⟩
    rw [← HDW.out, ← HXS.out]
    have hS := hS.trans (hb.mono (HX.out _ hS).1)
    refine ⟨_, rfl, hS, ?_⟩
    simp only [Act.put, List.getElem_toArray, List.getElem_cons_succ, List.getElem_cons_zero, List.setIfInBounds_toArray, List.set_cons_zero, List.set_cons_succ]
    refine wpAnyH_enter 16 (by kernel_rfl) rfl (by rfl) (f := 17) (args := #[(.slice adq nq cpq), .string (strB bn), .int .u64 (s2 : Int), (.slice adq nq cpq)]) (by simp [go_sem]) (rAuth_any ky bn ky (.slice adq nq cpq) (.slice adq nq cpq) s2 _ (HK.out.below (HX.out _ hS).2.1) (HK.out.below (HX.out _ hS).2.1) ⟨by have := HLN.out; omega, by have := HLN.out; omega, by have := HLB.out; omega, by have := HLB.out; omega⟩) ?_
    rintro e wb ⟨rfl, hb⟩
    rw [← HDG.out, ← HDS.out]
    have hS := hS.trans (hb.mono (HX.out _ hS).1)
    refine ⟨_, rfl, hS, ?_⟩
    simp only [Act.put, List.getElem_toArray, List.getElem_cons_succ, List.getElem_cons_zero, List.setIfInBounds_toArray, List.set_cons_zero, List.set_cons_succ]
    refine wpAnyH_take (i := 17) (v := .bool (decide (dw = dg))) rfl (by kernel_rfl) (by kernel_rfl) (by kernel_rfl) (fun _ _ _ h => h) (Or.inl ⟨by rfl, fun wx hx => by simp [go_sem, hdx]⟩) hS ?_
    simp only [Act.put, List.getElem_toArray, List.getElem_cons_succ, List.getElem_cons_zero, List.setIfInBounds_toArray, List.set_cons_zero, List.set_cons_succ]
    refine wpAnyH_take (i := 18) (v := .bool (decide (dw = dg))) rfl (by kernel_rfl) (by kernel_rfl) (by kernel_rfl) (fun _ _ _ h => h) (Or.inl ⟨by rfl, fun wx hx => by simp [go_sem]⟩) hS ?_
    simp only [Act.put, List.getElem_toArray, List.getElem_cons_succ, List.getElem_cons_zero, List.setIfInBounds_toArray, List.set_cons_zero, List.set_cons_succ]
    refine wpAnyH_done (by kernel_rfl) ?_ _
    have HBL : Hid (Below w.heap.size w wb) := (HX.out _ hS).2.1
    clear hS hb HX HBD HLW hdx
    rcases key with ⟨k1, rfl⟩ | ⟨k1, rfl⟩
    all_goals first | rw [decide_eq_true k1] | rw [decide_eq_false k1]
    all_goals clear k1
    all_goals
      have tl0 : Hid True := trivial
      go_wp2_with (first
        | (clear tl0; go_at_call 9; refine (works19_any _ (HKO.out.below HBL.out HKO.out.lt)).mono ?_; rintro e wz ⟨rfl, hz⟩
           have HBZ : Hid (Below w.heap.size w wz) := HBL.out.trans (hz.mono HBL.out.size)
           clear hz))
    all_goals
      go_ret
      exact ⟨rfl, HBZ.out⟩
end Go.Proofs.YtmkjcgjbhibnpaaDoor
/- The walk of PolicyNames (layer 19). -/
namespace Go.Proofs.YtmkjcgjbhibnpaaDoor
open Go.RowKit
set_option maxRecDepth 100000
theorem nxE_no {bn bk qn qy au : By} {bs sn : Nat} {th : Bool} {qk er : Int} (h : nxE bn bk bs th qk qn qy au = (er, sn)) (he : er ≠ 0) : sn = 0 := by
  unfold nxE at h
  by_cases hp : pcE bn th qk qn qy = 0
  · rw [if_neg (by simp [hp])] at h
    by_cases h1 : qk = 1
    · rw [if_pos h1] at h; have := rg_no (th := th) (au := au) (by rw [h]; exact he); rw [h] at this; exact this
    · rw [if_neg h1] at h; have := cg_no (bk := bk) (bn := bn) (qy := qy) (au := au) (bs := bs) (th := th) (by rw [h]; exact he); rw [h] at this; exact this
  · rw [if_pos hp] at h; exact (Prod.mk.inj h).2.symm
set_option maxRecDepth 100000 in
set_option maxHeartbeats 16000000 in
theorem policyNames_law (bn bk : By) (vb : Value) (bs : Nat) (th : Bool) (qk : Int) (qn qy au : By) (vk : Value) (w : World) (hK : KOk w) (hb : Reads w vb bk) (hk : Reads w vk qy) (ha : au.length = 32) (hbs : bs < 18446744073709551616) :
    Calls Tryd.prog 7 #[.agg (bcl bn vb bs).toArray, .bool th, .agg (reqV qk qn vk au).toArray] w fun e w' => e = .returned (.bool true) ∧ Below w.heap.size w w' := by
  have HKO : Hid (KOk w) := hK
  have HB : Hid (Reads w vb bk) := hb
  have HK : Hid (Reads w vk qy) := hk
  obtain ⟨adb, cpb, hvb⟩ := hb.sliceP
  obtain ⟨adq, cpq, hvq⟩ := hk.sliceP
  obtain ⟨nb, HNB⟩ : ∃ x, Hid (x = bk.length) := ⟨_, rfl⟩
  obtain ⟨nq, HNQ⟩ : ∃ x, Hid (x = qy.length) := ⟨_, rfl⟩
  rw [← HNB.out] at hvb
  rw [← HNQ.out] at hvq
  subst hvb hvq
  clear hb hk hK
  have HBL : Hid (Below w.heap.size w w) := Below.refl _ _
  have HA : Hid (au.length = 32) := ha
  by_cases h1 : bk.length ≤ 2000
  case neg =>
    have HF1 : Hid (decide (bk.length ≤ 2000) = false) := decide_eq_false h1
    clear h1 ha hbs
    go_enter Tryd.func7, Tryd.ntmps7
    have tk0 : Hid True := trivial
    have tk1 : Hid True := trivial
    have tk2 : Hid True := trivial
    have tk3 : Hid True := trivial
    go_wp2_with (first
      | (clear tk0; with_reducible refine wpSeq_boxW 25 (.tmp 0) (bcl bn (.slice adb nb cpb) bs) ?_ ?_ ?_ ?_
         · rfl
         · rfl
         · rfl
         intro g w1 nn
         have hb := nn.below
         have H1 : Hid (Blk w1 g (bcl bn (.slice adb nb cpb) bs) 25) := nn.blk
         clear nn
         replace HBL : Hid (Below w.heap.size w w1) := HBL.out.trans (hb.mono HBL.out.size)
         clear hb)
      | (clear tk1; with_reducible refine wpSeq_boxW 29 (.tmp 2) (reqV qk qn (.slice adq nq cpq) au) ?_ ?_ ?_ ?_
         · rfl
         · rfl
         · rfl
         intro h w2 nn
         have hb := nn.below
         have H2 : Hid (Blk w2 h (reqV qk qn (.slice adq nq cpq) au) 29) := nn.blk
         clear nn
         replace H1 : Hid (Blk w2 g (bcl bn (.slice adb nb cpb) bs) 25) := H1.out.below hb H1.out.lt
         replace HBL : Hid (Below w.heap.size w w2) := HBL.out.trans (hb.mono HBL.out.size)
         clear hb
         have b0 : w2.cell? ⟨g, 0, none⟩ = some (.string (strB bn)) := H1.out.cell 0
         have b1 : w2.cell? ⟨g, 1, none⟩ = some (.slice adb nb cpb) := H1.out.cell 1
         have b2 : w2.cell? ⟨g, 2, none⟩ = some (.int .u64 (bs : Int)) := H1.out.cell 2
         have q0 : w2.cell? ⟨h, 0, none⟩ = some (.int .i64 qk) := H2.out.cell 0
         have q1 : w2.cell? ⟨h, 1, none⟩ = some (.string (strB qn)) := H2.out.cell 1
         have q2 : w2.cell? ⟨h, 2, none⟩ = some (.slice adq nq cpq) := H2.out.cell 2)
      | (clear tk2; go_at_call 8; refine (few19_any (.slice adb nb cpb) _ _ (HB.out.below HBL.out)).mono ?_; rintro e wq2 ⟨rfl, hq⟩
         obtain rfl := hq.symm
         rw [HF1.out])
      | (clear tk3; go_at_call 9; refine (works19_any _ (HKO.out.below HBL.out HKO.out.lt)).mono ?_; rintro e wz ⟨rfl, hz⟩
         have HBZ : Hid (Below w.heap.size w wz) := HBL.out.trans (hz.mono HBL.out.size)
         clear hz))
    go_ret
    exact ⟨rfl, HBZ.out⟩
  case pos =>
  by_cases h2 : qy.length ≤ 2000
  case neg =>
    have HF1 : Hid (decide (bk.length ≤ 2000) = true) := decide_eq_true h1
    have HF2 : Hid (decide (qy.length ≤ 2000) = false) := decide_eq_false h2
    clear h1 h2 ha hbs
    go_enter Tryd.func7, Tryd.ntmps7
    have tk0 : Hid True := trivial
    have tk1 : Hid True := trivial
    have tk2 : Hid True := trivial
    have tk3 : Hid True := trivial
    have tk4 : Hid True := trivial
    go_wp2_with (first
      | (clear tk0; with_reducible refine wpSeq_boxW 25 (.tmp 0) (bcl bn (.slice adb nb cpb) bs) ?_ ?_ ?_ ?_
         · rfl
         · rfl
         · rfl
         intro g w1 nn
         have hb := nn.below
         have H1 : Hid (Blk w1 g (bcl bn (.slice adb nb cpb) bs) 25) := nn.blk
         clear nn
         replace HBL : Hid (Below w.heap.size w w1) := HBL.out.trans (hb.mono HBL.out.size)
         clear hb)
      | (clear tk1; with_reducible refine wpSeq_boxW 29 (.tmp 2) (reqV qk qn (.slice adq nq cpq) au) ?_ ?_ ?_ ?_
         · rfl
         · rfl
         · rfl
         intro h w2 nn
         have hb := nn.below
         have H2 : Hid (Blk w2 h (reqV qk qn (.slice adq nq cpq) au) 29) := nn.blk
         clear nn
         replace H1 : Hid (Blk w2 g (bcl bn (.slice adb nb cpb) bs) 25) := H1.out.below hb H1.out.lt
         replace HBL : Hid (Below w.heap.size w w2) := HBL.out.trans (hb.mono HBL.out.size)
         clear hb
         have b0 : w2.cell? ⟨g, 0, none⟩ = some (.string (strB bn)) := H1.out.cell 0
         have b1 : w2.cell? ⟨g, 1, none⟩ = some (.slice adb nb cpb) := H1.out.cell 1
         have b2 : w2.cell? ⟨g, 2, none⟩ = some (.int .u64 (bs : Int)) := H1.out.cell 2
         have q0 : w2.cell? ⟨h, 0, none⟩ = some (.int .i64 qk) := H2.out.cell 0
         have q1 : w2.cell? ⟨h, 1, none⟩ = some (.string (strB qn)) := H2.out.cell 1
         have q2 : w2.cell? ⟨h, 2, none⟩ = some (.slice adq nq cpq) := H2.out.cell 2)
      | (clear tk2; go_at_call 8; refine (few19_any (.slice adb nb cpb) _ _ (HB.out.below HBL.out)).mono ?_; rintro e wq2 ⟨rfl, hq⟩
         obtain rfl := hq.symm
         rw [HF1.out])
      | (clear tk3; go_at_call 8; refine (few19_any (.slice adq nq cpq) _ _ (HK.out.below HBL.out)).mono ?_; rintro e wq3 ⟨rfl, hq⟩
         obtain rfl := hq.symm
         rw [HF2.out])
      | (clear tk4; go_at_call 9; refine (works19_any _ (HKO.out.below HBL.out HKO.out.lt)).mono ?_; rintro e wz ⟨rfl, hz⟩
         have HBZ : Hid (Below w.heap.size w wz) := HBL.out.trans (hz.mono HBL.out.size)
         clear hz))
    go_ret
    exact ⟨rfl, HBZ.out⟩
  case pos =>
    have HF1 : Hid (decide (bk.length ≤ 2000) = true) := decide_eq_true h1
    have HF2 : Hid (decide (qy.length ≤ 2000) = true) := decide_eq_true h2
    obtain ⟨er, sn, HNX⟩ : ∃ er sn, Hid (nxE bn bk bs th qk qn qy au = (er, sn)) := ⟨_, _, rfl⟩
    obtain ⟨xn, HXN⟩ : ∃ x, Hid (x = if er = 0 then qn else []) := ⟨_, rfl⟩
    obtain ⟨xk, HXK⟩ : ∃ x, Hid (x = if er = 0 then qy else []) := ⟨_, rfl⟩
    have HC1 : Hid (∀ W, Below w.heap.size w W → NxC 10 W (.agg (bcl bn (.slice adb nb cpb) bs).toArray) (.bool th) (.agg (reqV qk qn (.slice adq nq cpq) au).toArray) xn xk sn er) := fun W hW => by
      rw [HXN.out, HXK.out]
      exact nxC_of HNX.out (polNext_any bn bk _ bs th qk qn qy au _ W (HKO.out.below hW HKO.out.lt) (HB.out.below hW) (HK.out.below hW) ha hbs (Nat.le_trans h1 (by decide)))
    have hqs : ((strB qn).toList == (strB qn).toList) = true := beq_self_eq_true _
    have hqy : ((strB qy).toList == (strB qy).toList) = true := beq_self_eq_true _
    clear h1 h2 ha
    by_cases he : er = 0
    case neg =>
      have e1 : (er != 0) = true := by simpa using he
      have hx1 : [] = xn := by rw [HXN.out, if_neg he]
      have hx2 : [] = xk := by rw [HXK.out, if_neg he]
      have hx3 : 0 = sn := (nxE_no HNX.out he).symm
      have HD : Hid (decide (xn = [] ∧ sn = 0 ∧ xk = []) = true) := decide_eq_true ⟨hx1.symm, hx3.symm, hx2.symm⟩
      clear he hx1 hx2 hx3 hbs HXN HXK HNX
      go_enter Tryd.func7, Tryd.ntmps7
      have tk0 : Hid True := trivial
      have tk1 : Hid True := trivial
      have tk2 : Hid True := trivial
      have tk3 : Hid True := trivial
      have tk4 : Hid True := trivial
      have tk5 : Hid True := trivial
      have tk6 : Hid True := trivial
      have tk7 : Hid True := trivial
      have tk8 : Hid True := trivial
      have tk9 : Hid True := trivial
      have tk10 : Hid True := trivial
      have tk11 : Hid True := trivial
      have tk12 : Hid True := trivial
      go_wp2_with (first
        | (clear tk0; with_reducible refine wpSeq_boxW 25 (.tmp 0) (bcl bn (.slice adb nb cpb) bs) ?_ ?_ ?_ ?_
           · rfl
           · rfl
           · rfl
           intro g w1 nn
           have hb := nn.below
           have H1 : Hid (Blk w1 g (bcl bn (.slice adb nb cpb) bs) 25) := nn.blk
           clear nn
           replace HBL : Hid (Below w.heap.size w w1) := HBL.out.trans (hb.mono HBL.out.size)
           clear hb)
        | (clear tk1; with_reducible refine wpSeq_boxW 29 (.tmp 2) (reqV qk qn (.slice adq nq cpq) au) ?_ ?_ ?_ ?_
           · rfl
           · rfl
           · rfl
           intro h w2 nn
           have hb := nn.below
           have H2 : Hid (Blk w2 h (reqV qk qn (.slice adq nq cpq) au) 29) := nn.blk
           clear nn
           replace H1 : Hid (Blk w2 g (bcl bn (.slice adb nb cpb) bs) 25) := H1.out.below hb H1.out.lt
           replace HBL : Hid (Below w.heap.size w w2) := HBL.out.trans (hb.mono HBL.out.size)
           clear hb
           have b0 : w2.cell? ⟨g, 0, none⟩ = some (.string (strB bn)) := H1.out.cell 0
           have b1 : w2.cell? ⟨g, 1, none⟩ = some (.slice adb nb cpb) := H1.out.cell 1
           have b2 : w2.cell? ⟨g, 2, none⟩ = some (.int .u64 (bs : Int)) := H1.out.cell 2
           have q0 : w2.cell? ⟨h, 0, none⟩ = some (.int .i64 qk) := H2.out.cell 0
           have q1 : w2.cell? ⟨h, 1, none⟩ = some (.string (strB qn)) := H2.out.cell 1
           have q2 : w2.cell? ⟨h, 2, none⟩ = some (.slice adq nq cpq) := H2.out.cell 2)
        | (clear tk2; go_at_call 8; refine (few19_any (.slice adb nb cpb) _ _ (HB.out.below HBL.out)).mono ?_; rintro e wq2 ⟨rfl, hq⟩
           obtain rfl := hq.symm
           rw [HF1.out])
        | (clear tk3; go_at_call 8; refine (few19_any (.slice adq nq cpq) _ _ (HK.out.below HBL.out)).mono ?_; rintro e wq3 ⟨rfl, hq⟩
           obtain rfl := hq.symm
           rw [HF2.out])
        | (clear tk4; with_reducible refine wpSeq_loadW 25 (.tmp 3) g 0 (bcl bn (.slice adb nb cpb) bs) _ H1.out.range Tryd.underlying25 rfl info_bcl ?_ ?_ ?_ ?_
           · rfl
           · rfl
           · rfl)
        | (clear tk5; with_reducible refine wpSeq_loadW 29 (.tmp 5) h 0 (reqV qk qn (.slice adq nq cpq) au) _ H2.out.range Tryd.underlying29 rfl (info_reqV HA.out) ?_ ?_ ?_ ?_
           · rfl
           · rfl
           · rfl)
        | (clear tk6; go_at_call 10; refine (HC1.out _ HBL.out).mono ?_; rintro e w3 ⟨a3, n3, c3, rfl, hr, hb⟩
           have HR3 : Hid (Reads w3 (.slice a3 n3 c3) xk) := hr
           clear hr
           clear b0 b1 b2 q0 q1 q2
           replace H1 : Hid (Blk w3 g (bcl bn (.slice adb nb cpb) bs) 25) := H1.out.below hb H1.out.lt
           replace H2 : Hid (Blk w3 h (reqV qk qn (.slice adq nq cpq) au) 29) := H2.out.below hb H2.out.lt
           replace HBL : Hid (Below w.heap.size w w3) := HBL.out.trans (hb.mono HBL.out.size)
           clear hb)
        | (clear tk7; with_reducible refine wpSeq_allocB ?_ ?_ ?_
           · rfl
           · rfl
           intro g7 w4 nn
           have HNN : Hid (NewR (bcl [] (.slice none 0 0) 0) 25 w3 g7 w4) := nn
           clear nn)
        | (clear tk8; with_reducible refine wpSeq_storeRow 25 (.tmp 7) (.tmp 25) g7 (bcl [] (.slice none 0 0) 0) (bcl xn (.slice a3 n3 c3) sn) HNN.out.blk len_bcl info_bcl bcl_one ?_ ?_ ?_ ?_ ?_
           · rfl
           · rfl
           · rfl
           · rfl
           intro w5 sr
           have hb : Below w3.heap.size w3 w5 := HNN.out.below.trans (sr.only.below HNN.out.ge HNN.out.below.size)
           have H7 : Hid (Blk w5 g7 (bcl xn (.slice a3 n3 c3) sn) 25) := sr.blk
           replace HR3 : Hid (Reads w5 (.slice a3 n3 c3) xk) := HR3.out.below hb
           clear sr HNN
           replace H1 : Hid (Blk w5 g (bcl bn (.slice adb nb cpb) bs) 25) := H1.out.below hb H1.out.lt
           replace H2 : Hid (Blk w5 h (reqV qk qn (.slice adq nq cpq) au) 29) := H2.out.below hb H2.out.lt
           replace HBL : Hid (Below w.heap.size w w5) := HBL.out.trans (hb.mono HBL.out.size)
           clear hb)
        | (clear tk9; with_reducible refine wpSeq_loadW 25 (.tmp 7) g7 0 (bcl xn (.slice a3 n3 c3) sn) _ H7.out.range Tryd.underlying25 rfl info_bcl ?_ ?_ ?_ ?_
           · rfl
           · rfl
           · rfl)
        | (clear tk10; with_reducible refine wpSeq_build 25 [] (bcl [] (.slice none 0 0) 0) (by kernel_rfl) ?_ ?_ ?_
           · rfl
           · rfl)
        | (clear tk11; go_at_call 12; refine (sameBinding_any xn [] xk [] (.slice a3 n3 c3) (.slice none 0 0) sn 0 _ HR3.out ⟨none, 0, rfl, Nat.le_refl _, fun _ => rfl, fun h => by cases h⟩).mono ?_; rintro e w6 ⟨rfl, hb⟩
           rw [HD.out]
           clear HR3
           replace H1 : Hid (Blk w6 g (bcl bn (.slice adb nb cpb) bs) 25) := H1.out.below hb H1.out.lt
           replace H2 : Hid (Blk w6 h (reqV qk qn (.slice adq nq cpq) au) 29) := H2.out.below hb H2.out.lt
           replace H7 : Hid (Blk w6 g7 (bcl xn (.slice a3 n3 c3) sn) 25) := H7.out.below hb H7.out.lt
           replace HBL : Hid (Below w.heap.size w w6) := HBL.out.trans (hb.mono HBL.out.size)
           clear hb)
        | (clear tk12; go_at_call 9; refine (works19_any _ (HKO.out.below HBL.out HKO.out.lt)).mono ?_; rintro e wz ⟨rfl, hz⟩
           have HBZ : Hid (Below w.heap.size w wz) := HBL.out.trans (hz.mono HBL.out.size)
           clear hz))
      go_ret
      exact ⟨rfl, HBZ.out⟩
    case pos =>
      have hx1 : qn = xn := by rw [HXN.out, if_pos he]
      have hx2 : qy = xk := by rw [HXK.out, if_pos he]
      subst he
      have HOK := nxE_ok HNX.out
      have HCK : Hid (chk qn qy = 0) := HOK.1
      clear HXN HXK HNX
      subst hx1 hx2
      have hok := HOK.2
      clear HOK
      cases th with
      | true =>
        obtain ⟨k1, k2, k3, k4⟩ := hok.1 rfl
        have hw1 : IntKind.u64.wrap ((bs : Int) + 1) = (sn : Int) := by rw [IntKind.wrap_u64]; omega
        clear hok k3 k4 hbs
        subst k1 k2
        go_enter Tryd.func7, Tryd.ntmps7
        have tk0 : Hid True := trivial
        have tk1 : Hid True := trivial
        have tk2 : Hid True := trivial
        have tk3 : Hid True := trivial
        have tk4 : Hid True := trivial
        have tk5 : Hid True := trivial
        have tk6 : Hid True := trivial
        have tk7 : Hid True := trivial
        have tk8 : Hid True := trivial
        have tk9 : Hid True := trivial
        have tk10 : Hid True := trivial
        go_wp2_with (first
          | (clear tk0; with_reducible refine wpSeq_boxW 25 (.tmp 0) (bcl bn (.slice adb nb cpb) bs) ?_ ?_ ?_ ?_
             · rfl
             · rfl
             · rfl
             intro g w1 nn
             have hb := nn.below
             have H1 : Hid (Blk w1 g (bcl bn (.slice adb nb cpb) bs) 25) := nn.blk
             clear nn
             replace HBL : Hid (Below w.heap.size w w1) := HBL.out.trans (hb.mono HBL.out.size)
             clear hb)
          | (clear tk1; with_reducible refine wpSeq_boxW 29 (.tmp 2) (reqV 2 bn (.slice adq nq cpq) au) ?_ ?_ ?_ ?_
             · rfl
             · rfl
             · rfl
             intro h w2 nn
             have hb := nn.below
             have H2 : Hid (Blk w2 h (reqV 2 bn (.slice adq nq cpq) au) 29) := nn.blk
             clear nn
             replace H1 : Hid (Blk w2 g (bcl bn (.slice adb nb cpb) bs) 25) := H1.out.below hb H1.out.lt
             replace HBL : Hid (Below w.heap.size w w2) := HBL.out.trans (hb.mono HBL.out.size)
             clear hb
             have b0 : w2.cell? ⟨g, 0, none⟩ = some (.string (strB bn)) := H1.out.cell 0
             have b1 : w2.cell? ⟨g, 1, none⟩ = some (.slice adb nb cpb) := H1.out.cell 1
             have b2 : w2.cell? ⟨g, 2, none⟩ = some (.int .u64 (bs : Int)) := H1.out.cell 2
             have q0 : w2.cell? ⟨h, 0, none⟩ = some (.int .i64 2) := H2.out.cell 0
             have q1 : w2.cell? ⟨h, 1, none⟩ = some (.string (strB bn)) := H2.out.cell 1
             have q2 : w2.cell? ⟨h, 2, none⟩ = some (.slice adq nq cpq) := H2.out.cell 2)
          | (clear tk2; go_at_call 8; refine (few19_any (.slice adb nb cpb) _ _ (HB.out.below HBL.out)).mono ?_; rintro e wq2 ⟨rfl, hq⟩
             obtain rfl := hq.symm
             rw [HF1.out])
          | (clear tk3; go_at_call 8; refine (few19_any (.slice adq nq cpq) _ _ (HK.out.below HBL.out)).mono ?_; rintro e wq3 ⟨rfl, hq⟩
             obtain rfl := hq.symm
             rw [HF2.out])
          | (clear tk4; with_reducible refine wpSeq_loadW 25 (.tmp 3) g 0 (bcl bn (.slice adb nb cpb) bs) _ H1.out.range Tryd.underlying25 rfl info_bcl ?_ ?_ ?_ ?_
             · rfl
             · rfl
             · rfl)
          | (clear tk5; with_reducible refine wpSeq_loadW 29 (.tmp 5) h 0 (reqV 2 bn (.slice adq nq cpq) au) _ H2.out.range Tryd.underlying29 rfl (info_reqV HA.out) ?_ ?_ ?_ ?_
             · rfl
             · rfl
             · rfl)
          | (clear tk6; go_at_call 10; refine (HC1.out _ HBL.out).mono ?_; rintro e w3 ⟨a3, n3, c3, rfl, hr, hb⟩
             have HR3 : Hid (Reads w3 (.slice a3 n3 c3) qy) := hr
             clear hr
             clear b0 b1 b2 q0 q1 q2
             replace H1 : Hid (Blk w3 g (bcl bn (.slice adb nb cpb) bs) 25) := H1.out.below hb H1.out.lt
             replace H2 : Hid (Blk w3 h (reqV 2 bn (.slice adq nq cpq) au) 29) := H2.out.below hb H2.out.lt
             replace HBL : Hid (Below w.heap.size w w3) := HBL.out.trans (hb.mono HBL.out.size)
             clear hb)
          | (clear tk7; with_reducible refine wpSeq_allocB ?_ ?_ ?_
             · rfl
             · rfl
             intro g7 w4 nn
             have HNN : Hid (NewR (bcl [] (.slice none 0 0) 0) 25 w3 g7 w4) := nn
             clear nn)
          | (clear tk8; with_reducible refine wpSeq_storeRow 25 (.tmp 7) (.tmp 25) g7 (bcl [] (.slice none 0 0) 0) (bcl bn (.slice a3 n3 c3) sn) HNN.out.blk len_bcl info_bcl bcl_one ?_ ?_ ?_ ?_ ?_
             · rfl
             · rfl
             · rfl
             · rfl
             intro w5 sr
             have hb : Below w3.heap.size w3 w5 := HNN.out.below.trans (sr.only.below HNN.out.ge HNN.out.below.size)
             have H7 : Hid (Blk w5 g7 (bcl bn (.slice a3 n3 c3) sn) 25) := sr.blk
             replace HR3 : Hid (Reads w5 (.slice a3 n3 c3) qy) := HR3.out.below hb
             clear sr HNN
             replace H1 : Hid (Blk w5 g (bcl bn (.slice adb nb cpb) bs) 25) := H1.out.below hb H1.out.lt
             replace H2 : Hid (Blk w5 h (reqV 2 bn (.slice adq nq cpq) au) 29) := H2.out.below hb H2.out.lt
             replace HBL : Hid (Below w.heap.size w w5) := HBL.out.trans (hb.mono HBL.out.size)
             clear hb
             have b0 : w5.cell? ⟨g, 0, none⟩ = some (.string (strB bn)) := H1.out.cell 0
             have b2 : w5.cell? ⟨g, 2, none⟩ = some (.int .u64 (bs : Int)) := H1.out.cell 2
             have q0 : w5.cell? ⟨h, 0, none⟩ = some (.int .i64 2) := H2.out.cell 0
             have q1 : w5.cell? ⟨h, 1, none⟩ = some (.string (strB bn)) := H2.out.cell 1
             have q2 : w5.cell? ⟨h, 2, none⟩ = some (.slice adq nq cpq) := H2.out.cell 2
             have x0 : w5.cell? ⟨g7, 0, none⟩ = some (.string (strB bn)) := H7.out.cell 0
             have x1 : w5.cell? ⟨g7, 1, none⟩ = some (.slice a3 n3 c3) := H7.out.cell 1
             have x2 : w5.cell? ⟨g7, 2, none⟩ = some (.int .u64 (sn : Int)) := H7.out.cell 2
             have x3 : (convert 22 9 (.slice a3 n3 c3)).run Tryd.prog w5 = .ok (.string (strB qy)) w5 := conv_reads HR3.out
             have x4 : (convert 22 9 (.slice adq nq cpq)).run Tryd.prog w5 = .ok (.string (strB qy)) w5 := conv_reads (HK.out.below HBL.out))
          | (clear tk9; go_at_call 16; refine (rfcheck_any bn qy (.slice a3 n3 c3) _ HR3.out).mono ?_; rintro e wx5 ⟨rfl, qd, rfl⟩
             rw [HCK.out]
             clear b0 b2 q0 q1 q2 x0 x1 x2 x3 x4
             have hb : Below w5.heap.size w5 (w5.drewN qd) := ⟨rfl, rfl, rfl, Nat.le_refl _, fun _ _ => rfl⟩
             generalize w5.drewN qd = w6 at *
             replace HR3 : Hid (Reads w6 (.slice a3 n3 c3) qy) := HR3.out.below hb
             replace H1 : Hid (Blk w6 g (bcl bn (.slice adb nb cpb) bs) 25) := H1.out.below hb H1.out.lt
             replace H2 : Hid (Blk w6 h (reqV 2 bn (.slice adq nq cpq) au) 29) := H2.out.below hb H2.out.lt
             replace H7 : Hid (Blk w6 g7 (bcl bn (.slice a3 n3 c3) sn) 25) := H7.out.below hb H7.out.lt
             replace HBL : Hid (Below w.heap.size w w6) := HBL.out.trans (hb.mono HBL.out.size)
             clear hb
             have b0 : w6.cell? ⟨g, 0, none⟩ = some (.string (strB bn)) := H1.out.cell 0
             have b2 : w6.cell? ⟨g, 2, none⟩ = some (.int .u64 (bs : Int)) := H1.out.cell 2
             have q0 : w6.cell? ⟨h, 0, none⟩ = some (.int .i64 2) := H2.out.cell 0
             have q1 : w6.cell? ⟨h, 1, none⟩ = some (.string (strB bn)) := H2.out.cell 1
             have q2 : w6.cell? ⟨h, 2, none⟩ = some (.slice adq nq cpq) := H2.out.cell 2
             have x0 : w6.cell? ⟨g7, 0, none⟩ = some (.string (strB bn)) := H7.out.cell 0
             have x1 : w6.cell? ⟨g7, 1, none⟩ = some (.slice a3 n3 c3) := H7.out.cell 1
             have x2 : w6.cell? ⟨g7, 2, none⟩ = some (.int .u64 (sn : Int)) := H7.out.cell 2
             have x3 : (convert 22 9 (.slice a3 n3 c3)).run Tryd.prog w6 = .ok (.string (strB qy)) w6 := conv_reads HR3.out
             have x4 : (convert 22 9 (.slice adq nq cpq)).run Tryd.prog w6 = .ok (.string (strB qy)) w6 := conv_reads (HK.out.below HBL.out))
          | (clear tk10; go_at_call 9; refine (works19_any _ (HKO.out.below HBL.out HKO.out.lt)).mono ?_; rintro e wz ⟨rfl, hz⟩
             have HBZ : Hid (Below w.heap.size w wz) := HBL.out.trans (hz.mono HBL.out.size)
             clear hz))
        go_ret
        exact ⟨rfl, HBZ.out⟩
      | false =>
        obtain ⟨k1, k2⟩ := hok.2 rfl
        clear hok hbs
        subst k1 k2
        go_enter Tryd.func7, Tryd.ntmps7
        have tk0 : Hid True := trivial
        have tk1 : Hid True := trivial
        have tk2 : Hid True := trivial
        have tk3 : Hid True := trivial
        have tk4 : Hid True := trivial
        have tk5 : Hid True := trivial
        have tk6 : Hid True := trivial
        have tk7 : Hid True := trivial
        have tk8 : Hid True := trivial
        have tk9 : Hid True := trivial
        have tk10 : Hid True := trivial
        go_wp2_with (first
          | (clear tk0; with_reducible refine wpSeq_boxW 25 (.tmp 0) (bcl bn (.slice adb nb cpb) bs) ?_ ?_ ?_ ?_
             · rfl
             · rfl
             · rfl
             intro g w1 nn
             have hb := nn.below
             have H1 : Hid (Blk w1 g (bcl bn (.slice adb nb cpb) bs) 25) := nn.blk
             clear nn
             replace HBL : Hid (Below w.heap.size w w1) := HBL.out.trans (hb.mono HBL.out.size)
             clear hb)
          | (clear tk1; with_reducible refine wpSeq_boxW 29 (.tmp 2) (reqV 1 qn (.slice adq nq cpq) au) ?_ ?_ ?_ ?_
             · rfl
             · rfl
             · rfl
             intro h w2 nn
             have hb := nn.below
             have H2 : Hid (Blk w2 h (reqV 1 qn (.slice adq nq cpq) au) 29) := nn.blk
             clear nn
             replace H1 : Hid (Blk w2 g (bcl bn (.slice adb nb cpb) bs) 25) := H1.out.below hb H1.out.lt
             replace HBL : Hid (Below w.heap.size w w2) := HBL.out.trans (hb.mono HBL.out.size)
             clear hb
             have b0 : w2.cell? ⟨g, 0, none⟩ = some (.string (strB bn)) := H1.out.cell 0
             have b1 : w2.cell? ⟨g, 1, none⟩ = some (.slice adb nb cpb) := H1.out.cell 1
             have b2 : w2.cell? ⟨g, 2, none⟩ = some (.int .u64 (bs : Int)) := H1.out.cell 2
             have q0 : w2.cell? ⟨h, 0, none⟩ = some (.int .i64 1) := H2.out.cell 0
             have q1 : w2.cell? ⟨h, 1, none⟩ = some (.string (strB qn)) := H2.out.cell 1
             have q2 : w2.cell? ⟨h, 2, none⟩ = some (.slice adq nq cpq) := H2.out.cell 2)
          | (clear tk2; go_at_call 8; refine (few19_any (.slice adb nb cpb) _ _ (HB.out.below HBL.out)).mono ?_; rintro e wq2 ⟨rfl, hq⟩
             obtain rfl := hq.symm
             rw [HF1.out])
          | (clear tk3; go_at_call 8; refine (few19_any (.slice adq nq cpq) _ _ (HK.out.below HBL.out)).mono ?_; rintro e wq3 ⟨rfl, hq⟩
             obtain rfl := hq.symm
             rw [HF2.out])
          | (clear tk4; with_reducible refine wpSeq_loadW 25 (.tmp 3) g 0 (bcl bn (.slice adb nb cpb) bs) _ H1.out.range Tryd.underlying25 rfl info_bcl ?_ ?_ ?_ ?_
             · rfl
             · rfl
             · rfl)
          | (clear tk5; with_reducible refine wpSeq_loadW 29 (.tmp 5) h 0 (reqV 1 qn (.slice adq nq cpq) au) _ H2.out.range Tryd.underlying29 rfl (info_reqV HA.out) ?_ ?_ ?_ ?_
             · rfl
             · rfl
             · rfl)
          | (clear tk6; go_at_call 10; refine (HC1.out _ HBL.out).mono ?_; rintro e w3 ⟨a3, n3, c3, rfl, hr, hb⟩
             have HR3 : Hid (Reads w3 (.slice a3 n3 c3) qy) := hr
             clear hr
             clear b0 b1 b2 q0 q1 q2
             replace H1 : Hid (Blk w3 g (bcl bn (.slice adb nb cpb) bs) 25) := H1.out.below hb H1.out.lt
             replace H2 : Hid (Blk w3 h (reqV 1 qn (.slice adq nq cpq) au) 29) := H2.out.below hb H2.out.lt
             replace HBL : Hid (Below w.heap.size w w3) := HBL.out.trans (hb.mono HBL.out.size)
             clear hb)
          | (clear tk7; with_reducible refine wpSeq_allocB ?_ ?_ ?_
             · rfl
             · rfl
             intro g7 w4 nn
             have HNN : Hid (NewR (bcl [] (.slice none 0 0) 0) 25 w3 g7 w4) := nn
             clear nn)
          | (clear tk8; with_reducible refine wpSeq_storeRow 25 (.tmp 7) (.tmp 25) g7 (bcl [] (.slice none 0 0) 0) (bcl qn (.slice a3 n3 c3) 1) HNN.out.blk len_bcl info_bcl bcl_one ?_ ?_ ?_ ?_ ?_
             · rfl
             · rfl
             · rfl
             · rfl
             intro w5 sr
             have hb : Below w3.heap.size w3 w5 := HNN.out.below.trans (sr.only.below HNN.out.ge HNN.out.below.size)
             have H7 : Hid (Blk w5 g7 (bcl qn (.slice a3 n3 c3) 1) 25) := sr.blk
             replace HR3 : Hid (Reads w5 (.slice a3 n3 c3) qy) := HR3.out.below hb
             clear sr HNN
             replace H1 : Hid (Blk w5 g (bcl bn (.slice adb nb cpb) bs) 25) := H1.out.below hb H1.out.lt
             replace H2 : Hid (Blk w5 h (reqV 1 qn (.slice adq nq cpq) au) 29) := H2.out.below hb H2.out.lt
             replace HBL : Hid (Below w.heap.size w w5) := HBL.out.trans (hb.mono HBL.out.size)
             clear hb
             have b0 : w5.cell? ⟨g, 0, none⟩ = some (.string (strB bn)) := H1.out.cell 0
             have b2 : w5.cell? ⟨g, 2, none⟩ = some (.int .u64 (bs : Int)) := H1.out.cell 2
             have q0 : w5.cell? ⟨h, 0, none⟩ = some (.int .i64 1) := H2.out.cell 0
             have q1 : w5.cell? ⟨h, 1, none⟩ = some (.string (strB qn)) := H2.out.cell 1
             have q2 : w5.cell? ⟨h, 2, none⟩ = some (.slice adq nq cpq) := H2.out.cell 2
             have x0 : w5.cell? ⟨g7, 0, none⟩ = some (.string (strB qn)) := H7.out.cell 0
             have x1 : w5.cell? ⟨g7, 1, none⟩ = some (.slice a3 n3 c3) := H7.out.cell 1
             have x2 : w5.cell? ⟨g7, 2, none⟩ = some (.int .u64 ((1 : Nat) : Int)) := H7.out.cell 2
             have x3 : (convert 22 9 (.slice a3 n3 c3)).run Tryd.prog w5 = .ok (.string (strB qy)) w5 := conv_reads HR3.out
             have x4 : (convert 22 9 (.slice adq nq cpq)).run Tryd.prog w5 = .ok (.string (strB qy)) w5 := conv_reads (HK.out.below HBL.out))
          | (clear tk9; go_at_call 16; refine (rfcheck_any qn qy (.slice a3 n3 c3) _ HR3.out).mono ?_; rintro e wx5 ⟨rfl, qd, rfl⟩
             rw [HCK.out]
             clear b0 b2 q0 q1 q2 x0 x1 x2 x3 x4
             have hb : Below w5.heap.size w5 (w5.drewN qd) := ⟨rfl, rfl, rfl, Nat.le_refl _, fun _ _ => rfl⟩
             generalize w5.drewN qd = w6 at *
             replace HR3 : Hid (Reads w6 (.slice a3 n3 c3) qy) := HR3.out.below hb
             replace H1 : Hid (Blk w6 g (bcl bn (.slice adb nb cpb) bs) 25) := H1.out.below hb H1.out.lt
             replace H2 : Hid (Blk w6 h (reqV 1 qn (.slice adq nq cpq) au) 29) := H2.out.below hb H2.out.lt
             replace H7 : Hid (Blk w6 g7 (bcl qn (.slice a3 n3 c3) 1) 25) := H7.out.below hb H7.out.lt
             replace HBL : Hid (Below w.heap.size w w6) := HBL.out.trans (hb.mono HBL.out.size)
             clear hb
             have b0 : w6.cell? ⟨g, 0, none⟩ = some (.string (strB bn)) := H1.out.cell 0
             have b2 : w6.cell? ⟨g, 2, none⟩ = some (.int .u64 (bs : Int)) := H1.out.cell 2
             have q0 : w6.cell? ⟨h, 0, none⟩ = some (.int .i64 1) := H2.out.cell 0
             have q1 : w6.cell? ⟨h, 1, none⟩ = some (.string (strB qn)) := H2.out.cell 1
             have q2 : w6.cell? ⟨h, 2, none⟩ = some (.slice adq nq cpq) := H2.out.cell 2
             have x0 : w6.cell? ⟨g7, 0, none⟩ = some (.string (strB qn)) := H7.out.cell 0
             have x1 : w6.cell? ⟨g7, 1, none⟩ = some (.slice a3 n3 c3) := H7.out.cell 1
             have x2 : w6.cell? ⟨g7, 2, none⟩ = some (.int .u64 ((1 : Nat) : Int)) := H7.out.cell 2
             have x3 : (convert 22 9 (.slice a3 n3 c3)).run Tryd.prog w6 = .ok (.string (strB qy)) w6 := conv_reads HR3.out
             have x4 : (convert 22 9 (.slice adq nq cpq)).run Tryd.prog w6 = .ok (.string (strB qy)) w6 := conv_reads (HK.out.below HBL.out))
          | (clear tk10; go_at_call 9; refine (works19_any _ (HKO.out.below HBL.out HKO.out.lt)).mono ?_; rintro e wz ⟨rfl, hz⟩
             have HBZ : Hid (Below w.heap.size w wz) := HBL.out.trans (hz.mono HBL.out.size)
             clear hz))
        go_ret
        exact ⟨rfl, HBZ.out⟩
end Go.Proofs.YtmkjcgjbhibnpaaDoor

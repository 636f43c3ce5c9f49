/- Texts that the proof leans on, one behind the other: The statement ClashRoots, over clash's functions (layer 9). What the listed variable gives: the rounds' words lie where the walks look for them. What a slice of bytes that came in gives: the bytes that it reads as; and that it reads so still behind a call that changed no old block. .. -/
import Derived.Test.YtpeifpoeeopecaaDoorMge
import Derived.Test.YtpeifpoeeopecaaDoorRows
import Derived.Test.YtpeifpoeeopecaaDoorMga
import Derived.ProofKit
import Derived.LaidMore
import Derived.OpenShut
import Derived.Stop.Joined
import Derived.Lib.LaidTab
import Derived.Carry
import Derived.ChangeSlices
import Derived.Deep.Strs
import Derived.Lib.SmallJoins
import Derived.Deep.Slices
/- The statement ClashRoots, over clash's functions (layer 9). -/
namespace Go.Proofs.YtpeifpoeeopecaaDoor
open Go.RowKit
set_option maxRecDepth 100000
/-- where the statement stands -/
structure C11 (w : World) (g5 g6 g7 g8 g9 : Nat) (cr cs : List Value) (d0 d1 : List (BitVec 8)) (ca cc : List Value) (W : World) : Prop where
  rb : Blk W g5 cr 56
  sb : Blk W g6 cs 56
  xb : Blk W g7 (cb d0 ++ cb d1) 57
  ab : Blk W g8 ca 59
  bb : Blk W g9 cc 59
  bel : Below w.heap.size w W
  l0 : d0.length = 32
section
variable {w W W' : World} {g5 g6 g7 g8 g9 : Nat} {cr cs : List Value} {d0 d1 : List (BitVec 8)} {ca cc : List Value}
theorem C11.next (h : C11 w g5 g6 g7 g8 g9 cr cs d0 d1 ca cc W) (hb : Below W.heap.size W W') : C11 w g5 g6 g7 g8 g9 cr cs d0 d1 ca cc W' := ⟨h.rb.below hb h.rb.lt, h.sb.below hb h.sb.lt, h.xb.below hb h.xb.lt, h.ab.below hb h.ab.lt, h.bb.below hb h.bb.lt, h.bel.trans (hb.mono h.bel.size), h.l0⟩
theorem C11.x0 (h : C11 w g5 g6 g7 g8 g9 cr cs d0 d1 ca cc W) : W.rangeAt g7 0 (cb d0) := fun j v hv => by
  have hj := (List.getElem?_eq_some_iff.1 hv).1
  rw [Nat.zero_add, h.xb.cell, List.getElem?_append_left hj]
  exact hv
theorem C11.x1 (h : C11 w g5 g6 g7 g8 g9 cr cs d0 d1 ca cc W) : W.rangeAt g7 32 (cb d1) := fun j v hv => by
  rw [h.xb.cell, List.getElem?_append_right (by rw [cb_len, h.l0]; omega), cb_len, h.l0, show 32 + j - 32 = j by omega]
  exact hv
end
set_option maxRecDepth 100000 in
set_option maxHeartbeats 16000000 in
theorem clashRoots_law (hP : PfOps) (hC : ClOps) (n m : Nat) (x y z x' y' z' d0 d1 na ka nb kb : List (BitVec 8)) (va vb : Value) (sa sb : Nat) (hn : x.length = 32 ∧ y.length = 32 ∧ z.length = 32 ∧ n < 18446744073709551616) (hm : x'.length = 32 ∧ y'.length = 32 ∧ z'.length = 32 ∧ m < 18446744073709551616) (h0 : d0.length = 32) (h1 : d1.length = 32) (hsa : sa < 18446744073709551616) (hsb : sb < 18446744073709551616) (hna : na.length ≤ 140737488355328) (hnb : nb.length ≤ 140737488355328) (hka : ka.length ≤ 140737488355328) (hkb : kb.length ≤ 140737488355328) (w : World) (hK : KOk w) (ha : Reads w va ka) (hb : Reads w vb kb) :
    Calls Tryd.prog 7 #[.agg (rootC n x y z).toArray, .agg (rootC m x' y' z').toArray, .agg (cb d0 ++ cb d1).toArray, .agg (bindC na va sa).toArray, .agg (bindC nb vb sb).toArray] w fun e w' => e = .returned (.bool true) ∧ Below w.heap.size w w' := by
  have HPO : Hid PfOps := hP
  have HCO : Hid ClOps := hC
  have HK0 : Hid (KOk w) := hK
  have HD0 : Hid (d0.length = 32) := h0
  have HD1 : Hid (d1.length = 32) := h1
  have HRA : Hid (Reads w va ka) := ha
  have HRB : Hid (Reads w vb kb) := hb
  have HNN : Hid (x.length = 32 ∧ y.length = 32 ∧ z.length = 32 ∧ n < 18446744073709551616) := hn
  have HMM : Hid (x'.length = 32 ∧ y'.length = 32 ∧ z'.length = 32 ∧ m < 18446744073709551616) := hm
  obtain ⟨aa, ca0, hva, _⟩ := id ha
  obtain ⟨lka, HKA⟩ : ∃ q, Hid (q = ka.length) := ⟨_, rfl⟩
  rw [← HKA.out] at hva hka
  subst hva
  obtain ⟨ab, cb0, hvb, _⟩ := id hb
  obtain ⟨lkb, HKB⟩ : ∃ q, Hid (q = kb.length) := ⟨_, rfl⟩
  rw [← HKB.out] at hvb hkb
  subst hvb
  obtain ⟨cr, HCR⟩ : ∃ c, Hid (c = rootC n x y z) := ⟨_, rfl⟩
  obtain ⟨cs, HCS⟩ : ∃ c, Hid (c = rootC m x' y' z') := ⟨_, rfl⟩
  obtain ⟨ca, HCA⟩ : ∃ c, Hid (c = bindC na (.slice aa lka ca0) sa) := ⟨_, rfl⟩
  obtain ⟨cc, HCC⟩ : ∃ c, Hid (c = bindC nb (.slice ab lkb cb0) sb) := ⟨_, rfl⟩
  have HIR : Hid ((Tryd.prog.info? 56).map (·.size) = some cr.length) := by rw [HCR.out]; exact info_root _ x y z ⟨hn.1, hn.2.1, hn.2.2.1⟩
  have HIS : Hid ((Tryd.prog.info? 56).map (·.size) = some cs.length) := by rw [HCS.out]; exact info_root _ x' y' z' ⟨hm.1, hm.2.1, hm.2.2.1⟩
  have HIA : Hid ((Tryd.prog.info? 59).map (·.size) = some ca.length) := by rw [HCA.out]; exact info_binding
  have HIC : Hid ((Tryd.prog.info? 59).map (·.size) = some cc.length) := by rw [HCC.out]; exact info_binding
  obtain ⟨R, HR⟩ : ∃ q, Hid (q = rootB n x y z) := ⟨_, rfl⟩
  obtain ⟨S, HS⟩ : ∃ q, Hid (q = rootB m x' y' z') := ⟨_, rfl⟩
  obtain ⟨VA, HVA⟩ : ∃ q, Hid (q = valueB d0 na sa ka) := ⟨_, rfl⟩
  obtain ⟨VB, HVB⟩ : ∃ q, Hid (q = valueB d1 nb sb kb) := ⟨_, rfl⟩
  have HLR : Hid (R.length = 105 ∧ S.length = 105) := by show _ ∧ _; rw [HR.out, HS.out]; exact ⟨len_rootB n x y z ⟨hn.1, hn.2.1, hn.2.2.1⟩, len_rootB m x' y' z' ⟨hm.1, hm.2.1, hm.2.2.1⟩⟩
  obtain ⟨er, HER⟩ : ∃ q, Hid (q = decide (R = S)) := ⟨_, rfl⟩
  have heq : ∀ wx : World, (Op.equalIn 10000 56 (.agg cr.toArray) (.agg cs.toArray)).run Tryd.prog wx = .ok er wx := fun wx => by
    rw [HCR.out, HCS.out, HER.out]
    have h := eq_root n m x y z x' y' z' hn.1 hn.2.1 hn.2.2.1 hm.1 hm.2.1 hm.2.2.1 wx
    have h2 : decide (R = S) = decide (n = m ∧ x = x' ∧ y = y' ∧ z = z') := by rw [HR.out, HS.out]; exact decide_eq_decide.2 (rootB_iff hn hm)
    rw [h2]
    exact h
  obtain ⟨dr, HDR⟩ : ∃ q, Hid (q = dig R) := ⟨_, rfl⟩
  obtain ⟨ds, HDS⟩ : ∃ q, Hid (q = dig S) := ⟨_, rfl⟩
  have hed : ∀ wx : World, (Op.equalIn 10000 33 (.agg (cb dr).toArray) (.agg (cb ds).toArray)).run Tryd.prog wx = .ok (decide (dr = ds)) wx := fun wx => eq_dig dr ds (by rw [HDR.out]; exact len_dig' _) (by rw [HDS.out]; exact len_dig' _) wx
  obtain ⟨dva, HDVA⟩ : ∃ q, Hid (q = dig VA) := ⟨_, rfl⟩
  obtain ⟨dvb, HDVB⟩ : ∃ q, Hid (q = dig VB) := ⟨_, rfl⟩
  have hev : ∀ wx : World, (Op.equalIn 10000 33 (.agg (cb dva).toArray) (.agg (cb dvb).toArray)).run Tryd.prog wx = .ok (decide (dva = dvb)) wx := fun wx => eq_dig dva dvb (by rw [HDVA.out]; exact len_dig' _) (by rw [HDVB.out]; exact len_dig' _) wx
  have HC1 : Hid (∀ W, Calls Tryd.prog 24 #[.agg cr.toArray] W fun e w' => e = .returned (.agg (cb dr).toArray) ∧ Below W.heap.size W w') := fun W => by rw [HCR.out, HDR.out, HR.out]; exact hRoot_any n x y z W hn
  have HC2 : Hid (∀ W, Calls Tryd.prog 24 #[.agg cs.toArray] W fun e w' => e = .returned (.agg (cb ds).toArray) ∧ Below W.heap.size W w') := fun W => by rw [HCS.out, HDS.out, HS.out]; exact hRoot_any m x' y' z' W hm
  have HC3 : Hid (∀ W, Below w.heap.size w W → Calls Tryd.prog 23 #[.agg cr.toArray, .agg cs.toArray] W fun e w' => ∃ v u o s t, e = .returned (.tuple #[v, u, .bool o]) ∧ Reads w' v s ∧ Reads w' u t ∧ (s.length < 140737488355000 ∧ t.length < 140737488355000) ∧ right9 s t o (pairB9 R S) = true ∧ Below W.heap.size W w') := fun W hh => by
    rw [HCR.out, HCS.out]
    refine (hC.roots W n m x y z x' y' z' (hK.below hh hK.lt) hn hm).mono fun e w' h => ?_
    obtain ⟨v, u, o, g1, g2, g3⟩ := h
    rw [← HR.out, ← HS.out] at g2
    obtain ⟨s, t, g4, g5, g6⟩ := g2.both
    exact ⟨v, u, o, s, t, g1, g4, g5, pair_len (by have := HLR.out; omega) (by have := HLR.out; omega) g6, right9_pair g6, g3⟩
  have HWK : Hid (∀ W, Below w.heap.size w W → Calls Tryd.prog 13 #[] W fun e w' => e = .returned (.bool true) ∧ Below W.heap.size W w') := fun W hh => works9_any HPO.out HCO.out W (HK0.out.below hh HK0.out.lt)
  obtain ⟨la, HLA⟩ : ∃ q, Hid (q = na.length) := ⟨_, rfl⟩
  obtain ⟨lb, HLB⟩ : ∃ q, Hid (q = nb.length) := ⟨_, rfl⟩
  rw [← HLA.out] at hna
  rw [← HLB.out] at hnb
  obtain ⟨tA, HTA⟩ : ∃ q, Hid (q = strB na) := ⟨_, rfl⟩
  obtain ⟨tB, HTB⟩ : ∃ q, Hid (q = strB nb) := ⟨_, rfl⟩
  have hz1 : tA.size = la := by rw [HTA.out, HLA.out]; exact strB_size na
  have hz2 : tB.size = lb := by rw [HTB.out, HLB.out]; exact strB_size nb
  obtain ⟨s1, HS1⟩ : ∃ q, Hid (q = la + lb) := ⟨_, rfl⟩
  obtain ⟨s2, HS2⟩ : ∃ q, Hid (q = s1 + lka) := ⟨_, rfl⟩
  obtain ⟨s3, HS3⟩ : ∃ q, Hid (q = s2 + lkb) := ⟨_, rfl⟩
  have f1 : IntKind.i64.wrap ((la : Int) + (lb : Int)) = (s1 : Int) := by rw [IntKind.wrap_i64]; have h := HS1.out; omega
  have f2 : IntKind.i64.wrap ((s1 : Int) + (lka : Int)) = (s2 : Int) := by rw [IntKind.wrap_i64]; have h := HS1.out; have h' := HS2.out; omega
  have f3 : IntKind.i64.wrap ((s2 : Int) + (lkb : Int)) = (s3 : Int) := by rw [IntKind.wrap_i64]; have h := HS1.out; have h' := HS2.out; have h'' := HS3.out; omega
  have HSA : Hid (sa < 18446744073709551616 ∧ sb < 18446744073709551616) := ⟨hsa, hsb⟩
  rw [← HCR.out, ← HCS.out, ← HCA.out, ← HCC.out]
  clear hn hm h0 h1 hsa hsb hna hnb hka hkb hK ha hb hP hC
  go_enter Tryd.func7, Tryd.ntmps7
  go_upto_region 1 with (first
    | (with_reducible refine wpSeq_boxR 56 (.tmp 0) cr ?_ ?_ ?_ ?_
       · rfl
       · rfl
       · rfl
       intro g5 u5 hb5 hl5)
    | (with_reducible refine wpSeq_boxR 56 (.tmp 1) cs ?_ ?_ ?_ ?_
       · rfl
       · rfl
       · rfl
       intro g6 u6 hb6 hl6)
    | (with_reducible refine wpSeq_boxR 57 (.tmp 2) (cb d0 ++ cb d1) ?_ ?_ ?_ ?_
       · rfl
       · rfl
       · rfl
       intro g7 u7 hb7 hl7)
    | (with_reducible refine wpSeq_boxR 59 (.tmp 3) ca ?_ ?_ ?_ ?_
       · rfl
       · rfl
       · rfl
       intro g8 u8 hb8 hl8)
    | (with_reducible refine wpSeq_boxR 59 (.tmp 4) cc ?_ ?_ ?_ ?_
       · rfl
       · rfl
       · rfl
       intro g9 u9 hb9 hl9
       have HI : Hid (C11 w g5 g6 g7 g8 g9 cr cs d0 d1 ca cc u9) := by
         have e6 := hl5.trans (hl6.mono hl5.size)
         have e7 := e6.trans (hl7.mono e6.size)
         have e8 := e7.trans (hl8.mono e7.size)
         have r6 := hb5.below hl6 hb5.lt
         have r7 := r6.below hl7 r6.lt
         have r8 := r7.below hl8 r7.lt
         have q7 := hb6.below hl7 hb6.lt
         have q8 := q7.below hl8 q7.lt
         have p8 := hb7.below hl8 hb7.lt
         exact ⟨r8.below hl9 r8.lt, q8.below hl9 q8.lt, p8.below hl9 p8.lt, hb8.below hl9 hb8.lt, hb9, e8.trans (hl9.mono e8.size), HD0.out⟩
       clear hb5 hb6 hb7 hb8 hb9 hl5 hl6 hl7 hl8 hl9))
  have c80 : u9.cell? ⟨g8, 0, none⟩ = some (.string tA) := by have h := HI.out.ab.cell 0; rw [HCA.out, bindC, ← HTA.out] at h; exact h
  have c81 : u9.cell? ⟨g8, 1, none⟩ = some (.slice aa lka ca0) := by have h := HI.out.ab.cell 1; rw [HCA.out, bindC] at h; exact h
  have c90 : u9.cell? ⟨g9, 0, none⟩ = some (.string tB) := by have h := HI.out.bb.cell 0; rw [HCC.out, bindC, ← HTB.out] at h; exact h
  have c91 : u9.cell? ⟨g9, 1, none⟩ = some (.slice ab lkb cb0) := by have h := HI.out.bb.cell 1; rw [HCC.out, bindC] at h; exact h
  by_cases h4 : 4000 < s3
  · have h4i : (4000 : Int) < (s3 : Int) := by omega
    clear h4
    go_wp2_with (first
      | (go_at_call 13; refine (HWK.out _ HI.out.bel).mono ?_; rintro e wz ⟨rfl, hbz⟩
         replace HI : Hid (C11 w g5 g6 g7 g8 g9 cr cs d0 d1 ca cc wz) := HI.out.next hbz
         clear hbz))
    go_ret
    exact ⟨rfl, HI.out.bel⟩
  · have h4i : ¬ ((4000 : Int) < (s3 : Int)) := by omega
    have HB4 : Hid (na.length ≤ 4000 ∧ nb.length ≤ 4000 ∧ ka.length ≤ 4000 ∧ kb.length ≤ 4000) := by
      show _ ∧ _
      have q1 := HS1.out
      have q2 := HS2.out
      have q3 := HS3.out
      have q4 := HLA.out
      have q5 := HLB.out
      have q6 := HKA.out
      have q7 := HKB.out
      omega
    clear h4
    have HC6 : Hid (∀ W, Below w.heap.size w W → Calls Tryd.prog 25 #[.agg (cb d0).toArray, .agg ca.toArray, .agg (cb d1).toArray, .agg cc.toArray] W fun e w' => ∃ v u o s t, e = .returned (.tuple #[v, u, .bool o]) ∧ Reads w' v s ∧ Reads w' u t ∧ (s.length < 140737488355000 ∧ t.length < 140737488355000) ∧ right9 s t o (pairB9 VA VB) = true ∧ Below W.heap.size W w') := fun W hh => by
      have q := HB4.out
      have lv : VA.length < 140737488355000 ∧ VB.length < 140737488355000 := by rw [HVA.out, HVB.out, len_valueB _ _ _ _ HD0.out, len_valueB _ _ _ _ HD1.out]; omega
      rw [HCA.out, HCC.out]
      refine (HCO.out.values W d0 d1 na nb ka kb _ _ sa sb (HK0.out.below hh HK0.out.lt) HD0.out HD1.out (HRA.out.below hh) (HRB.out.below hh) ⟨q.1, q.2.2.1, HSA.out.1⟩ ⟨q.2.1, q.2.2.2, HSA.out.2⟩).mono fun e w' h => ?_
      obtain ⟨v, u, o, g1, g2, g3⟩ := h
      rw [← HVA.out, ← HVB.out] at g2
      obtain ⟨s, t, g4, g5, g6⟩ := g2.both
      exact ⟨v, u, o, s, t, g1, g4, g5, pair_len lv.1 lv.2 g6, right9_pair g6, g3⟩
    have HC8 : Hid (∀ W, Below w.heap.size w W → Calls Tryd.prog 27 #[.agg (cb d0).toArray, .agg ca.toArray] W fun e w' => e = .returned (.agg (cb dva).toArray) ∧ Below W.heap.size W w') := fun W hh => by rw [HCA.out, HDVA.out, HVA.out]; exact hValue_any d0 na ka _ sa W HD0.out (HRA.out.below hh) ⟨HB4.out.1, HB4.out.2.2.1, HSA.out.1⟩
    have HC9 : Hid (∀ W, Below w.heap.size w W → Calls Tryd.prog 27 #[.agg (cb d1).toArray, .agg cc.toArray] W fun e w' => e = .returned (.agg (cb dvb).toArray) ∧ Below W.heap.size W w') := fun W hh => by rw [HCC.out, HDVB.out, HVB.out]; exact hValue_any d1 nb kb _ sb W HD1.out (HRB.out.below hh) ⟨HB4.out.2.1, HB4.out.2.2.2, HSA.out.2⟩
    go_upto_region 3 with fail
    clear c80 c81 c90 c91 f1 f2 f3 h4i hz1 hz2
    go_upto_region 4 with (first
      | (with_reducible refine wpSeq_loadRow 56 (.tmp 5) g5 cr _ ?_ Tryd.underlying56 rfl ?_ ?_ ?_ ?_ ?_
         · exact HI.out.rb
         · exact HIR.out
         · rfl
         · rfl
         · rfl)
      | (with_reducible refine wpSeq_loadRow 56 (.tmp 6) g6 cs _ ?_ Tryd.underlying56 rfl ?_ ?_ ?_ ?_ ?_
         · exact HI.out.sb
         · exact HIS.out
         · rfl
         · rfl
         · rfl)
      | (go_at_call 23; refine (HC3.out _ HI.out.bel).mono ?_; rintro e v1 ⟨vx, vy, o, s, t, rfl, hs, ht, hsl, hrr, hbz⟩
         replace HI : Hid (C11 w g5 g6 g7 g8 g9 cr cs d0 d1 ca cc v1) := HI.out.next hbz
         obtain ⟨ax, nx, cx, hvx⟩ := hs.form
         subst hvx
         obtain ⟨ay, ny, cy, hvy⟩ := ht.form
         subst hvy
         have HRS : Hid (Reads v1 (.slice ax nx cx) s) := hs
         have HRT : Hid (Reads v1 (.slice ay ny cy) t) := ht
         have HSL : Hid (s.length < 140737488355000 ∧ t.length < 140737488355000) := hsl
         have HR0 : Hid (right9 s t o (pairB9 R S) = true) := hrr
         clear hbz hs ht hsl hrr))
    cases er with
    | true =>
      have HRR : Hid (right9 s t o false = true) := by
        have h := HR0.out
        rw [show pairB9 R S = false from by
          unfold pairB9
          rw [decide_not, ← HER.out]
          simp] at h
        exact h
      clear HR0
      have HY : Hid (C11 w g5 g6 g7 g8 g9 cr cs d0 d1 ca cc (World.drew v1)) := HI.out.next (Below.refl _ _).drew
      clear HI
      refine wp_region_held_drew (S := Over (World.drew v1)) (by kernel_rfl) (Over.refl _) ?_
      intro hS
      change wpAnyH _ _ _ _ _ _ _ _ (World.drew v1)
      have HC5 : Hid (∀ W', Over (World.drew v1) W' → Calls Tryd.prog 10 #[.slice ax nx cx, .slice ay ny cy, .bool o, .bool false] W' fun e w' => e = .returned (.bool true) ∧ Below W'.heap.size W' w') := fun W' hh => by
        have h := right9_any _ _ s t o false W' (HRS.out.below ((Below.refl _ _).drew.trans hh)) (HRT.out.below ((Below.refl _ _).drew.trans hh)) HSL.out.1 HSL.out.2
        rw [HRR.out] at h
        exact h
      clear HRS HRT HRR HSL
      generalize World.drew v1 = y0 at *
      refine wpAnyH_take (i := 0) (v := .slice ax nx cx) rfl (by kernel_rfl) (by kernel_rfl) (by kernel_rfl) (fun _ _ _ h => h) (Or.inl ⟨by rfl, fun wx hx => by simp [go_sem]⟩) hS ?_
      simp only [Act.put, List.getElem_toArray, List.getElem_cons_zero, List.setIfInBounds_toArray, List.set_cons_zero, List.set_cons_succ]
      refine wpAnyH_take (i := 1) (v := .slice ay ny cy) rfl (by kernel_rfl) (by kernel_rfl) (by kernel_rfl) (fun _ _ _ h => h) (Or.inl ⟨by rfl, fun wx hx => by simp [go_sem]⟩) hS ?_
      simp only [Act.put, List.getElem_toArray, List.getElem_cons_succ, List.getElem_cons_zero, List.setIfInBounds_toArray, List.set_cons_zero, List.set_cons_succ]
      refine wpAnyH_take (i := 2) (v := .bool o) rfl (by kernel_rfl) (by kernel_rfl) (by kernel_rfl) (fun _ _ _ h => h) (Or.inl ⟨by rfl, fun wx hx => by simp [go_sem]⟩) hS ?_
      simp only [Act.put, List.getElem_toArray, List.getElem_cons_succ, List.getElem_cons_zero, List.setIfInBounds_toArray, List.set_cons_zero, List.set_cons_succ]
      refine wpAnyH_take (i := 3) (v := .agg cr.toArray) rfl (by kernel_rfl) (by kernel_rfl) (by kernel_rfl) (fun _ _ _ h => h) (Or.inl ⟨by rfl, fun wx hx => by exact load_run 56 _ rfl g5 0 rfl cr _ (HY.out.next hx).rb.range Tryd.underlying56 rfl HIR.out⟩) hS ?_
      simp only [Act.put, List.getElem_toArray, List.getElem_cons_succ, List.getElem_cons_zero, List.setIfInBounds_toArray, List.set_cons_zero, List.set_cons_succ]
      refine wpAnyH_take (i := 4) (v := .agg cs.toArray) rfl (by kernel_rfl) (by kernel_rfl) (by kernel_rfl) (fun _ _ _ h => h) (Or.inl ⟨by rfl, fun wx hx => by exact load_run 56 _ rfl g6 0 rfl cs _ (HY.out.next hx).sb.range Tryd.underlying56 rfl HIS.out⟩) hS ?_
      simp only [Act.put, List.getElem_toArray, List.getElem_cons_succ, List.getElem_cons_zero, List.setIfInBounds_toArray, List.set_cons_zero, List.set_cons_succ]
      refine wpAnyH_take (i := 5) (v := .bool false) rfl (by kernel_rfl) (by kernel_rfl) (by kernel_rfl) (fun _ _ _ h => h) (Or.inl ⟨by rfl, fun wx hx => by simp [go_sem, heq]⟩) hS ?_
      simp only [Act.put, List.getElem_toArray, List.getElem_cons_succ, List.getElem_cons_zero, List.setIfInBounds_toArray, List.set_cons_zero, List.set_cons_succ]
      refine wpAnyH_take (i := 6) (v := .bool false) rfl (by kernel_rfl) (by kernel_rfl) (by kernel_rfl) (fun _ _ _ h => h) (Or.inl ⟨by rfl, fun wx hx => by simp [go_sem]⟩) hS ?_
      simp only [Act.put, List.getElem_toArray, List.getElem_cons_succ, List.getElem_cons_zero, List.setIfInBounds_toArray, List.set_cons_zero, List.set_cons_succ]
      refine wpAnyH_take (i := 7) (v := undef) rfl (by kernel_rfl) (by kernel_rfl) (by kernel_rfl) (fun _ _ _ h => h) (Or.inr ⟨by rfl, rfl⟩) hS ?_
      simp only [Act.put, List.getElem_toArray, List.getElem_cons_succ, List.getElem_cons_zero, List.setIfInBounds_toArray, List.set_cons_zero, List.set_cons_succ]
      refine wpAnyH_take (i := 8) (v := undef) rfl (by kernel_rfl) (by kernel_rfl) (by kernel_rfl) (fun _ _ _ h => h) (Or.inr ⟨by rfl, rfl⟩) hS ?_
      simp only [Act.put, List.getElem_toArray, List.getElem_cons_succ, List.getElem_cons_zero, List.setIfInBounds_toArray, List.set_cons_zero, List.set_cons_succ]
      refine wpAnyH_take (i := 9) (v := undef) rfl (by kernel_rfl) (by kernel_rfl) (by kernel_rfl) (fun _ _ _ h => h) (Or.inr ⟨by rfl, rfl⟩) hS ?_
      simp only [Act.put, List.getElem_toArray, List.getElem_cons_succ, List.getElem_cons_zero, List.setIfInBounds_toArray, List.set_cons_zero, List.set_cons_succ]
      refine wpAnyH_take (i := 10) (v := undef) rfl (by kernel_rfl) (by kernel_rfl) (by kernel_rfl) (fun _ _ _ h => h) (Or.inr ⟨by rfl, rfl⟩) hS ?_
      simp only [Act.put, List.getElem_toArray, List.getElem_cons_succ, List.getElem_cons_zero, List.setIfInBounds_toArray, List.set_cons_zero, List.set_cons_succ]
      refine wpAnyH_take (i := 11) (v := undef) rfl (by kernel_rfl) (by kernel_rfl) (by kernel_rfl) (fun _ _ _ h => h) (Or.inr ⟨by rfl, rfl⟩) hS ?_
      simp only [Act.put, List.getElem_toArray, List.getElem_cons_succ, List.getElem_cons_zero, List.setIfInBounds_toArray, List.set_cons_zero, List.set_cons_succ]
      refine wpAnyH_take (i := 12) (v := .bool false) rfl (by kernel_rfl) (by kernel_rfl) (by kernel_rfl) (fun _ _ _ h => h) (Or.inl ⟨by rfl, fun wx hx => by simp [go_sem]⟩) hS ?_
      simp only [Act.put, List.getElem_toArray, List.getElem_cons_succ, List.getElem_cons_zero, List.setIfInBounds_toArray, List.set_cons_zero, List.set_cons_succ]
      refine wpAnyH_enter 13 (by kernel_rfl) rfl (by rfl) (f := 10) (args := #[.slice ax nx cx, .slice ay ny cy, .bool o, .bool false]) (by simp [go_sem]) (HC5.out _ hS) ?_
      rintro e y1 ⟨rfl, hbq⟩
      replace hS := Over.more hS hbq
      refine ⟨_, rfl, hS, ?_⟩
      clear hbq
      simp only [Act.put, List.getElem_toArray, List.getElem_cons_succ, List.getElem_cons_zero, List.setIfInBounds_toArray, List.set_cons_zero, List.set_cons_succ]
      refine wpAnyH_take (i := 14) (v := .bool false) rfl (by kernel_rfl) (by kernel_rfl) (by kernel_rfl) (fun _ _ _ h => h) (Or.inl ⟨by rfl, fun wx hx => by simp [go_sem]⟩) hS ?_
      simp only [Act.put, List.getElem_toArray, List.getElem_cons_succ, List.getElem_cons_zero, List.setIfInBounds_toArray, List.set_cons_zero, List.set_cons_succ]
      refine wpAnyH_done (by kernel_rfl) ?_ _
      have HI : Hid (C11 w g5 g6 g7 g8 g9 cr cs d0 d1 ca cc y1) := HY.out.next hS
      clear hS HY HC5
      go_upto_region 7 with (first
        | (with_reducible refine wpSeq_loadAt (.tmp 55) g7 0 d0 ?_ ?_ ?_ ?_ ?_ ?_
           · exact HD0.out
           · exact HI.out.x0
           · with_reducible rfl
           · rfl
           · rfl)
        | (with_reducible refine wpSeq_loadAt (.tmp 58) g7 32 d1 ?_ ?_ ?_ ?_ ?_ ?_
           · exact HD1.out
           · exact HI.out.x1
           · with_reducible rfl
           · rfl
           · rfl)
        | (with_reducible refine wpSeq_loadRow 59 (.tmp 8) g8 ca _ ?_ Tryd.underlying59 rfl ?_ ?_ ?_ ?_ ?_
           · exact HI.out.ab
           · exact HIA.out
           · rfl
           · rfl
           · rfl)
        | (with_reducible refine wpSeq_loadRow 59 (.tmp 9) g9 cc _ ?_ Tryd.underlying59 rfl ?_ ?_ ?_ ?_ ?_
           · exact HI.out.bb
           · exact HIC.out
           · rfl
           · rfl
           · rfl)
        | (go_at_call 25; refine (HC6.out _ HI.out.bel).mono ?_; rintro e v2 ⟨vx, vy, o, s, t, rfl, hs, ht, hsl, hrr, hbz⟩
           replace HI : Hid (C11 w g5 g6 g7 g8 g9 cr cs d0 d1 ca cc v2) := HI.out.next hbz
           obtain ⟨ax, nx, cx, hvx⟩ := hs.form
           subst hvx
           obtain ⟨ay, ny, cy, hvy⟩ := ht.form
           subst hvy
           have HRS : Hid (Reads v2 (.slice ax nx cx) s) := hs
           have HRT : Hid (Reads v2 (.slice ay ny cy) t) := ht
           have HSL : Hid (s.length < 140737488355000 ∧ t.length < 140737488355000) := hsl
           have HR0 : Hid (right9 s t o (pairB9 VA VB) = true) := hrr
           clear hbz hs ht hsl hrr))
      by_cases hdd : d0 = d1
      · have hq0 : ∀ wx : World, (Op.equalIn 10000 33 (.agg (cb d0).toArray) (.agg (cb d1).toArray)).run Tryd.prog wx = .ok true wx := fun wx => by rw [hdd]; exact eq_dig_same d1 HD1.out wx
        obtain ⟨sm, HSM⟩ : ∃ q, Hid (q = decide (na = nb ∧ sa = sb ∧ ka = kb)) := ⟨_, rfl⟩
        have HC7 : Hid (∀ W, Below w.heap.size w W → Calls Tryd.prog 26 #[.agg ca.toArray, .agg cc.toArray] W fun e w' => e = .returned (.bool sm) ∧ Below W.heap.size W w') := fun W hh => by rw [HCA.out, HCC.out, HSM.out]; exact sameBinding_any na nb ka kb _ _ sa sb W (HRA.out.below hh) (HRB.out.below hh)
        have HSV : Hid (decide (VA = VB) = sm) := by
          show _ = _
          rw [HVA.out, HVB.out, HSM.out]
          refine decide_eq_decide.2 ((valueB_iff HD0.out HD1.out ⟨HB4.out.1, HSA.out.1⟩ ⟨HB4.out.2.1, HSA.out.2⟩).trans ⟨fun h => h.2, fun h => ⟨hdd, h⟩⟩)
        clear hdd
        go_upto_region 8 with (first
          | (with_reducible refine wpSeq_loadAt (.tmp 65) g7 0 d0 ?_ ?_ ?_ ?_ ?_ ?_
             · exact HD0.out
             · exact HI.out.x0
             · with_reducible rfl
             · rfl
             · rfl)
          | (with_reducible refine wpSeq_loadAt (.tmp 67) g7 32 d1 ?_ ?_ ?_ ?_ ?_ ?_
             · exact HD1.out
             · exact HI.out.x1
             · with_reducible rfl
             · rfl
             · rfl)
          | (with_reducible refine wpSeq_loadRow 59 (.tmp 8) g8 ca _ ?_ Tryd.underlying59 rfl ?_ ?_ ?_ ?_ ?_
             · exact HI.out.ab
             · exact HIA.out
             · rfl
             · rfl
             · rfl)
          | (with_reducible refine wpSeq_loadRow 59 (.tmp 9) g9 cc _ ?_ Tryd.underlying59 rfl ?_ ?_ ?_ ?_ ?_
             · exact HI.out.bb
             · exact HIC.out
             · rfl
             · rfl
             · rfl)
          | (go_at_call 26; refine (HC7.out _ HI.out.bel).mono ?_; rintro e v3 ⟨rfl, hbz⟩
             replace HI : Hid (C11 w g5 g6 g7 g8 g9 cr cs d0 d1 ca cc v3) := HI.out.next hbz
             replace HRS : Hid (Reads v3 (.slice ax nx cx) s) := HRS.out.below hbz
             replace HRT : Hid (Reads v3 (.slice ay ny cy) t) := HRT.out.below hbz
             clear hbz HC7))
        clear hq0
        cases sm with
        | true =>
          have HRR : Hid (right9 s t o false = true) := by
            have h := HR0.out
            rw [show pairB9 VA VB = false from by
              unfold pairB9
              rw [decide_not, HSV.out]
              simp] at h
            exact h
          clear HR0
          have HY : Hid (C11 w g5 g6 g7 g8 g9 cr cs d0 d1 ca cc (World.drew v3)) := HI.out.next (Below.refl _ _).drew
          clear HI
          refine wp_region_held_drew (S := Over (World.drew v3)) (by kernel_rfl) (Over.refl _) ?_
          intro hS
          change wpAnyH _ _ _ _ _ _ _ _ (World.drew v3)
          have HC5 : Hid (∀ W', Over (World.drew v3) W' → Calls Tryd.prog 10 #[.slice ax nx cx, .slice ay ny cy, .bool o, .bool false] W' fun e w' => e = .returned (.bool true) ∧ Below W'.heap.size W' w') := fun W' hh => by
            have h := right9_any _ _ s t o false W' (HRS.out.below ((Below.refl _ _).drew.trans hh)) (HRT.out.below ((Below.refl _ _).drew.trans hh)) HSL.out.1 HSL.out.2
            rw [HRR.out] at h
            exact h
          clear HRS HRT HRR HSL
          generalize World.drew v3 = y0 at *
          refine wpAnyH_take (i := 0) (v := .slice ax nx cx) rfl (by kernel_rfl) (by kernel_rfl) (by kernel_rfl) (fun _ _ _ h => h) (Or.inl ⟨by rfl, fun wx hx => by simp [go_sem]⟩) hS ?_
          simp only [Act.put, List.getElem_toArray, List.getElem_cons_zero, List.setIfInBounds_toArray, List.set_cons_zero, List.set_cons_succ]
          refine wpAnyH_take (i := 1) (v := .slice ay ny cy) rfl (by kernel_rfl) (by kernel_rfl) (by kernel_rfl) (fun _ _ _ h => h) (Or.inl ⟨by rfl, fun wx hx => by simp [go_sem]⟩) hS ?_
          simp only [Act.put, List.getElem_toArray, List.getElem_cons_succ, List.getElem_cons_zero, List.setIfInBounds_toArray, List.set_cons_zero, List.set_cons_succ]
          refine wpAnyH_take (i := 2) (v := .bool o) rfl (by kernel_rfl) (by kernel_rfl) (by kernel_rfl) (fun _ _ _ h => h) (Or.inl ⟨by rfl, fun wx hx => by simp [go_sem]⟩) hS ?_
          simp only [Act.put, List.getElem_toArray, List.getElem_cons_succ, List.getElem_cons_zero, List.setIfInBounds_toArray, List.set_cons_zero, List.set_cons_succ]
          refine wpAnyH_take (i := 3) (v := .bool true) rfl (by kernel_rfl) (by kernel_rfl) (by kernel_rfl) (fun _ _ _ h => h) (Or.inl ⟨by rfl, fun wx hx => by simp [go_sem]⟩) hS ?_
          simp only [Act.put, List.getElem_toArray, List.getElem_cons_succ, List.getElem_cons_zero, List.setIfInBounds_toArray, List.set_cons_zero, List.set_cons_succ]
          refine wpAnyH_take (i := 4) (v := .bool false) rfl (by kernel_rfl) (by kernel_rfl) (by kernel_rfl) (fun _ _ _ h => h) (Or.inl ⟨by rfl, fun wx hx => by simp [go_sem]⟩) hS ?_
          simp only [Act.put, List.getElem_toArray, List.getElem_cons_succ, List.getElem_cons_zero, List.setIfInBounds_toArray, List.set_cons_zero, List.set_cons_succ]
          refine wpAnyH_take (i := 5) (v := .bool false) rfl (by kernel_rfl) (by kernel_rfl) (by kernel_rfl) (fun _ _ _ h => h) (Or.inl ⟨by rfl, fun wx hx => by simp [go_sem]⟩) hS ?_
          simp only [Act.put, List.getElem_toArray, List.getElem_cons_succ, List.getElem_cons_zero, List.setIfInBounds_toArray, List.set_cons_zero, List.set_cons_succ]
          refine wpAnyH_take (i := 6) (v := undef) rfl (by kernel_rfl) (by kernel_rfl) (by kernel_rfl) (fun _ _ _ h => h) (Or.inr ⟨by rfl, rfl⟩) hS ?_
          simp only [Act.put, List.getElem_toArray, List.getElem_cons_succ, List.getElem_cons_zero, List.setIfInBounds_toArray, List.set_cons_zero, List.set_cons_succ]
          refine wpAnyH_take (i := 7) (v := undef) rfl (by kernel_rfl) (by kernel_rfl) (by kernel_rfl) (fun _ _ _ h => h) (Or.inr ⟨by rfl, rfl⟩) hS ?_
          simp only [Act.put, List.getElem_toArray, List.getElem_cons_succ, List.getElem_cons_zero, List.setIfInBounds_toArray, List.set_cons_zero, List.set_cons_succ]
          refine wpAnyH_take (i := 8) (v := undef) rfl (by kernel_rfl) (by kernel_rfl) (by kernel_rfl) (fun _ _ _ h => h) (Or.inr ⟨by rfl, rfl⟩) hS ?_
          simp only [Act.put, List.getElem_toArray, List.getElem_cons_succ, List.getElem_cons_zero, List.setIfInBounds_toArray, List.set_cons_zero, List.set_cons_succ]
          refine wpAnyH_take (i := 9) (v := undef) rfl (by kernel_rfl) (by kernel_rfl) (by kernel_rfl) (fun _ _ _ h => h) (Or.inr ⟨by rfl, rfl⟩) hS ?_
          simp only [Act.put, List.getElem_toArray, List.getElem_cons_succ, List.getElem_cons_zero, List.setIfInBounds_toArray, List.set_cons_zero, List.set_cons_succ]
          refine wpAnyH_take (i := 10) (v := undef) rfl (by kernel_rfl) (by kernel_rfl) (by kernel_rfl) (fun _ _ _ h => h) (Or.inr ⟨by rfl, rfl⟩) hS ?_
          simp only [Act.put, List.getElem_toArray, List.getElem_cons_succ, List.getElem_cons_zero, List.setIfInBounds_toArray, List.set_cons_zero, List.set_cons_succ]
          refine wpAnyH_take (i := 11) (v := undef) rfl (by kernel_rfl) (by kernel_rfl) (by kernel_rfl) (fun _ _ _ h => h) (Or.inr ⟨by rfl, rfl⟩) hS ?_
          simp only [Act.put, List.getElem_toArray, List.getElem_cons_succ, List.getElem_cons_zero, List.setIfInBounds_toArray, List.set_cons_zero, List.set_cons_succ]
          refine wpAnyH_take (i := 12) (v := undef) rfl (by kernel_rfl) (by kernel_rfl) (by kernel_rfl) (fun _ _ _ h => h) (Or.inr ⟨by rfl, rfl⟩) hS ?_
          simp only [Act.put, List.getElem_toArray, List.getElem_cons_succ, List.getElem_cons_zero, List.setIfInBounds_toArray, List.set_cons_zero, List.set_cons_succ]
          refine wpAnyH_take (i := 13) (v := undef) rfl (by kernel_rfl) (by kernel_rfl) (by kernel_rfl) (fun _ _ _ h => h) (Or.inr ⟨by rfl, rfl⟩) hS ?_
          simp only [Act.put, List.getElem_toArray, List.getElem_cons_succ, List.getElem_cons_zero, List.setIfInBounds_toArray, List.set_cons_zero, List.set_cons_succ]
          refine wpAnyH_take (i := 14) (v := undef) rfl (by kernel_rfl) (by kernel_rfl) (by kernel_rfl) (fun _ _ _ h => h) (Or.inr ⟨by rfl, rfl⟩) hS ?_
          simp only [Act.put, List.getElem_toArray, List.getElem_cons_succ, List.getElem_cons_zero, List.setIfInBounds_toArray, List.set_cons_zero, List.set_cons_succ]
          refine wpAnyH_take (i := 15) (v := .bool false) rfl (by kernel_rfl) (by kernel_rfl) (by kernel_rfl) (fun _ _ _ h => h) (Or.inl ⟨by rfl, fun wx hx => by simp [go_sem]⟩) hS ?_
          simp only [Act.put, List.getElem_toArray, List.getElem_cons_succ, List.getElem_cons_zero, List.setIfInBounds_toArray, List.set_cons_zero, List.set_cons_succ]
          refine wpAnyH_enter 16 (by kernel_rfl) rfl (by rfl) (f := 10) (args := #[.slice ax nx cx, .slice ay ny cy, .bool o, .bool false]) (by simp [go_sem]) (HC5.out _ hS) ?_
          rintro e zc ⟨rfl, hbq⟩
          replace hS := Over.more hS hbq
          refine ⟨_, rfl, hS, ?_⟩
          clear hbq
          simp only [Act.put, List.getElem_toArray, List.getElem_cons_succ, List.getElem_cons_zero, List.setIfInBounds_toArray, List.set_cons_zero, List.set_cons_succ]
          refine wpAnyH_take (i := 17) (v := .bool true) rfl (by kernel_rfl) (by kernel_rfl) (by kernel_rfl) (fun _ _ _ h => h) (Or.inl ⟨by rfl, fun wx hx => by simp [go_sem]⟩) hS ?_
          simp only [Act.put, List.getElem_toArray, List.getElem_cons_succ, List.getElem_cons_zero, List.setIfInBounds_toArray, List.set_cons_zero, List.set_cons_succ]
          refine wpAnyH_enter 18 (by kernel_rfl) rfl (by rfl) (f := 13) (args := #[]) (by simp [go_sem]) (HWK.out _ (HY.out.next hS).bel) ?_
          rintro e zd ⟨rfl, hbq⟩
          replace hS := Over.more hS hbq
          refine ⟨_, rfl, hS, ?_⟩
          clear hbq
          simp only [Act.put, List.getElem_toArray, List.getElem_cons_succ, List.getElem_cons_zero, List.setIfInBounds_toArray, List.set_cons_zero, List.set_cons_succ]
          refine wpAnyH_take (i := 19) (v := .bool true) rfl (by kernel_rfl) (by kernel_rfl) (by kernel_rfl) (fun _ _ _ h => h) (Or.inl ⟨by rfl, fun wx hx => by simp [go_sem]⟩) hS ?_
          simp only [Act.put, List.getElem_toArray, List.getElem_cons_succ, List.getElem_cons_zero, List.setIfInBounds_toArray, List.set_cons_zero, List.set_cons_succ]
          refine wpAnyH_take (i := 20) (v := .bool true) rfl (by kernel_rfl) (by kernel_rfl) (by kernel_rfl) (fun _ _ _ h => h) (Or.inl ⟨by rfl, fun wx hx => by simp [go_sem]⟩) hS ?_
          simp only [Act.put, List.getElem_toArray, List.getElem_cons_succ, List.getElem_cons_zero, List.setIfInBounds_toArray, List.set_cons_zero, List.set_cons_succ]
          refine wpAnyH_done (by kernel_rfl) ?_ _
          have HBW : Hid (Below w.heap.size w zd) := (HY.out.next hS).bel
          clear hS HY HC5
          go_wp2
          go_ret
          exact ⟨rfl, HBW.out⟩
        | false =>
          have HRR : Hid (right9 s t o (decide (dva = dvb)) = true) := by
            have h := HR0.out
            rw [show pairB9 VA VB = (decide (dva = dvb)) from by
              unfold pairB9
              rw [decide_not, HSV.out, ← HDVA.out, ← HDVB.out]
              simp] at h
            exact h
          clear HR0
          have HY : Hid (C11 w g5 g6 g7 g8 g9 cr cs d0 d1 ca cc (World.drew v3)) := HI.out.next (Below.refl _ _).drew
          clear HI
          refine wp_region_held_drew (S := Over (World.drew v3)) (by kernel_rfl) (Over.refl _) ?_
          intro hS
          change wpAnyH _ _ _ _ _ _ _ _ (World.drew v3)
          have HC5 : Hid (∀ W', Over (World.drew v3) W' → Calls Tryd.prog 10 #[.slice ax nx cx, .slice ay ny cy, .bool o, .bool (decide (dva = dvb))] W' fun e w' => e = .returned (.bool true) ∧ Below W'.heap.size W' w') := fun W' hh => by
            have h := right9_any _ _ s t o (decide (dva = dvb)) W' (HRS.out.below ((Below.refl _ _).drew.trans hh)) (HRT.out.below ((Below.refl _ _).drew.trans hh)) HSL.out.1 HSL.out.2
            rw [HRR.out] at h
            exact h
          clear HRS HRT HRR HSL
          generalize World.drew v3 = y0 at *
          refine wpAnyH_take (i := 0) (v := .slice ax nx cx) rfl (by kernel_rfl) (by kernel_rfl) (by kernel_rfl) (fun _ _ _ h => h) (Or.inl ⟨by rfl, fun wx hx => by simp [go_sem]⟩) hS ?_
          simp only [Act.put, List.getElem_toArray, List.getElem_cons_zero, List.setIfInBounds_toArray, List.set_cons_zero, List.set_cons_succ]
          refine wpAnyH_take (i := 1) (v := .slice ay ny cy) rfl (by kernel_rfl) (by kernel_rfl) (by kernel_rfl) (fun _ _ _ h => h) (Or.inl ⟨by rfl, fun wx hx => by simp [go_sem]⟩) hS ?_
          simp only [Act.put, List.getElem_toArray, List.getElem_cons_succ, List.getElem_cons_zero, List.setIfInBounds_toArray, List.set_cons_zero, List.set_cons_succ]
          refine wpAnyH_take (i := 2) (v := .bool o) rfl (by kernel_rfl) (by kernel_rfl) (by kernel_rfl) (fun _ _ _ h => h) (Or.inl ⟨by rfl, fun wx hx => by simp [go_sem]⟩) hS ?_
          simp only [Act.put, List.getElem_toArray, List.getElem_cons_succ, List.getElem_cons_zero, List.setIfInBounds_toArray, List.set_cons_zero, List.set_cons_succ]
          refine wpAnyH_take (i := 3) (v := .bool false) rfl (by kernel_rfl) (by kernel_rfl) (by kernel_rfl) (fun _ _ _ h => h) (Or.inl ⟨by rfl, fun wx hx => by simp [go_sem]⟩) hS ?_
          simp only [Act.put, List.getElem_toArray, List.getElem_cons_succ, List.getElem_cons_zero, List.setIfInBounds_toArray, List.set_cons_zero, List.set_cons_succ]
          refine wpAnyH_take (i := 4) (v := .bool true) rfl (by kernel_rfl) (by kernel_rfl) (by kernel_rfl) (fun _ _ _ h => h) (Or.inl ⟨by rfl, fun wx hx => by simp [go_sem]⟩) hS ?_
          simp only [Act.put, List.getElem_toArray, List.getElem_cons_succ, List.getElem_cons_zero, List.setIfInBounds_toArray, List.set_cons_zero, List.set_cons_succ]
          refine wpAnyH_take (i := 5) (v := .bool true) rfl (by kernel_rfl) (by kernel_rfl) (by kernel_rfl) (fun _ _ _ h => h) (Or.inl ⟨by rfl, fun wx hx => by simp [go_sem]⟩) hS ?_
          simp only [Act.put, List.getElem_toArray, List.getElem_cons_succ, List.getElem_cons_zero, List.setIfInBounds_toArray, List.set_cons_zero, List.set_cons_succ]
          refine wpAnyH_take (i := 6) (v := .pointer (some ⟨g7, 0, none⟩)) rfl (by kernel_rfl) (by kernel_rfl) (by kernel_rfl) (fun _ _ _ h => h) (Or.inl ⟨by rfl, fun wx hx => by simp [go_sem]⟩) hS ?_
          simp only [Act.put, List.getElem_toArray, List.getElem_cons_succ, List.getElem_cons_zero, List.setIfInBounds_toArray, List.set_cons_zero, List.set_cons_succ]
          refine wpAnyH_take (i := 7) (v := .agg (cb d0).toArray) rfl (by kernel_rfl) (by kernel_rfl) (by kernel_rfl) (fun _ _ _ h => h) (Or.inl ⟨by rfl, fun wx hx => by exact load_run 33 _ rfl g7 0 rfl (cb d0) _ (HY.out.next hx).x0 Tryd.underlying33 rfl (by rw [cb_len, HD0.out]; exact info_digest)⟩) hS ?_
          simp only [Act.put, List.getElem_toArray, List.getElem_cons_succ, List.getElem_cons_zero, List.setIfInBounds_toArray, List.set_cons_zero, List.set_cons_succ]
          refine wpAnyH_take (i := 8) (v := .agg ca.toArray) rfl (by kernel_rfl) (by kernel_rfl) (by kernel_rfl) (fun _ _ _ h => h) (Or.inl ⟨by rfl, fun wx hx => by exact load_run 59 _ rfl g8 0 rfl ca _ (HY.out.next hx).ab.range Tryd.underlying59 rfl HIA.out⟩) hS ?_
          simp only [Act.put, List.getElem_toArray, List.getElem_cons_succ, List.getElem_cons_zero, List.setIfInBounds_toArray, List.set_cons_zero, List.set_cons_succ]
          refine wpAnyH_take (i := 10) (v := .pointer (some ⟨g7, 32, none⟩)) rfl (by kernel_rfl) (by kernel_rfl) (by kernel_rfl) (fun _ _ _ h => h) (Or.inl ⟨by rfl, fun wx hx => by simp [go_sem]⟩) hS ?_
          simp only [Act.put, List.getElem_toArray, List.getElem_cons_succ, List.getElem_cons_zero, List.setIfInBounds_toArray, List.set_cons_zero, List.set_cons_succ]
          refine wpAnyH_take (i := 11) (v := .agg (cb d1).toArray) rfl (by kernel_rfl) (by kernel_rfl) (by kernel_rfl) (fun _ _ _ h => h) (Or.inl ⟨by rfl, fun wx hx => by exact load_run 33 _ rfl g7 32 rfl (cb d1) _ (HY.out.next hx).x1 Tryd.underlying33 rfl (by rw [cb_len, HD1.out]; exact info_digest)⟩) hS ?_
          simp only [Act.put, List.getElem_toArray, List.getElem_cons_succ, List.getElem_cons_zero, List.setIfInBounds_toArray, List.set_cons_zero, List.set_cons_succ]
          refine wpAnyH_take (i := 12) (v := .agg cc.toArray) rfl (by kernel_rfl) (by kernel_rfl) (by kernel_rfl) (fun _ _ _ h => h) (Or.inl ⟨by rfl, fun wx hx => by exact load_run 59 _ rfl g9 0 rfl cc _ (HY.out.next hx).bb.range Tryd.underlying59 rfl HIC.out⟩) hS ?_
          simp only [Act.put, List.getElem_toArray, List.getElem_cons_succ, List.getElem_cons_zero, List.setIfInBounds_toArray, List.set_cons_zero, List.set_cons_succ]
          refine wpAnyH_enter 9 (by kernel_rfl) rfl (by rfl) (f := 27) (args := #[.agg (cb d0).toArray, .agg ca.toArray]) (by simp [go_sem]) (HC8.out _ (HY.out.next hS).bel) ?_
          rintro e za ⟨rfl, hbq⟩
          replace hS := Over.more hS hbq
          refine ⟨_, rfl, hS, ?_⟩
          clear hbq
          simp only [Act.put, List.getElem_toArray, List.getElem_cons_succ, List.getElem_cons_zero, List.setIfInBounds_toArray, List.set_cons_zero, List.set_cons_succ]
          refine wpAnyH_enter 13 (by kernel_rfl) rfl (by rfl) (f := 27) (args := #[.agg (cb d1).toArray, .agg cc.toArray]) (by simp [go_sem]) (HC9.out _ (HY.out.next hS).bel) ?_
          rintro e zb ⟨rfl, hbq⟩
          replace hS := Over.more hS hbq
          refine ⟨_, rfl, hS, ?_⟩
          clear hbq
          simp only [Act.put, List.getElem_toArray, List.getElem_cons_succ, List.getElem_cons_zero, List.setIfInBounds_toArray, List.set_cons_zero, List.set_cons_succ]
          refine wpAnyH_take (i := 14) (v := .bool (decide (dva = dvb))) rfl (by kernel_rfl) (by kernel_rfl) (by kernel_rfl) (fun _ _ _ h => h) (Or.inl ⟨by rfl, fun wx hx => by (have hq := hev wx; simp [go_sem, hq])⟩) hS ?_
          simp only [Act.put, List.getElem_toArray, List.getElem_cons_succ, List.getElem_cons_zero, List.setIfInBounds_toArray, List.set_cons_zero, List.set_cons_succ]
          refine wpAnyH_take (i := 15) (v := .bool (decide (dva = dvb))) rfl (by kernel_rfl) (by kernel_rfl) (by kernel_rfl) (fun _ _ _ h => h) (Or.inl ⟨by rfl, fun wx hx => by simp [go_sem]⟩) hS ?_
          simp only [Act.put, List.getElem_toArray, List.getElem_cons_succ, List.getElem_cons_zero, List.setIfInBounds_toArray, List.set_cons_zero, List.set_cons_succ]
          refine wpAnyH_enter 16 (by kernel_rfl) rfl (by rfl) (f := 10) (args := #[.slice ax nx cx, .slice ay ny cy, .bool o, .bool (decide (dva = dvb))]) (by simp [go_sem]) (HC5.out _ hS) ?_
          rintro e zc ⟨rfl, hbq⟩
          replace hS := Over.more hS hbq
          refine ⟨_, rfl, hS, ?_⟩
          clear hbq
          simp only [Act.put, List.getElem_toArray, List.getElem_cons_succ, List.getElem_cons_zero, List.setIfInBounds_toArray, List.set_cons_zero, List.set_cons_succ]
          refine wpAnyH_take (i := 17) (v := .bool true) rfl (by kernel_rfl) (by kernel_rfl) (by kernel_rfl) (fun _ _ _ h => h) (Or.inl ⟨by rfl, fun wx hx => by simp [go_sem]⟩) hS ?_
          simp only [Act.put, List.getElem_toArray, List.getElem_cons_succ, List.getElem_cons_zero, List.setIfInBounds_toArray, List.set_cons_zero, List.set_cons_succ]
          refine wpAnyH_enter 18 (by kernel_rfl) rfl (by rfl) (f := 13) (args := #[]) (by simp [go_sem]) (HWK.out _ (HY.out.next hS).bel) ?_
          rintro e zd ⟨rfl, hbq⟩
          replace hS := Over.more hS hbq
          refine ⟨_, rfl, hS, ?_⟩
          clear hbq
          simp only [Act.put, List.getElem_toArray, List.getElem_cons_succ, List.getElem_cons_zero, List.setIfInBounds_toArray, List.set_cons_zero, List.set_cons_succ]
          refine wpAnyH_take (i := 19) (v := .bool true) rfl (by kernel_rfl) (by kernel_rfl) (by kernel_rfl) (fun _ _ _ h => h) (Or.inl ⟨by rfl, fun wx hx => by simp [go_sem]⟩) hS ?_
          simp only [Act.put, List.getElem_toArray, List.getElem_cons_succ, List.getElem_cons_zero, List.setIfInBounds_toArray, List.set_cons_zero, List.set_cons_succ]
          refine wpAnyH_take (i := 20) (v := .bool true) rfl (by kernel_rfl) (by kernel_rfl) (by kernel_rfl) (fun _ _ _ h => h) (Or.inl ⟨by rfl, fun wx hx => by simp [go_sem]⟩) hS ?_
          simp only [Act.put, List.getElem_toArray, List.getElem_cons_succ, List.getElem_cons_zero, List.setIfInBounds_toArray, List.set_cons_zero, List.set_cons_succ]
          refine wpAnyH_done (by kernel_rfl) ?_ _
          have HBW : Hid (Below w.heap.size w zd) := (HY.out.next hS).bel
          clear hS HY HC5
          go_wp2
          go_ret
          exact ⟨rfl, HBW.out⟩
      · have hq0 : ∀ wx : World, (Op.equalIn 10000 33 (.agg (cb d0).toArray) (.agg (cb d1).toArray)).run Tryd.prog wx = .ok false wx := fun wx => by have h := eq_dig d0 d1 HD0.out HD1.out wx; rw [decide_eq_false hdd] at h; exact h
        have HSV : Hid (decide (VA = VB) = false) := by
          show _ = _
          rw [HVA.out, HVB.out, decide_eq_false_iff_not]
          exact fun h => hdd ((valueB_iff HD0.out HD1.out ⟨HB4.out.1, HSA.out.1⟩ ⟨HB4.out.2.1, HSA.out.2⟩).1 h).1
        clear hdd
        go_upto_region 8 with (first
          | (with_reducible refine wpSeq_loadAt (.tmp 65) g7 0 d0 ?_ ?_ ?_ ?_ ?_ ?_
             · exact HD0.out
             · exact HI.out.x0
             · with_reducible rfl
             · rfl
             · rfl)
          | (with_reducible refine wpSeq_loadAt (.tmp 67) g7 32 d1 ?_ ?_ ?_ ?_ ?_ ?_
             · exact HD1.out
             · exact HI.out.x1
             · with_reducible rfl
             · rfl
             · rfl))
        clear hq0
        have HRR : Hid (right9 s t o (decide (dva = dvb)) = true) := by
          have h := HR0.out
          rw [show pairB9 VA VB = (decide (dva = dvb)) from by
            unfold pairB9
            rw [decide_not, HSV.out, ← HDVA.out, ← HDVB.out]
            simp] at h
          exact h
        clear HR0
        have HY : Hid (C11 w g5 g6 g7 g8 g9 cr cs d0 d1 ca cc (World.drew v2)) := HI.out.next (Below.refl _ _).drew
        clear HI
        refine wp_region_held_drew (S := Over (World.drew v2)) (by kernel_rfl) (Over.refl _) ?_
        intro hS
        change wpAnyH _ _ _ _ _ _ _ _ (World.drew v2)
        have HC5 : Hid (∀ W', Over (World.drew v2) W' → Calls Tryd.prog 10 #[.slice ax nx cx, .slice ay ny cy, .bool o, .bool (decide (dva = dvb))] W' fun e w' => e = .returned (.bool true) ∧ Below W'.heap.size W' w') := fun W' hh => by
          have h := right9_any _ _ s t o (decide (dva = dvb)) W' (HRS.out.below ((Below.refl _ _).drew.trans hh)) (HRT.out.below ((Below.refl _ _).drew.trans hh)) HSL.out.1 HSL.out.2
          rw [HRR.out] at h
          exact h
        clear HRS HRT HRR HSL
        generalize World.drew v2 = y0 at *
        refine wpAnyH_take (i := 0) (v := .slice ax nx cx) rfl (by kernel_rfl) (by kernel_rfl) (by kernel_rfl) (fun _ _ _ h => h) (Or.inl ⟨by rfl, fun wx hx => by simp [go_sem]⟩) hS ?_
        simp only [Act.put, List.getElem_toArray, List.getElem_cons_zero, List.setIfInBounds_toArray, List.set_cons_zero, List.set_cons_succ]
        refine wpAnyH_take (i := 1) (v := .slice ay ny cy) rfl (by kernel_rfl) (by kernel_rfl) (by kernel_rfl) (fun _ _ _ h => h) (Or.inl ⟨by rfl, fun wx hx => by simp [go_sem]⟩) hS ?_
        simp only [Act.put, List.getElem_toArray, List.getElem_cons_succ, List.getElem_cons_zero, List.setIfInBounds_toArray, List.set_cons_zero, List.set_cons_succ]
        refine wpAnyH_take (i := 2) (v := .bool o) rfl (by kernel_rfl) (by kernel_rfl) (by kernel_rfl) (fun _ _ _ h => h) (Or.inl ⟨by rfl, fun wx hx => by simp [go_sem]⟩) hS ?_
        simp only [Act.put, List.getElem_toArray, List.getElem_cons_succ, List.getElem_cons_zero, List.setIfInBounds_toArray, List.set_cons_zero, List.set_cons_succ]
        refine wpAnyH_take (i := 3) (v := .bool false) rfl (by kernel_rfl) (by kernel_rfl) (by kernel_rfl) (fun _ _ _ h => h) (Or.inl ⟨by rfl, fun wx hx => by simp [go_sem]⟩) hS ?_
        simp only [Act.put, List.getElem_toArray, List.getElem_cons_succ, List.getElem_cons_zero, List.setIfInBounds_toArray, List.set_cons_zero, List.set_cons_succ]
        refine wpAnyH_take (i := 4) (v := .bool true) rfl (by kernel_rfl) (by kernel_rfl) (by kernel_rfl) (fun _ _ _ h => h) (Or.inl ⟨by rfl, fun wx hx => by simp [go_sem]⟩) hS ?_
        simp only [Act.put, List.getElem_toArray, List.getElem_cons_succ, List.getElem_cons_zero, List.setIfInBounds_toArray, List.set_cons_zero, List.set_cons_succ]
        refine wpAnyH_take (i := 5) (v := .bool true) rfl (by kernel_rfl) (by kernel_rfl) (by kernel_rfl) (fun _ _ _ h => h) (Or.inl ⟨by rfl, fun wx hx => by simp [go_sem]⟩) hS ?_
        simp only [Act.put, List.getElem_toArray, List.getElem_cons_succ, List.getElem_cons_zero, List.setIfInBounds_toArray, List.set_cons_zero, List.set_cons_succ]
        refine wpAnyH_take (i := 6) (v := .pointer (some ⟨g7, 0, none⟩)) rfl (by kernel_rfl) (by kernel_rfl) (by kernel_rfl) (fun _ _ _ h => h) (Or.inl ⟨by rfl, fun wx hx => by simp [go_sem]⟩) hS ?_
        simp only [Act.put, List.getElem_toArray, List.getElem_cons_succ, List.getElem_cons_zero, List.setIfInBounds_toArray, List.set_cons_zero, List.set_cons_succ]
        refine wpAnyH_take (i := 7) (v := .agg (cb d0).toArray) rfl (by kernel_rfl) (by kernel_rfl) (by kernel_rfl) (fun _ _ _ h => h) (Or.inl ⟨by rfl, fun wx hx => by exact load_run 33 _ rfl g7 0 rfl (cb d0) _ (HY.out.next hx).x0 Tryd.underlying33 rfl (by rw [cb_len, HD0.out]; exact info_digest)⟩) hS ?_
        simp only [Act.put, List.getElem_toArray, List.getElem_cons_succ, List.getElem_cons_zero, List.setIfInBounds_toArray, List.set_cons_zero, List.set_cons_succ]
        refine wpAnyH_take (i := 8) (v := .agg ca.toArray) rfl (by kernel_rfl) (by kernel_rfl) (by kernel_rfl) (fun _ _ _ h => h) (Or.inl ⟨by rfl, fun wx hx => by exact load_run 59 _ rfl g8 0 rfl ca _ (HY.out.next hx).ab.range Tryd.underlying59 rfl HIA.out⟩) hS ?_
        simp only [Act.put, List.getElem_toArray, List.getElem_cons_succ, List.getElem_cons_zero, List.setIfInBounds_toArray, List.set_cons_zero, List.set_cons_succ]
        refine wpAnyH_take (i := 10) (v := .pointer (some ⟨g7, 32, none⟩)) rfl (by kernel_rfl) (by kernel_rfl) (by kernel_rfl) (fun _ _ _ h => h) (Or.inl ⟨by rfl, fun wx hx => by simp [go_sem]⟩) hS ?_
        simp only [Act.put, List.getElem_toArray, List.getElem_cons_succ, List.getElem_cons_zero, List.setIfInBounds_toArray, List.set_cons_zero, List.set_cons_succ]
        refine wpAnyH_take (i := 11) (v := .agg (cb d1).toArray) rfl (by kernel_rfl) (by kernel_rfl) (by kernel_rfl) (fun _ _ _ h => h) (Or.inl ⟨by rfl, fun wx hx => by exact load_run 33 _ rfl g7 32 rfl (cb d1) _ (HY.out.next hx).x1 Tryd.underlying33 rfl (by rw [cb_len, HD1.out]; exact info_digest)⟩) hS ?_
        simp only [Act.put, List.getElem_toArray, List.getElem_cons_succ, List.getElem_cons_zero, List.setIfInBounds_toArray, List.set_cons_zero, List.set_cons_succ]
        refine wpAnyH_take (i := 12) (v := .agg cc.toArray) rfl (by kernel_rfl) (by kernel_rfl) (by kernel_rfl) (fun _ _ _ h => h) (Or.inl ⟨by rfl, fun wx hx => by exact load_run 59 _ rfl g9 0 rfl cc _ (HY.out.next hx).bb.range Tryd.underlying59 rfl HIC.out⟩) hS ?_
        simp only [Act.put, List.getElem_toArray, List.getElem_cons_succ, List.getElem_cons_zero, List.setIfInBounds_toArray, List.set_cons_zero, List.set_cons_succ]
        refine wpAnyH_enter 9 (by kernel_rfl) rfl (by rfl) (f := 27) (args := #[.agg (cb d0).toArray, .agg ca.toArray]) (by simp [go_sem]) (HC8.out _ (HY.out.next hS).bel) ?_
        rintro e za ⟨rfl, hbq⟩
        replace hS := Over.more hS hbq
        refine ⟨_, rfl, hS, ?_⟩
        clear hbq
        simp only [Act.put, List.getElem_toArray, List.getElem_cons_succ, List.getElem_cons_zero, List.setIfInBounds_toArray, List.set_cons_zero, List.set_cons_succ]
        refine wpAnyH_enter 13 (by kernel_rfl) rfl (by rfl) (f := 27) (args := #[.agg (cb d1).toArray, .agg cc.toArray]) (by simp [go_sem]) (HC9.out _ (HY.out.next hS).bel) ?_
        rintro e zb ⟨rfl, hbq⟩
        replace hS := Over.more hS hbq
        refine ⟨_, rfl, hS, ?_⟩
        clear hbq
        simp only [Act.put, List.getElem_toArray, List.getElem_cons_succ, List.getElem_cons_zero, List.setIfInBounds_toArray, List.set_cons_zero, List.set_cons_succ]
        refine wpAnyH_take (i := 14) (v := .bool (decide (dva = dvb))) rfl (by kernel_rfl) (by kernel_rfl) (by kernel_rfl) (fun _ _ _ h => h) (Or.inl ⟨by rfl, fun wx hx => by (have hq := hev wx; simp [go_sem, hq])⟩) hS ?_
        simp only [Act.put, List.getElem_toArray, List.getElem_cons_succ, List.getElem_cons_zero, List.setIfInBounds_toArray, List.set_cons_zero, List.set_cons_succ]
        refine wpAnyH_take (i := 15) (v := .bool (decide (dva = dvb))) rfl (by kernel_rfl) (by kernel_rfl) (by kernel_rfl) (fun _ _ _ h => h) (Or.inl ⟨by rfl, fun wx hx => by simp [go_sem]⟩) hS ?_
        simp only [Act.put, List.getElem_toArray, List.getElem_cons_succ, List.getElem_cons_zero, List.setIfInBounds_toArray, List.set_cons_zero, List.set_cons_succ]
        refine wpAnyH_enter 16 (by kernel_rfl) rfl (by rfl) (f := 10) (args := #[.slice ax nx cx, .slice ay ny cy, .bool o, .bool (decide (dva = dvb))]) (by simp [go_sem]) (HC5.out _ hS) ?_
        rintro e zc ⟨rfl, hbq⟩
        replace hS := Over.more hS hbq
        refine ⟨_, rfl, hS, ?_⟩
        clear hbq
        simp only [Act.put, List.getElem_toArray, List.getElem_cons_succ, List.getElem_cons_zero, List.setIfInBounds_toArray, List.set_cons_zero, List.set_cons_succ]
        refine wpAnyH_take (i := 17) (v := .bool true) rfl (by kernel_rfl) (by kernel_rfl) (by kernel_rfl) (fun _ _ _ h => h) (Or.inl ⟨by rfl, fun wx hx => by simp [go_sem]⟩) hS ?_
        simp only [Act.put, List.getElem_toArray, List.getElem_cons_succ, List.getElem_cons_zero, List.setIfInBounds_toArray, List.set_cons_zero, List.set_cons_succ]
        refine wpAnyH_enter 18 (by kernel_rfl) rfl (by rfl) (f := 13) (args := #[]) (by simp [go_sem]) (HWK.out _ (HY.out.next hS).bel) ?_
        rintro e zd ⟨rfl, hbq⟩
        replace hS := Over.more hS hbq
        refine ⟨_, rfl, hS, ?_⟩
        clear hbq
        simp only [Act.put, List.getElem_toArray, List.getElem_cons_succ, List.getElem_cons_zero, List.setIfInBounds_toArray, List.set_cons_zero, List.set_cons_succ]
        refine wpAnyH_take (i := 19) (v := .bool true) rfl (by kernel_rfl) (by kernel_rfl) (by kernel_rfl) (fun _ _ _ h => h) (Or.inl ⟨by rfl, fun wx hx => by simp [go_sem]⟩) hS ?_
        simp only [Act.put, List.getElem_toArray, List.getElem_cons_succ, List.getElem_cons_zero, List.setIfInBounds_toArray, List.set_cons_zero, List.set_cons_succ]
        refine wpAnyH_take (i := 20) (v := .bool true) rfl (by kernel_rfl) (by kernel_rfl) (by kernel_rfl) (fun _ _ _ h => h) (Or.inl ⟨by rfl, fun wx hx => by simp [go_sem]⟩) hS ?_
        simp only [Act.put, List.getElem_toArray, List.getElem_cons_succ, List.getElem_cons_zero, List.setIfInBounds_toArray, List.set_cons_zero, List.set_cons_succ]
        refine wpAnyH_done (by kernel_rfl) ?_ _
        have HBW : Hid (Below w.heap.size w zd) := (HY.out.next hS).bel
        clear hS HY HC5
        go_wp2
        go_ret
        exact ⟨rfl, HBW.out⟩
    | false =>
      have HRR : Hid (right9 s t o (decide (dr = ds)) = true) := by
        have h := HR0.out
        rw [show pairB9 R S = decide (dr = ds) from by
          unfold pairB9
          rw [decide_not, ← HER.out, ← HDR.out, ← HDS.out]
          simp] at h
        exact h
      clear HR0
      have HY : Hid (C11 w g5 g6 g7 g8 g9 cr cs d0 d1 ca cc (World.drew v1)) := HI.out.next (Below.refl _ _).drew
      clear HI
      refine wp_region_held_drew (S := Over (World.drew v1)) (by kernel_rfl) (Over.refl _) ?_
      intro hS
      change wpAnyH _ _ _ _ _ _ _ _ (World.drew v1)
      have HC5 : Hid (∀ W', Over (World.drew v1) W' → Calls Tryd.prog 10 #[.slice ax nx cx, .slice ay ny cy, .bool o, .bool (decide (dr = ds))] W' fun e w' => e = .returned (.bool true) ∧ Below W'.heap.size W' w') := fun W' hh => by
        have h := right9_any _ _ s t o (decide (dr = ds)) W' (HRS.out.below ((Below.refl _ _).drew.trans hh)) (HRT.out.below ((Below.refl _ _).drew.trans hh)) HSL.out.1 HSL.out.2
        rw [HRR.out] at h
        exact h
      clear HRS HRT HRR HSL
      generalize World.drew v1 = y0 at *
      refine wpAnyH_take (i := 0) (v := .slice ax nx cx) rfl (by kernel_rfl) (by kernel_rfl) (by kernel_rfl) (fun _ _ _ h => h) (Or.inl ⟨by rfl, fun wx hx => by simp [go_sem]⟩) hS ?_
      simp only [Act.put, List.getElem_toArray, List.getElem_cons_zero, List.setIfInBounds_toArray, List.set_cons_zero, List.set_cons_succ]
      refine wpAnyH_take (i := 1) (v := .slice ay ny cy) rfl (by kernel_rfl) (by kernel_rfl) (by kernel_rfl) (fun _ _ _ h => h) (Or.inl ⟨by rfl, fun wx hx => by simp [go_sem]⟩) hS ?_
      simp only [Act.put, List.getElem_toArray, List.getElem_cons_succ, List.getElem_cons_zero, List.setIfInBounds_toArray, List.set_cons_zero, List.set_cons_succ]
      refine wpAnyH_take (i := 2) (v := .bool o) rfl (by kernel_rfl) (by kernel_rfl) (by kernel_rfl) (fun _ _ _ h => h) (Or.inl ⟨by rfl, fun wx hx => by simp [go_sem]⟩) hS ?_
      simp only [Act.put, List.getElem_toArray, List.getElem_cons_succ, List.getElem_cons_zero, List.setIfInBounds_toArray, List.set_cons_zero, List.set_cons_succ]
      refine wpAnyH_take (i := 3) (v := .agg cr.toArray) rfl (by kernel_rfl) (by kernel_rfl) (by kernel_rfl) (fun _ _ _ h => h) (Or.inl ⟨by rfl, fun wx hx => by exact load_run 56 _ rfl g5 0 rfl cr _ (HY.out.next hx).rb.range Tryd.underlying56 rfl HIR.out⟩) hS ?_
      simp only [Act.put, List.getElem_toArray, List.getElem_cons_succ, List.getElem_cons_zero, List.setIfInBounds_toArray, List.set_cons_zero, List.set_cons_succ]
      refine wpAnyH_take (i := 4) (v := .agg cs.toArray) rfl (by kernel_rfl) (by kernel_rfl) (by kernel_rfl) (fun _ _ _ h => h) (Or.inl ⟨by rfl, fun wx hx => by exact load_run 56 _ rfl g6 0 rfl cs _ (HY.out.next hx).sb.range Tryd.underlying56 rfl HIS.out⟩) hS ?_
      simp only [Act.put, List.getElem_toArray, List.getElem_cons_succ, List.getElem_cons_zero, List.setIfInBounds_toArray, List.set_cons_zero, List.set_cons_succ]
      refine wpAnyH_take (i := 5) (v := .bool true) rfl (by kernel_rfl) (by kernel_rfl) (by kernel_rfl) (fun _ _ _ h => h) (Or.inl ⟨by rfl, fun wx hx => by simp [go_sem, heq]⟩) hS ?_
      simp only [Act.put, List.getElem_toArray, List.getElem_cons_succ, List.getElem_cons_zero, List.setIfInBounds_toArray, List.set_cons_zero, List.set_cons_succ]
      refine wpAnyH_take (i := 6) (v := .bool true) rfl (by kernel_rfl) (by kernel_rfl) (by kernel_rfl) (fun _ _ _ h => h) (Or.inl ⟨by rfl, fun wx hx => by simp [go_sem]⟩) hS ?_
      simp only [Act.put, List.getElem_toArray, List.getElem_cons_succ, List.getElem_cons_zero, List.setIfInBounds_toArray, List.set_cons_zero, List.set_cons_succ]
      refine wpAnyH_take (i := 7) (v := .agg cr.toArray) rfl (by kernel_rfl) (by kernel_rfl) (by kernel_rfl) (fun _ _ _ h => h) (Or.inl ⟨by rfl, fun wx hx => by exact load_run 56 _ rfl g5 0 rfl cr _ (HY.out.next hx).rb.range Tryd.underlying56 rfl HIR.out⟩) hS ?_
      simp only [Act.put, List.getElem_toArray, List.getElem_cons_succ, List.getElem_cons_zero, List.setIfInBounds_toArray, List.set_cons_zero, List.set_cons_succ]
      refine wpAnyH_take (i := 9) (v := .agg cs.toArray) rfl (by kernel_rfl) (by kernel_rfl) (by kernel_rfl) (fun _ _ _ h => h) (Or.inl ⟨by rfl, fun wx hx => by exact load_run 56 _ rfl g6 0 rfl cs _ (HY.out.next hx).sb.range Tryd.underlying56 rfl HIS.out⟩) hS ?_
      simp only [Act.put, List.getElem_toArray, List.getElem_cons_succ, List.getElem_cons_zero, List.setIfInBounds_toArray, List.set_cons_zero, List.set_cons_succ]
      refine wpAnyH_enter 8 (by kernel_rfl) rfl (by rfl) (f := 24) (args := #[.agg cr.toArray]) (by simp [go_sem]) (HC1.out _) ?_
      rintro e ya ⟨rfl, hbq⟩
      replace hS := Over.more hS hbq
      refine ⟨_, rfl, hS, ?_⟩
      clear hbq
      simp only [Act.put, List.getElem_toArray, List.getElem_cons_succ, List.getElem_cons_zero, List.setIfInBounds_toArray, List.set_cons_zero, List.set_cons_succ]
      refine wpAnyH_enter 10 (by kernel_rfl) rfl (by rfl) (f := 24) (args := #[.agg cs.toArray]) (by simp [go_sem]) (HC2.out _) ?_
      rintro e yb ⟨rfl, hbq⟩
      replace hS := Over.more hS hbq
      refine ⟨_, rfl, hS, ?_⟩
      clear hbq
      simp only [Act.put, List.getElem_toArray, List.getElem_cons_succ, List.getElem_cons_zero, List.setIfInBounds_toArray, List.set_cons_zero, List.set_cons_succ]
      refine wpAnyH_take (i := 11) (v := .bool (decide (dr = ds))) rfl (by kernel_rfl) (by kernel_rfl) (by kernel_rfl) (fun _ _ _ h => h) (Or.inl ⟨by rfl, fun wx hx => by (have hq := hed wx; simp [go_sem, hq])⟩) hS ?_
      simp only [Act.put, List.getElem_toArray, List.getElem_cons_succ, List.getElem_cons_zero, List.setIfInBounds_toArray, List.set_cons_zero, List.set_cons_succ]
      refine wpAnyH_take (i := 12) (v := .bool (decide (dr = ds))) rfl (by kernel_rfl) (by kernel_rfl) (by kernel_rfl) (fun _ _ _ h => h) (Or.inl ⟨by rfl, fun wx hx => by simp [go_sem]⟩) hS ?_
      simp only [Act.put, List.getElem_toArray, List.getElem_cons_succ, List.getElem_cons_zero, List.setIfInBounds_toArray, List.set_cons_zero, List.set_cons_succ]
      refine wpAnyH_enter 13 (by kernel_rfl) rfl (by rfl) (f := 10) (args := #[.slice ax nx cx, .slice ay ny cy, .bool o, .bool (decide (dr = ds))]) (by simp [go_sem]) (HC5.out _ hS) ?_
      rintro e y1 ⟨rfl, hbq⟩
      replace hS := Over.more hS hbq
      refine ⟨_, rfl, hS, ?_⟩
      clear hbq
      simp only [Act.put, List.getElem_toArray, List.getElem_cons_succ, List.getElem_cons_zero, List.setIfInBounds_toArray, List.set_cons_zero, List.set_cons_succ]
      refine wpAnyH_take (i := 14) (v := .bool false) rfl (by kernel_rfl) (by kernel_rfl) (by kernel_rfl) (fun _ _ _ h => h) (Or.inl ⟨by rfl, fun wx hx => by simp [go_sem]⟩) hS ?_
      simp only [Act.put, List.getElem_toArray, List.getElem_cons_succ, List.getElem_cons_zero, List.setIfInBounds_toArray, List.set_cons_zero, List.set_cons_succ]
      refine wpAnyH_done (by kernel_rfl) ?_ _
      have HI : Hid (C11 w g5 g6 g7 g8 g9 cr cs d0 d1 ca cc y1) := HY.out.next hS
      clear hS HY HC5
      go_upto_region 7 with (first
        | (with_reducible refine wpSeq_loadAt (.tmp 55) g7 0 d0 ?_ ?_ ?_ ?_ ?_ ?_
           · exact HD0.out
           · exact HI.out.x0
           · with_reducible rfl
           · rfl
           · rfl)
        | (with_reducible refine wpSeq_loadAt (.tmp 58) g7 32 d1 ?_ ?_ ?_ ?_ ?_ ?_
           · exact HD1.out
           · exact HI.out.x1
           · with_reducible rfl
           · rfl
           · rfl)
        | (with_reducible refine wpSeq_loadRow 59 (.tmp 8) g8 ca _ ?_ Tryd.underlying59 rfl ?_ ?_ ?_ ?_ ?_
           · exact HI.out.ab
           · exact HIA.out
           · rfl
           · rfl
           · rfl)
        | (with_reducible refine wpSeq_loadRow 59 (.tmp 9) g9 cc _ ?_ Tryd.underlying59 rfl ?_ ?_ ?_ ?_ ?_
           · exact HI.out.bb
           · exact HIC.out
           · rfl
           · rfl
           · rfl)
        | (go_at_call 25; refine (HC6.out _ HI.out.bel).mono ?_; rintro e v2 ⟨vx, vy, o, s, t, rfl, hs, ht, hsl, hrr, hbz⟩
           replace HI : Hid (C11 w g5 g6 g7 g8 g9 cr cs d0 d1 ca cc v2) := HI.out.next hbz
           obtain ⟨ax, nx, cx, hvx⟩ := hs.form
           subst hvx
           obtain ⟨ay, ny, cy, hvy⟩ := ht.form
           subst hvy
           have HRS : Hid (Reads v2 (.slice ax nx cx) s) := hs
           have HRT : Hid (Reads v2 (.slice ay ny cy) t) := ht
           have HSL : Hid (s.length < 140737488355000 ∧ t.length < 140737488355000) := hsl
           have HR0 : Hid (right9 s t o (pairB9 VA VB) = true) := hrr
           clear hbz hs ht hsl hrr))
      by_cases hdd : d0 = d1
      · have hq0 : ∀ wx : World, (Op.equalIn 10000 33 (.agg (cb d0).toArray) (.agg (cb d1).toArray)).run Tryd.prog wx = .ok true wx := fun wx => by rw [hdd]; exact eq_dig_same d1 HD1.out wx
        obtain ⟨sm, HSM⟩ : ∃ q, Hid (q = decide (na = nb ∧ sa = sb ∧ ka = kb)) := ⟨_, rfl⟩
        have HC7 : Hid (∀ W, Below w.heap.size w W → Calls Tryd.prog 26 #[.agg ca.toArray, .agg cc.toArray] W fun e w' => e = .returned (.bool sm) ∧ Below W.heap.size W w') := fun W hh => by rw [HCA.out, HCC.out, HSM.out]; exact sameBinding_any na nb ka kb _ _ sa sb W (HRA.out.below hh) (HRB.out.below hh)
        have HSV : Hid (decide (VA = VB) = sm) := by
          show _ = _
          rw [HVA.out, HVB.out, HSM.out]
          refine decide_eq_decide.2 ((valueB_iff HD0.out HD1.out ⟨HB4.out.1, HSA.out.1⟩ ⟨HB4.out.2.1, HSA.out.2⟩).trans ⟨fun h => h.2, fun h => ⟨hdd, h⟩⟩)
        clear hdd
        go_upto_region 8 with (first
          | (with_reducible refine wpSeq_loadAt (.tmp 65) g7 0 d0 ?_ ?_ ?_ ?_ ?_ ?_
             · exact HD0.out
             · exact HI.out.x0
             · with_reducible rfl
             · rfl
             · rfl)
          | (with_reducible refine wpSeq_loadAt (.tmp 67) g7 32 d1 ?_ ?_ ?_ ?_ ?_ ?_
             · exact HD1.out
             · exact HI.out.x1
             · with_reducible rfl
             · rfl
             · rfl)
          | (with_reducible refine wpSeq_loadRow 59 (.tmp 8) g8 ca _ ?_ Tryd.underlying59 rfl ?_ ?_ ?_ ?_ ?_
             · exact HI.out.ab
             · exact HIA.out
             · rfl
             · rfl
             · rfl)
          | (with_reducible refine wpSeq_loadRow 59 (.tmp 9) g9 cc _ ?_ Tryd.underlying59 rfl ?_ ?_ ?_ ?_ ?_
             · exact HI.out.bb
             · exact HIC.out
             · rfl
             · rfl
             · rfl)
          | (go_at_call 26; refine (HC7.out _ HI.out.bel).mono ?_; rintro e v3 ⟨rfl, hbz⟩
             replace HI : Hid (C11 w g5 g6 g7 g8 g9 cr cs d0 d1 ca cc v3) := HI.out.next hbz
             replace HRS : Hid (Reads v3 (.slice ax nx cx) s) := HRS.out.below hbz
             replace HRT : Hid (Reads v3 (.slice ay ny cy) t) := HRT.out.below hbz
             clear hbz HC7))
        clear hq0
        cases sm with
        | true =>
          have HRR : Hid (right9 s t o false = true) := by
            have h := HR0.out
            rw [show pairB9 VA VB = false from by
              unfold pairB9
              rw [decide_not, HSV.out]
              simp] at h
            exact h
          clear HR0
          have HY : Hid (C11 w g5 g6 g7 g8 g9 cr cs d0 d1 ca cc (World.drew v3)) := HI.out.next (Below.refl _ _).drew
          clear HI
          refine wp_region_held_drew (S := Over (World.drew v3)) (by kernel_rfl) (Over.refl _) ?_
          intro hS
          change wpAnyH _ _ _ _ _ _ _ _ (World.drew v3)
          have HC5 : Hid (∀ W', Over (World.drew v3) W' → Calls Tryd.prog 10 #[.slice ax nx cx, .slice ay ny cy, .bool o, .bool false] W' fun e w' => e = .returned (.bool true) ∧ Below W'.heap.size W' w') := fun W' hh => by
            have h := right9_any _ _ s t o false W' (HRS.out.below ((Below.refl _ _).drew.trans hh)) (HRT.out.below ((Below.refl _ _).drew.trans hh)) HSL.out.1 HSL.out.2
            rw [HRR.out] at h
            exact h
          clear HRS HRT HRR HSL
          generalize World.drew v3 = y0 at *
          refine wpAnyH_take (i := 0) (v := .slice ax nx cx) rfl (by kernel_rfl) (by kernel_rfl) (by kernel_rfl) (fun _ _ _ h => h) (Or.inl ⟨by rfl, fun wx hx => by simp [go_sem]⟩) hS ?_
          simp only [Act.put, List.getElem_toArray, List.getElem_cons_zero, List.setIfInBounds_toArray, List.set_cons_zero, List.set_cons_succ]
          refine wpAnyH_take (i := 1) (v := .slice ay ny cy) rfl (by kernel_rfl) (by kernel_rfl) (by kernel_rfl) (fun _ _ _ h => h) (Or.inl ⟨by rfl, fun wx hx => by simp [go_sem]⟩) hS ?_
          simp only [Act.put, List.getElem_toArray, List.getElem_cons_succ, List.getElem_cons_zero, List.setIfInBounds_toArray, List.set_cons_zero, List.set_cons_succ]
          refine wpAnyH_take (i := 2) (v := .bool o) rfl (by kernel_rfl) (by kernel_rfl) (by kernel_rfl) (fun _ _ _ h => h) (Or.inl ⟨by rfl, fun wx hx => by simp [go_sem]⟩) hS ?_
          simp only [Act.put, List.getElem_toArray, List.getElem_cons_succ, List.getElem_cons_zero, List.setIfInBounds_toArray, List.set_cons_zero, List.set_cons_succ]
          refine wpAnyH_take (i := 3) (v := .bool true) rfl (by kernel_rfl) (by kernel_rfl) (by kernel_rfl) (fun _ _ _ h => h) (Or.inl ⟨by rfl, fun wx hx => by simp [go_sem]⟩) hS ?_
          simp only [Act.put, List.getElem_toArray, List.getElem_cons_succ, List.getElem_cons_zero, List.setIfInBounds_toArray, List.set_cons_zero, List.set_cons_succ]
          refine wpAnyH_take (i := 4) (v := .bool false) rfl (by kernel_rfl) (by kernel_rfl) (by kernel_rfl) (fun _ _ _ h => h) (Or.inl ⟨by rfl, fun wx hx => by simp [go_sem]⟩) hS ?_
          simp only [Act.put, List.getElem_toArray, List.getElem_cons_succ, List.getElem_cons_zero, List.setIfInBounds_toArray, List.set_cons_zero, List.set_cons_succ]
          refine wpAnyH_take (i := 5) (v := .bool false) rfl (by kernel_rfl) (by kernel_rfl) (by kernel_rfl) (fun _ _ _ h => h) (Or.inl ⟨by rfl, fun wx hx => by simp [go_sem]⟩) hS ?_
          simp only [Act.put, List.getElem_toArray, List.getElem_cons_succ, List.getElem_cons_zero, List.setIfInBounds_toArray, List.set_cons_zero, List.set_cons_succ]
          refine wpAnyH_take (i := 6) (v := undef) rfl (by kernel_rfl) (by kernel_rfl) (by kernel_rfl) (fun _ _ _ h => h) (Or.inr ⟨by rfl, rfl⟩) hS ?_
          simp only [Act.put, List.getElem_toArray, List.getElem_cons_succ, List.getElem_cons_zero, List.setIfInBounds_toArray, List.set_cons_zero, List.set_cons_succ]
          refine wpAnyH_take (i := 7) (v := undef) rfl (by kernel_rfl) (by kernel_rfl) (by kernel_rfl) (fun _ _ _ h => h) (Or.inr ⟨by rfl, rfl⟩) hS ?_
          simp only [Act.put, List.getElem_toArray, List.getElem_cons_succ, List.getElem_cons_zero, List.setIfInBounds_toArray, List.set_cons_zero, List.set_cons_succ]
          refine wpAnyH_take (i := 8) (v := undef) rfl (by kernel_rfl) (by kernel_rfl) (by kernel_rfl) (fun _ _ _ h => h) (Or.inr ⟨by rfl, rfl⟩) hS ?_
          simp only [Act.put, List.getElem_toArray, List.getElem_cons_succ, List.getElem_cons_zero, List.setIfInBounds_toArray, List.set_cons_zero, List.set_cons_succ]
          refine wpAnyH_take (i := 9) (v := undef) rfl (by kernel_rfl) (by kernel_rfl) (by kernel_rfl) (fun _ _ _ h => h) (Or.inr ⟨by rfl, rfl⟩) hS ?_
          simp only [Act.put, List.getElem_toArray, List.getElem_cons_succ, List.getElem_cons_zero, List.setIfInBounds_toArray, List.set_cons_zero, List.set_cons_succ]
          refine wpAnyH_take (i := 10) (v := undef) rfl (by kernel_rfl) (by kernel_rfl) (by kernel_rfl) (fun _ _ _ h => h) (Or.inr ⟨by rfl, rfl⟩) hS ?_
          simp only [Act.put, List.getElem_toArray, List.getElem_cons_succ, List.getElem_cons_zero, List.setIfInBounds_toArray, List.set_cons_zero, List.set_cons_succ]
          refine wpAnyH_take (i := 11) (v := undef) rfl (by kernel_rfl) (by kernel_rfl) (by kernel_rfl) (fun _ _ _ h => h) (Or.inr ⟨by rfl, rfl⟩) hS ?_
          simp only [Act.put, List.getElem_toArray, List.getElem_cons_succ, List.getElem_cons_zero, List.setIfInBounds_toArray, List.set_cons_zero, List.set_cons_succ]
          refine wpAnyH_take (i := 12) (v := undef) rfl (by kernel_rfl) (by kernel_rfl) (by kernel_rfl) (fun _ _ _ h => h) (Or.inr ⟨by rfl, rfl⟩) hS ?_
          simp only [Act.put, List.getElem_toArray, List.getElem_cons_succ, List.getElem_cons_zero, List.setIfInBounds_toArray, List.set_cons_zero, List.set_cons_succ]
          refine wpAnyH_take (i := 13) (v := undef) rfl (by kernel_rfl) (by kernel_rfl) (by kernel_rfl) (fun _ _ _ h => h) (Or.inr ⟨by rfl, rfl⟩) hS ?_
          simp only [Act.put, List.getElem_toArray, List.getElem_cons_succ, List.getElem_cons_zero, List.setIfInBounds_toArray, List.set_cons_zero, List.set_cons_succ]
          refine wpAnyH_take (i := 14) (v := undef) rfl (by kernel_rfl) (by kernel_rfl) (by kernel_rfl) (fun _ _ _ h => h) (Or.inr ⟨by rfl, rfl⟩) hS ?_
          simp only [Act.put, List.getElem_toArray, List.getElem_cons_succ, List.getElem_cons_zero, List.setIfInBounds_toArray, List.set_cons_zero, List.set_cons_succ]
          refine wpAnyH_take (i := 15) (v := .bool false) rfl (by kernel_rfl) (by kernel_rfl) (by kernel_rfl) (fun _ _ _ h => h) (Or.inl ⟨by rfl, fun wx hx => by simp [go_sem]⟩) hS ?_
          simp only [Act.put, List.getElem_toArray, List.getElem_cons_succ, List.getElem_cons_zero, List.setIfInBounds_toArray, List.set_cons_zero, List.set_cons_succ]
          refine wpAnyH_enter 16 (by kernel_rfl) rfl (by rfl) (f := 10) (args := #[.slice ax nx cx, .slice ay ny cy, .bool o, .bool false]) (by simp [go_sem]) (HC5.out _ hS) ?_
          rintro e zc ⟨rfl, hbq⟩
          replace hS := Over.more hS hbq
          refine ⟨_, rfl, hS, ?_⟩
          clear hbq
          simp only [Act.put, List.getElem_toArray, List.getElem_cons_succ, List.getElem_cons_zero, List.setIfInBounds_toArray, List.set_cons_zero, List.set_cons_succ]
          refine wpAnyH_take (i := 17) (v := .bool true) rfl (by kernel_rfl) (by kernel_rfl) (by kernel_rfl) (fun _ _ _ h => h) (Or.inl ⟨by rfl, fun wx hx => by simp [go_sem]⟩) hS ?_
          simp only [Act.put, List.getElem_toArray, List.getElem_cons_succ, List.getElem_cons_zero, List.setIfInBounds_toArray, List.set_cons_zero, List.set_cons_succ]
          refine wpAnyH_enter 18 (by kernel_rfl) rfl (by rfl) (f := 13) (args := #[]) (by simp [go_sem]) (HWK.out _ (HY.out.next hS).bel) ?_
          rintro e zd ⟨rfl, hbq⟩
          replace hS := Over.more hS hbq
          refine ⟨_, rfl, hS, ?_⟩
          clear hbq
          simp only [Act.put, List.getElem_toArray, List.getElem_cons_succ, List.getElem_cons_zero, List.setIfInBounds_toArray, List.set_cons_zero, List.set_cons_succ]
          refine wpAnyH_take (i := 19) (v := .bool true) rfl (by kernel_rfl) (by kernel_rfl) (by kernel_rfl) (fun _ _ _ h => h) (Or.inl ⟨by rfl, fun wx hx => by simp [go_sem]⟩) hS ?_
          simp only [Act.put, List.getElem_toArray, List.getElem_cons_succ, List.getElem_cons_zero, List.setIfInBounds_toArray, List.set_cons_zero, List.set_cons_succ]
          refine wpAnyH_take (i := 20) (v := .bool true) rfl (by kernel_rfl) (by kernel_rfl) (by kernel_rfl) (fun _ _ _ h => h) (Or.inl ⟨by rfl, fun wx hx => by simp [go_sem]⟩) hS ?_
          simp only [Act.put, List.getElem_toArray, List.getElem_cons_succ, List.getElem_cons_zero, List.setIfInBounds_toArray, List.set_cons_zero, List.set_cons_succ]
          refine wpAnyH_done (by kernel_rfl) ?_ _
          have HBW : Hid (Below w.heap.size w zd) := (HY.out.next hS).bel
          clear hS HY HC5
          go_wp2
          go_ret
          exact ⟨rfl, HBW.out⟩
        | false =>
          have HRR : Hid (right9 s t o (decide (dva = dvb)) = true) := by
            have h := HR0.out
            rw [show pairB9 VA VB = (decide (dva = dvb)) from by
              unfold pairB9
              rw [decide_not, HSV.out, ← HDVA.out, ← HDVB.out]
              simp] at h
            exact h
          clear HR0
          have HY : Hid (C11 w g5 g6 g7 g8 g9 cr cs d0 d1 ca cc (World.drew v3)) := HI.out.next (Below.refl _ _).drew
          clear HI
          refine wp_region_held_drew (S := Over (World.drew v3)) (by kernel_rfl) (Over.refl _) ?_
          intro hS
          change wpAnyH _ _ _ _ _ _ _ _ (World.drew v3)
          have HC5 : Hid (∀ W', Over (World.drew v3) W' → Calls Tryd.prog 10 #[.slice ax nx cx, .slice ay ny cy, .bool o, .bool (decide (dva = dvb))] W' fun e w' => e = .returned (.bool true) ∧ Below W'.heap.size W' w') := fun W' hh => by
            have h := right9_any _ _ s t o (decide (dva = dvb)) W' (HRS.out.below ((Below.refl _ _).drew.trans hh)) (HRT.out.below ((Below.refl _ _).drew.trans hh)) HSL.out.1 HSL.out.2
            rw [HRR.out] at h
            exact h
          clear HRS HRT HRR HSL
          generalize World.drew v3 = y0 at *
          refine wpAnyH_take (i := 0) (v := .slice ax nx cx) rfl (by kernel_rfl) (by kernel_rfl) (by kernel_rfl) (fun _ _ _ h => h) (Or.inl ⟨by rfl, fun wx hx => by simp [go_sem]⟩) hS ?_
          simp only [Act.put, List.getElem_toArray, List.getElem_cons_zero, List.setIfInBounds_toArray, List.set_cons_zero, List.set_cons_succ]
          refine wpAnyH_take (i := 1) (v := .slice ay ny cy) rfl (by kernel_rfl) (by kernel_rfl) (by kernel_rfl) (fun _ _ _ h => h) (Or.inl ⟨by rfl, fun wx hx => by simp [go_sem]⟩) hS ?_
          simp only [Act.put, List.getElem_toArray, List.getElem_cons_succ, List.getElem_cons_zero, List.setIfInBounds_toArray, List.set_cons_zero, List.set_cons_succ]
          refine wpAnyH_take (i := 2) (v := .bool o) rfl (by kernel_rfl) (by kernel_rfl) (by kernel_rfl) (fun _ _ _ h => h) (Or.inl ⟨by rfl, fun wx hx => by simp [go_sem]⟩) hS ?_
          simp only [Act.put, List.getElem_toArray, List.getElem_cons_succ, List.getElem_cons_zero, List.setIfInBounds_toArray, List.set_cons_zero, List.set_cons_succ]
          refine wpAnyH_take (i := 3) (v := .bool false) rfl (by kernel_rfl) (by kernel_rfl) (by kernel_rfl) (fun _ _ _ h => h) (Or.inl ⟨by rfl, fun wx hx => by simp [go_sem]⟩) hS ?_
          simp only [Act.put, List.getElem_toArray, List.getElem_cons_succ, List.getElem_cons_zero, List.setIfInBounds_toArray, List.set_cons_zero, List.set_cons_succ]
          refine wpAnyH_take (i := 4) (v := .bool true) rfl (by kernel_rfl) (by kernel_rfl) (by kernel_rfl) (fun _ _ _ h => h) (Or.inl ⟨by rfl, fun wx hx => by simp [go_sem]⟩) hS ?_
          simp only [Act.put, List.getElem_toArray, List.getElem_cons_succ, List.getElem_cons_zero, List.setIfInBounds_toArray, List.set_cons_zero, List.set_cons_succ]
          refine wpAnyH_take (i := 5) (v := .bool true) rfl (by kernel_rfl) (by kernel_rfl) (by kernel_rfl) (fun _ _ _ h => h) (Or.inl ⟨by rfl, fun wx hx => by simp [go_sem]⟩) hS ?_
          simp only [Act.put, List.getElem_toArray, List.getElem_cons_succ, List.getElem_cons_zero, List.setIfInBounds_toArray, List.set_cons_zero, List.set_cons_succ]
          refine wpAnyH_take (i := 6) (v := .pointer (some ⟨g7, 0, none⟩)) rfl (by kernel_rfl) (by kernel_rfl) (by kernel_rfl) (fun _ _ _ h => h) (Or.inl ⟨by rfl, fun wx hx => by simp [go_sem]⟩) hS ?_
          simp only [Act.put, List.getElem_toArray, List.getElem_cons_succ, List.getElem_cons_zero, List.setIfInBounds_toArray, List.set_cons_zero, List.set_cons_succ]
          refine wpAnyH_take (i := 7) (v := .agg (cb d0).toArray) rfl (by kernel_rfl) (by kernel_rfl) (by kernel_rfl) (fun _ _ _ h => h) (Or.inl ⟨by rfl, fun wx hx => by exact load_run 33 _ rfl g7 0 rfl (cb d0) _ (HY.out.next hx).x0 Tryd.underlying33 rfl (by rw [cb_len, HD0.out]; exact info_digest)⟩) hS ?_
          simp only [Act.put, List.getElem_toArray, List.getElem_cons_succ, List.getElem_cons_zero, List.setIfInBounds_toArray, List.set_cons_zero, List.set_cons_succ]
          refine wpAnyH_take (i := 8) (v := .agg ca.toArray) rfl (by kernel_rfl) (by kernel_rfl) (by kernel_rfl) (fun _ _ _ h => h) (Or.inl ⟨by rfl, fun wx hx => by exact load_run 59 _ rfl g8 0 rfl ca _ (HY.out.next hx).ab.range Tryd.underlying59 rfl HIA.out⟩) hS ?_
          simp only [Act.put, List.getElem_toArray, List.getElem_cons_succ, List.getElem_cons_zero, List.setIfInBounds_toArray, List.set_cons_zero, List.set_cons_succ]
          refine wpAnyH_take (i := 10) (v := .pointer (some ⟨g7, 32, none⟩)) rfl (by kernel_rfl) (by kernel_rfl) (by kernel_rfl) (fun _ _ _ h => h) (Or.inl ⟨by rfl, fun wx hx => by simp [go_sem]⟩) hS ?_
          simp only [Act.put, List.getElem_toArray, List.getElem_cons_succ, List.getElem_cons_zero, List.setIfInBounds_toArray, List.set_cons_zero, List.set_cons_succ]
          refine wpAnyH_take (i := 11) (v := .agg (cb d1).toArray) rfl (by kernel_rfl) (by kernel_rfl) (by kernel_rfl) (fun _ _ _ h => h) (Or.inl ⟨by rfl, fun wx hx => by exact load_run 33 _ rfl g7 32 rfl (cb d1) _ (HY.out.next hx).x1 Tryd.underlying33 rfl (by rw [cb_len, HD1.out]; exact info_digest)⟩) hS ?_
          simp only [Act.put, List.getElem_toArray, List.getElem_cons_succ, List.getElem_cons_zero, List.setIfInBounds_toArray, List.set_cons_zero, List.set_cons_succ]
          refine wpAnyH_take (i := 12) (v := .agg cc.toArray) rfl (by kernel_rfl) (by kernel_rfl) (by kernel_rfl) (fun _ _ _ h => h) (Or.inl ⟨by rfl, fun wx hx => by exact load_run 59 _ rfl g9 0 rfl cc _ (HY.out.next hx).bb.range Tryd.underlying59 rfl HIC.out⟩) hS ?_
          simp only [Act.put, List.getElem_toArray, List.getElem_cons_succ, List.getElem_cons_zero, List.setIfInBounds_toArray, List.set_cons_zero, List.set_cons_succ]
          refine wpAnyH_enter 9 (by kernel_rfl) rfl (by rfl) (f := 27) (args := #[.agg (cb d0).toArray, .agg ca.toArray]) (by simp [go_sem]) (HC8.out _ (HY.out.next hS).bel) ?_
          rintro e za ⟨rfl, hbq⟩
          replace hS := Over.more hS hbq
          refine ⟨_, rfl, hS, ?_⟩
          clear hbq
          simp only [Act.put, List.getElem_toArray, List.getElem_cons_succ, List.getElem_cons_zero, List.setIfInBounds_toArray, List.set_cons_zero, List.set_cons_succ]
          refine wpAnyH_enter 13 (by kernel_rfl) rfl (by rfl) (f := 27) (args := #[.agg (cb d1).toArray, .agg cc.toArray]) (by simp [go_sem]) (HC9.out _ (HY.out.next hS).bel) ?_
          rintro e zb ⟨rfl, hbq⟩
          replace hS := Over.more hS hbq
          refine ⟨_, rfl, hS, ?_⟩
          clear hbq
          simp only [Act.put, List.getElem_toArray, List.getElem_cons_succ, List.getElem_cons_zero, List.setIfInBounds_toArray, List.set_cons_zero, List.set_cons_succ]
          refine wpAnyH_take (i := 14) (v := .bool (decide (dva = dvb))) rfl (by kernel_rfl) (by kernel_rfl) (by kernel_rfl) (fun _ _ _ h => h) (Or.inl ⟨by rfl, fun wx hx => by (have hq := hev wx; simp [go_sem, hq])⟩) hS ?_
          simp only [Act.put, List.getElem_toArray, List.getElem_cons_succ, List.getElem_cons_zero, List.setIfInBounds_toArray, List.set_cons_zero, List.set_cons_succ]
          refine wpAnyH_take (i := 15) (v := .bool (decide (dva = dvb))) rfl (by kernel_rfl) (by kernel_rfl) (by kernel_rfl) (fun _ _ _ h => h) (Or.inl ⟨by rfl, fun wx hx => by simp [go_sem]⟩) hS ?_
          simp only [Act.put, List.getElem_toArray, List.getElem_cons_succ, List.getElem_cons_zero, List.setIfInBounds_toArray, List.set_cons_zero, List.set_cons_succ]
          refine wpAnyH_enter 16 (by kernel_rfl) rfl (by rfl) (f := 10) (args := #[.slice ax nx cx, .slice ay ny cy, .bool o, .bool (decide (dva = dvb))]) (by simp [go_sem]) (HC5.out _ hS) ?_
          rintro e zc ⟨rfl, hbq⟩
          replace hS := Over.more hS hbq
          refine ⟨_, rfl, hS, ?_⟩
          clear hbq
          simp only [Act.put, List.getElem_toArray, List.getElem_cons_succ, List.getElem_cons_zero, List.setIfInBounds_toArray, List.set_cons_zero, List.set_cons_succ]
          refine wpAnyH_take (i := 17) (v := .bool true) rfl (by kernel_rfl) (by kernel_rfl) (by kernel_rfl) (fun _ _ _ h => h) (Or.inl ⟨by rfl, fun wx hx => by simp [go_sem]⟩) hS ?_
          simp only [Act.put, List.getElem_toArray, List.getElem_cons_succ, List.getElem_cons_zero, List.setIfInBounds_toArray, List.set_cons_zero, List.set_cons_succ]
          refine wpAnyH_enter 18 (by kernel_rfl) rfl (by rfl) (f := 13) (args := #[]) (by simp [go_sem]) (HWK.out _ (HY.out.next hS).bel) ?_
          rintro e zd ⟨rfl, hbq⟩
          replace hS := Over.more hS hbq
          refine ⟨_, rfl, hS, ?_⟩
          clear hbq
          simp only [Act.put, List.getElem_toArray, List.getElem_cons_succ, List.getElem_cons_zero, List.setIfInBounds_toArray, List.set_cons_zero, List.set_cons_succ]
          refine wpAnyH_take (i := 19) (v := .bool true) rfl (by kernel_rfl) (by kernel_rfl) (by kernel_rfl) (fun _ _ _ h => h) (Or.inl ⟨by rfl, fun wx hx => by simp [go_sem]⟩) hS ?_
          simp only [Act.put, List.getElem_toArray, List.getElem_cons_succ, List.getElem_cons_zero, List.setIfInBounds_toArray, List.set_cons_zero, List.set_cons_succ]
          refine wpAnyH_take (i := 20) (v := .bool true) rfl (by kernel_rfl) (by kernel_rfl) (by kernel_rfl) (fun _ _ _ h => h) (Or.inl ⟨by rfl, fun wx hx => by simp [go_sem]⟩) hS ?_
          simp only [Act.put, List.getElem_toArray, List.getElem_cons_succ, List.getElem_cons_zero, List.setIfInBounds_toArray, List.set_cons_zero, List.set_cons_succ]
          refine wpAnyH_done (by kernel_rfl) ?_ _
          have HBW : Hid (Below w.heap.size w zd) := (HY.out.next hS).bel
          clear hS HY HC5
          go_wp2
          go_ret
          exact ⟨rfl, HBW.out⟩
      · have hq0 : ∀ wx : World, (Op.equalIn 10000 33 (.agg (cb d0).toArray) (.agg (cb d1).toArray)).run Tryd.prog wx = .ok false wx := fun wx => by have h := eq_dig d0 d1 HD0.out HD1.out wx; rw [decide_eq_false hdd] at h; exact h
        have HSV : Hid (decide (VA = VB) = false) := by
          show _ = _
          rw [HVA.out, HVB.out, decide_eq_false_iff_not]
          exact fun h => hdd ((valueB_iff HD0.out HD1.out ⟨HB4.out.1, HSA.out.1⟩ ⟨HB4.out.2.1, HSA.out.2⟩).1 h).1
        clear hdd
        go_upto_region 8 with (first
          | (with_reducible refine wpSeq_loadAt (.tmp 65) g7 0 d0 ?_ ?_ ?_ ?_ ?_ ?_
             · exact HD0.out
             · exact HI.out.x0
             · with_reducible rfl
             · rfl
             · rfl)
          | (with_reducible refine wpSeq_loadAt (.tmp 67) g7 32 d1 ?_ ?_ ?_ ?_ ?_ ?_
             · exact HD1.out
             · exact HI.out.x1
             · with_reducible rfl
             · rfl
             · rfl))
        clear hq0
        have HRR : Hid (right9 s t o (decide (dva = dvb)) = true) := by
          have h := HR0.out
          rw [show pairB9 VA VB = (decide (dva = dvb)) from by
            unfold pairB9
            rw [decide_not, HSV.out, ← HDVA.out, ← HDVB.out]
            simp] at h
          exact h
        clear HR0
        have HY : Hid (C11 w g5 g6 g7 g8 g9 cr cs d0 d1 ca cc (World.drew v2)) := HI.out.next (Below.refl _ _).drew
        clear HI
        refine wp_region_held_drew (S := Over (World.drew v2)) (by kernel_rfl) (Over.refl _) ?_
        intro hS
        change wpAnyH _ _ _ _ _ _ _ _ (World.drew v2)
        have HC5 : Hid (∀ W', Over (World.drew v2) W' → Calls Tryd.prog 10 #[.slice ax nx cx, .slice ay ny cy, .bool o, .bool (decide (dva = dvb))] W' fun e w' => e = .returned (.bool true) ∧ Below W'.heap.size W' w') := fun W' hh => by
          have h := right9_any _ _ s t o (decide (dva = dvb)) W' (HRS.out.below ((Below.refl _ _).drew.trans hh)) (HRT.out.below ((Below.refl _ _).drew.trans hh)) HSL.out.1 HSL.out.2
          rw [HRR.out] at h
          exact h
        clear HRS HRT HRR HSL
        generalize World.drew v2 = y0 at *
        refine wpAnyH_take (i := 0) (v := .slice ax nx cx) rfl (by kernel_rfl) (by kernel_rfl) (by kernel_rfl) (fun _ _ _ h => h) (Or.inl ⟨by rfl, fun wx hx => by simp [go_sem]⟩) hS ?_
        simp only [Act.put, List.getElem_toArray, List.getElem_cons_zero, List.setIfInBounds_toArray, List.set_cons_zero, List.set_cons_succ]
        refine wpAnyH_take (i := 1) (v := .slice ay ny cy) rfl (by kernel_rfl) (by kernel_rfl) (by kernel_rfl) (fun _ _ _ h => h) (Or.inl ⟨by rfl, fun wx hx => by simp [go_sem]⟩) hS ?_
        simp only [Act.put, List.getElem_toArray, List.getElem_cons_succ, List.getElem_cons_zero, List.setIfInBounds_toArray, List.set_cons_zero, List.set_cons_succ]
        refine wpAnyH_take (i := 2) (v := .bool o) rfl (by kernel_rfl) (by kernel_rfl) (by kernel_rfl) (fun _ _ _ h => h) (Or.inl ⟨by rfl, fun wx hx => by simp [go_sem]⟩) hS ?_
        simp only [Act.put, List.getElem_toArray, List.getElem_cons_succ, List.getElem_cons_zero, List.setIfInBounds_toArray, List.set_cons_zero, List.set_cons_succ]
        refine wpAnyH_take (i := 3) (v := .bool false) rfl (by kernel_rfl) (by kernel_rfl) (by kernel_rfl) (fun _ _ _ h => h) (Or.inl ⟨by rfl, fun wx hx => by simp [go_sem]⟩) hS ?_
        simp only [Act.put, List.getElem_toArray, List.getElem_cons_succ, List.getElem_cons_zero, List.setIfInBounds_toArray, List.set_cons_zero, List.set_cons_succ]
        refine wpAnyH_take (i := 4) (v := .bool true) rfl (by kernel_rfl) (by kernel_rfl) (by kernel_rfl) (fun _ _ _ h => h) (Or.inl ⟨by rfl, fun wx hx => by simp [go_sem]⟩) hS ?_
        simp only [Act.put, List.getElem_toArray, List.getElem_cons_succ, List.getElem_cons_zero, List.setIfInBounds_toArray, List.set_cons_zero, List.set_cons_succ]
        refine wpAnyH_take (i := 5) (v := .bool true) rfl (by kernel_rfl) (by kernel_rfl) (by kernel_rfl) (fun _ _ _ h => h) (Or.inl ⟨by rfl, fun wx hx => by simp [go_sem]⟩) hS ?_
        simp only [Act.put, List.getElem_toArray, List.getElem_cons_succ, List.getElem_cons_zero, List.setIfInBounds_toArray, List.set_cons_zero, List.set_cons_succ]
        refine wpAnyH_take (i := 6) (v := .pointer (some ⟨g7, 0, none⟩)) rfl (by kernel_rfl) (by kernel_rfl) (by kernel_rfl) (fun _ _ _ h => h) (Or.inl ⟨by rfl, fun wx hx => by simp [go_sem]⟩) hS ?_
        simp only [Act.put, List.getElem_toArray, List.getElem_cons_succ, List.getElem_cons_zero, List.setIfInBounds_toArray, List.set_cons_zero, List.set_cons_succ]
        refine wpAnyH_take (i := 7) (v := .agg (cb d0).toArray) rfl (by kernel_rfl) (by kernel_rfl) (by kernel_rfl) (fun _ _ _ h => h) (Or.inl ⟨by rfl, fun wx hx => by exact load_run 33 _ rfl g7 0 rfl (cb d0) _ (HY.out.next hx).x0 Tryd.underlying33 rfl (by rw [cb_len, HD0.out]; exact info_digest)⟩) hS ?_
        simp only [Act.put, List.getElem_toArray, List.getElem_cons_succ, List.getElem_cons_zero, List.setIfInBounds_toArray, List.set_cons_zero, List.set_cons_succ]
        refine wpAnyH_take (i := 8) (v := .agg ca.toArray) rfl (by kernel_rfl) (by kernel_rfl) (by kernel_rfl) (fun _ _ _ h => h) (Or.inl ⟨by rfl, fun wx hx => by exact load_run 59 _ rfl g8 0 rfl ca _ (HY.out.next hx).ab.range Tryd.underlying59 rfl HIA.out⟩) hS ?_
        simp only [Act.put, List.getElem_toArray, List.getElem_cons_succ, List.getElem_cons_zero, List.setIfInBounds_toArray, List.set_cons_zero, List.set_cons_succ]
        refine wpAnyH_take (i := 10) (v := .pointer (some ⟨g7, 32, none⟩)) rfl (by kernel_rfl) (by kernel_rfl) (by kernel_rfl) (fun _ _ _ h => h) (Or.inl ⟨by rfl, fun wx hx => by simp [go_sem]⟩) hS ?_
        simp only [Act.put, List.getElem_toArray, List.getElem_cons_succ, List.getElem_cons_zero, List.setIfInBounds_toArray, List.set_cons_zero, List.set_cons_succ]
        refine wpAnyH_take (i := 11) (v := .agg (cb d1).toArray) rfl (by kernel_rfl) (by kernel_rfl) (by kernel_rfl) (fun _ _ _ h => h) (Or.inl ⟨by rfl, fun wx hx => by exact load_run 33 _ rfl g7 32 rfl (cb d1) _ (HY.out.next hx).x1 Tryd.underlying33 rfl (by rw [cb_len, HD1.out]; exact info_digest)⟩) hS ?_
        simp only [Act.put, List.getElem_toArray, List.getElem_cons_succ, List.getElem_cons_zero, List.setIfInBounds_toArray, List.set_cons_zero, List.set_cons_succ]
        refine wpAnyH_take (i := 12) (v := .agg cc.toArray) rfl (by kernel_rfl) (by kernel_rfl) (by kernel_rfl) (fun _ _ _ h => h) (Or.inl ⟨by rfl, fun wx hx => by exact load_run 59 _ rfl g9 0 rfl cc _ (HY.out.next hx).bb.range Tryd.underlying59 rfl HIC.out⟩) hS ?_
        simp only [Act.put, List.getElem_toArray, List.getElem_cons_succ, List.getElem_cons_zero, List.setIfInBounds_toArray, List.set_cons_zero, List.set_cons_succ]
        refine wpAnyH_enter 9 (by kernel_rfl) rfl (by rfl) (f := 27) (args := #[.agg (cb d0).toArray, .agg ca.toArray]) (by simp [go_sem]) (HC8.out _ (HY.out.next hS).bel) ?_
        rintro e za ⟨rfl, hbq⟩
        replace hS := Over.more hS hbq
        refine ⟨_, rfl, hS, ?_⟩
        clear hbq
        simp only [Act.put, List.getElem_toArray, List.getElem_cons_succ, List.getElem_cons_zero, List.setIfInBounds_toArray, List.set_cons_zero, List.set_cons_succ]
        refine wpAnyH_enter 13 (by kernel_rfl) rfl (by rfl) (f := 27) (args := #[.agg (cb d1).toArray, .agg cc.toArray]) (by simp [go_sem]) (HC9.out _ (HY.out.next hS).bel) ?_
        rintro e zb ⟨rfl, hbq⟩
        replace hS := Over.more hS hbq
        refine ⟨_, rfl, hS, ?_⟩
        clear hbq
        simp only [Act.put, List.getElem_toArray, List.getElem_cons_succ, List.getElem_cons_zero, List.setIfInBounds_toArray, List.set_cons_zero, List.set_cons_succ]
        refine wpAnyH_take (i := 14) (v := .bool (decide (dva = dvb))) rfl (by kernel_rfl) (by kernel_rfl) (by kernel_rfl) (fun _ _ _ h => h) (Or.inl ⟨by rfl, fun wx hx => by (have hq := hev wx; simp [go_sem, hq])⟩) hS ?_
        simp only [Act.put, List.getElem_toArray, List.getElem_cons_succ, List.getElem_cons_zero, List.setIfInBounds_toArray, List.set_cons_zero, List.set_cons_succ]
        refine wpAnyH_take (i := 15) (v := .bool (decide (dva = dvb))) rfl (by kernel_rfl) (by kernel_rfl) (by kernel_rfl) (fun _ _ _ h => h) (Or.inl ⟨by rfl, fun wx hx => by simp [go_sem]⟩) hS ?_
        simp only [Act.put, List.getElem_toArray, List.getElem_cons_succ, List.getElem_cons_zero, List.setIfInBounds_toArray, List.set_cons_zero, List.set_cons_succ]
        refine wpAnyH_enter 16 (by kernel_rfl) rfl (by rfl) (f := 10) (args := #[.slice ax nx cx, .slice ay ny cy, .bool o, .bool (decide (dva = dvb))]) (by simp [go_sem]) (HC5.out _ hS) ?_
        rintro e zc ⟨rfl, hbq⟩
        replace hS := Over.more hS hbq
        refine ⟨_, rfl, hS, ?_⟩
        clear hbq
        simp only [Act.put, List.getElem_toArray, List.getElem_cons_succ, List.getElem_cons_zero, List.setIfInBounds_toArray, List.set_cons_zero, List.set_cons_succ]
        refine wpAnyH_take (i := 17) (v := .bool true) rfl (by kernel_rfl) (by kernel_rfl) (by kernel_rfl) (fun _ _ _ h => h) (Or.inl ⟨by rfl, fun wx hx => by simp [go_sem]⟩) hS ?_
        simp only [Act.put, List.getElem_toArray, List.getElem_cons_succ, List.getElem_cons_zero, List.setIfInBounds_toArray, List.set_cons_zero, List.set_cons_succ]
        refine wpAnyH_enter 18 (by kernel_rfl) rfl (by rfl) (f := 13) (args := #[]) (by simp [go_sem]) (HWK.out _ (HY.out.next hS).bel) ?_
        rintro e zd ⟨rfl, hbq⟩
        replace hS := Over.more hS hbq
        refine ⟨_, rfl, hS, ?_⟩
        clear hbq
        simp only [Act.put, List.getElem_toArray, List.getElem_cons_succ, List.getElem_cons_zero, List.setIfInBounds_toArray, List.set_cons_zero, List.set_cons_succ]
        refine wpAnyH_take (i := 19) (v := .bool true) rfl (by kernel_rfl) (by kernel_rfl) (by kernel_rfl) (fun _ _ _ h => h) (Or.inl ⟨by rfl, fun wx hx => by simp [go_sem]⟩) hS ?_
        simp only [Act.put, List.getElem_toArray, List.getElem_cons_succ, List.getElem_cons_zero, List.setIfInBounds_toArray, List.set_cons_zero, List.set_cons_succ]
        refine wpAnyH_take (i := 20) (v := .bool true) rfl (by kernel_rfl) (by kernel_rfl) (by kernel_rfl) (fun _ _ _ h => h) (Or.inl ⟨by rfl, fun wx hx => by simp [go_sem]⟩) hS ?_
        simp only [Act.put, List.getElem_toArray, List.getElem_cons_succ, List.getElem_cons_zero, List.setIfInBounds_toArray, List.set_cons_zero, List.set_cons_succ]
        refine wpAnyH_done (by kernel_rfl) ?_ _
        have HBW : Hid (Below w.heap.size w zd) := (HY.out.next hS).bel
        clear hS HY HC5
        go_wp2
        go_ret
        exact ⟨rfl, HBW.out⟩
end Go.Proofs.YtpeifpoeeopecaaDoor
/- What the listed variable gives: the rounds' words lie where the walks look for them. -/
namespace Go.Proofs.YtpeifpoeeopecaaDoor
open Go.ChangeShapes Go.WideShapes Go.ChangeAt Go.WideMaps Go.WideElems Go.RowKit
set_option maxRecDepth 100000
theorem own : ownKnob Tryd.prog.godebug = none := by kernel_rfl
theorem gKw : Tryd.prog.globalNamed "blazon/sha.roundWords" = some 0 := by kernel_rfl
theorem tKw : (Tryd.prog.globals[0]?).map (·.type) = some 111 := by kernel_rfl
def laidK : List (String × DataW Unit) := [("blazon/sha.roundWords", Rows.laid_blazon_sha_roundWords)]
def kzs : List Int := kw.map fun x => (x.toNat : Int)
theorem laid_tab : (Rows.laid_blazon_sha_roundWords : DataW Unit) = Lib.tabData .u32 kzs := by kernel_rfl
theorem door_met (os : Os) (args : Array Value) : laidMetH Tryd.prog laidK ((World.doorLaid Tryd.prog 400 os).forCall (fun _ _ => 0) ⟨#[], args, []⟩).memory :=
  laidMetH_of_parts3 (fuel := 8) (laidMet_of_run' 8 (by kernel_rfl) (by kernel_rfl)) (by kernel_rfl) (by kernel_rfl)
theorem getD_toNat (l : List (BitVec 32)) (j : Nat) : (l.map fun x => (x.toNat : Int)).getD j 0 = ((l.getD j 0).toNat : Int) := by
  rw [List.getD_eq_getElem?_getD, List.getD_eq_getElem?_getD, List.getElem?_map]
  cases l[j]? <;> rfl
theorem kok_of_laid {W : World} (h : laidMetH Tryd.prog laidK W) : KOk W := by
  rw [MakeChecks.laidMetH_plain _ _ _ (by kernel_rfl)] at h
  unfold laidK at h
  rw [laid_tab] at h
  have hT := Lib.tabIs_of_head gKw tKw Tryd.underlying111 Tryd.underlying95 (by kernel_rfl) (by kernel_rfl) h
  intro j hj
  rw [hT.cell gKw j (by simpa [kzs, kw] using hj), kzs, getD_toNat]
end Go.Proofs.YtpeifpoeeopecaaDoor
/- What a slice of bytes that came in gives: the bytes that it reads as; and that it reads so still behind a call that changed no old block. -/
namespace Go.Proofs.YtpeifpoeeopecaaDoor
open Go.ChangeShapes Go.WideShapes Go.ChangeAt Go.WideMaps Go.WideElems Go.RowKit
set_option maxRecDepth 100000
theorem cells_byte : Tryd.prog.cellsOf 5 = 1 := by kernel_rfl
theorem laid_out : laidOutB Tryd.prog = true := by kernel_rfl
theorem readable_bytes : Tryd.prog.readableRec 23 = true := by kernel_rfl
theorem row_bytes : 23 < Tryd.prog.types.size := of_decide_eq_true (by kernel_rfl)
theorem byte_range {zs : List Int} (h : ∀ n ∈ zs, (Lit.int .u8 n).wf = true) (j : Nat) : 0 ≤ zs.getD j 0 ∧ zs.getD j 0 < 256 := by
  rw [List.getD_eq_getElem?_getD]
  cases hj : zs[j]? with
  | none => simp
  | some n =>
    have := h n (List.mem_of_getElem? hj)
    have := bounds_u8 this
    simp
    omega
theorem reads_of_trod {H : Type} {enc : TypeId × Value → H} {W : World} {base : Nat} {v : Value} {d : DataW H} {p : List MemPlace} (hval : Value.okWide Tryd.prog W .any base 23 v)
    (h : DataW.Trod enc Tryd.prog W 0 (fun _ => true) true 23 v d p) :
    ∃ bs, Reads W v bs ∧ bs.length ≤ maxLen ∧ ∀ x ∈ p, x.block < W.heap.size := by
  obtain ⟨a1, len, cap, rfl⟩ := okWide_slice Tryd.underlying23 hval
  obtain ⟨fuel, hf⟩ := h
  rcases open_ints Tryd.underlying23 Tryd.underlying5 cells_byte hf with ⟨hcs, hx⟩ | ⟨a, len', cap', zs, hcs, _, hl, hm, hz, hx, hcell, hwz⟩
  · simp [Value.cells] at hcs
    obtain ⟨rfl, rfl, rfl⟩ := hcs
    simp only [Prod.mk.injEq] at hx
    obtain ⟨rfl, rfl⟩ := hx
    exact ⟨[], ⟨none, 0, rfl, Nat.le_refl _, fun _ => rfl, fun h => by cases h⟩, Nat.zero_le _, fun _ h => by cases h⟩
  · simp [Value.cells] at hcs
    obtain ⟨rfl, rfl, rfl⟩ := hcs
    simp only [Prod.mk.injEq] at hx
    obtain ⟨rfl, rfl⟩ := hx
    simp only [if_true] at hz
    have hlen : ((zs.take len).map fun n => BitVec.ofInt 8 n).length = len := by simp; omega
    obtain ⟨ab, ao, spot⟩ := a
    refine ⟨(zs.take len).map fun n => BitVec.ofInt 8 n, ⟨some ⟨ab, ao, spot⟩, cap, by rw [hlen], by rw [hlen]; exact hl, (fun h => by cases h), fun hp => ?_⟩, by rw [hlen]; omega, fun x hx => ?_⟩
    · rw [hlen] at hp ⊢
      have hspot : spot = none := by simpa [Addr.add] using World.cell?_spot (hcell 0 (by omega))
      subst hspot
      refine ⟨ab, ao, rfl, fun j hj => ?_⟩
      have hcj := hcell j (by omega)
      rw [Addr.add_lit] at hcj
      rw [hcj]
      have hb := byte_range hwz j
      have e : ((zs.take len).map fun n => BitVec.ofInt 8 n).getD j 0 = BitVec.ofInt 8 (zs.getD j 0) := by
        rw [List.getD_eq_getElem?_getD, List.getElem?_map, List.getElem?_take_of_lt hj, List.getD_eq_getElem?_getD, List.getElem?_eq_getElem (show j < zs.length by omega)]
        rfl
      rw [e, BitVec.toNat_ofInt]
      congr 2
      omega
    · simp only [MemPlace.row, List.mem_map, List.mem_range] at hx
      obtain ⟨i, hi, rfl⟩ := hx
      have hcj := hcell i (by omega)
      have := block_lt_of_cell hcj
      simp only [Addr.add] at this
      split at this <;> exact this
end Go.Proofs.YtpeifpoeeopecaaDoor
/- What a digest that came in gives: its 32 bytes. -/
namespace Go.Proofs.YtpeifpoeeopecaaDoor
open Go.ChangeShapes Go.WideShapes Go.ChangeAt Go.WideMaps Go.WideElems Go.RowKit
set_option maxRecDepth 100000
theorem cells_digest : Tryd.prog.cellsOf 33 = 32 := by kernel_rfl
theorem readable_digest : Tryd.prog.readableRec 33 = true := by kernel_rfl
theorem row_digest : 33 < Tryd.prog.types.size := of_decide_eq_true (by kernel_rfl)
def numOf8 : Value → BitVec 8
  | .int _ n => BitVec.ofInt 8 n
  | _ => 0
theorem digest_of_trod {H : Type} {enc : TypeId × Value → H} {W : World} {base : Nat} {v : Value} {d : DataW H} {p : List MemPlace} (hval : Value.okWide Tryd.prog W .any base 33 v)
    (h : DataW.Trod enc Tryd.prog W 0 (fun _ => true) true 33 v d p) :
    ∃ dg, v = .agg (cb dg).toArray ∧ dg.length = 32 ∧ ∀ x ∈ p, x.block < W.heap.size := by
  simp only [Value.okWide, Tryd.underlying33] at hval
  obtain ⟨cs, rfl, hcs, _⟩ := hval
  obtain ⟨fuel, hf⟩ := h
  obtain ⟨xs, m, _, hx, hl, hn, hi⟩ := DataW.trod_array Tryd.underlying33 hf
  simp only [Value.cells] at hl hi
  rw [cells_digest] at hl
  rw [cells_byte] at hi
  have each : ∀ i, i < 32 → ∃ n, cs.toList[i]? = some (.int .u8 n) ∧ xs[i]? = some (.lit (.int .u8 n), []) ∧ (Lit.int .u8 n).wf = true := by
    intro i h32
    have h1 := hi i h32
    rw [List.getElem?_eq_getElem (by omega)] at h1
    obtain ⟨n, hc, hxx, hw⟩ := DataW.trod_int Tryd.underlying5 h1
    refine ⟨n, ?_, by rw [List.getElem?_eq_getElem (by omega), hxx], hw⟩
    rw [Nat.mul_one] at hc
    have h2 := congrArg (fun l => l[0]?) hc
    simpa using h2
  have hlen : (cs.toList.map numOf8).length = 32 := by simpa using hl
  refine ⟨cs.toList.map numOf8, ?_, hlen, ?_⟩
  · congr 1
    apply Array.ext'
    rw [List.toList_toArray]
    apply List.ext_getElem?
    intro i
    by_cases h32 : i < 32
    · obtain ⟨n, h1, _, hw⟩ := each i h32
      have hb := bounds_u8 hw
      rw [h1, cb_get _ _ (by omega), List.getD_eq_getElem?_getD, List.getElem?_map, h1]
      simp only [Option.map_some, Option.getD_some, numOf8, BitVec.toNat_ofInt]
      congr 2
      omega
    · rw [List.getElem?_eq_none (by omega), List.getElem?_eq_none (by rw [cb_len]; omega)]
  · simp only [Prod.mk.injEq] at hx
    rw [hx.2]
    intro x hmem
    obtain ⟨y, hy, hxy⟩ := List.mem_flatMap.1 hmem
    obtain ⟨i, hlt, rfl⟩ := List.getElem_of_mem hy
    obtain ⟨n, _, h2, _⟩ := each i (by omega)
    rw [List.getElem?_eq_getElem hlt] at h2
    rw [Option.some.inj h2] at hxy
    cases hxy
end Go.Proofs.YtpeifpoeeopecaaDoor
/- What a binding, a root and a pair of digests that came in give: their parts. -/
namespace Go.Proofs.YtpeifpoeeopecaaDoor
open Go.ChangeShapes Go.WideShapes Go.ChangeAt Go.WideMaps Go.WideElems Go.RowKit
set_option maxRecDepth 100000
theorem readable_binding : Tryd.prog.readableRec 59 = true := by kernel_rfl
theorem row_binding : 59 < Tryd.prog.types.size := of_decide_eq_true (by kernel_rfl)
theorem readable_root : Tryd.prog.readableRec 56 = true := by kernel_rfl
theorem row_root : 56 < Tryd.prog.types.size := of_decide_eq_true (by kernel_rfl)
theorem readable_pair : Tryd.prog.readableRec 57 = true := by kernel_rfl
theorem row_pair : 57 < Tryd.prog.types.size := of_decide_eq_true (by kernel_rfl)
theorem cells_pair : Tryd.prog.cellsOf 57 = 64 := by kernel_rfl
theorem cells_root : Tryd.prog.cellsOf 56 = 97 := by kernel_rfl
theorem cells_binding : Tryd.prog.cellsOf 59 = 3 := by kernel_rfl
theorem cells_string : Tryd.prog.cellsOf 9 = 1 := by kernel_rfl
theorem cells_u64 : Tryd.prog.cellsOf 54 = 1 := by kernel_rfl
theorem cells_bytes1 : Tryd.prog.cellsOf 23 = 1 := by kernel_rfl
theorem digest_of_cells {H : Type} {enc : TypeId × Value → H} {W : World} {fuel : Nat} {cs : List Value} {y : DataW H × List MemPlace} (hf : DataW.trod enc Tryd.prog W 0 (fun _ => true) true fuel 33 cs = some y) :
    ∃ dg, cs = cb dg ∧ dg.length = 32 := by
  obtain ⟨xs, m, _, hx, hl, hn, hi⟩ := DataW.trod_array Tryd.underlying33 hf
  rw [cells_digest] at hl
  rw [cells_byte] at hi
  have each : ∀ i, i < 32 → ∃ n, cs[i]? = some (.int .u8 n) ∧ (Lit.int .u8 n).wf = true := by
    intro i h32
    have h1 := hi i h32
    rw [List.getElem?_eq_getElem (by omega)] at h1
    obtain ⟨n, hc, _, hw⟩ := DataW.trod_int Tryd.underlying5 h1
    refine ⟨n, ?_, hw⟩
    rw [Nat.mul_one] at hc
    have h2 := congrArg (fun l => l[0]?) hc
    simpa using h2
  have hlen : (cs.map numOf8).length = 32 := by simpa using hl
  refine ⟨cs.map numOf8, ?_, hlen⟩
  apply List.ext_getElem?
  intro i
  by_cases h32 : i < 32
  · obtain ⟨n, h1, hw⟩ := each i h32
    have hb := bounds_u8 hw
    rw [h1, cb_get _ _ (by omega), List.getD_eq_getElem?_getD, List.getElem?_map, h1]
    simp only [Option.map_some, Option.getD_some, numOf8, BitVec.toNat_ofInt]
    congr 2
    omega
  · rw [List.getElem?_eq_none (by omega), List.getElem?_eq_none (by rw [cb_len]; omega)]
theorem strB_of (s : ByteArray) : ∃ nm, s = strB nm := by
  refine ⟨s.data.toList.map fun b => BitVec.ofNat 8 b.toNat, ?_⟩
  have h := strB_data (s.data.toList.map fun b => BitVec.ofNat 8 b.toNat)
  have h2 : (s.data.toList.map fun b => BitVec.ofNat 8 b.toNat).map (fun b => UInt8.ofNat b.toNat) = s.data.toList := by
    rw [List.map_map]
    have : ((fun b : BitVec 8 => UInt8.ofNat b.toNat) ∘ fun b : UInt8 => BitVec.ofNat 8 b.toNat) = id := by
      funext b
      simp only [Function.comp, BitVec.toNat_ofNat, id]
      have := b.toNat_lt
      rw [Nat.mod_eq_of_lt (by omega)]
      simp
    rw [this, List.map_id]
  rw [h2] at h
  obtain ⟨d⟩ := s
  generalize strB _ = t at *
  obtain ⟨e⟩ := t
  simp only at h
  rw [Array.ext' h]
theorem reads_of_cells0 {H : Type} {enc : TypeId × Value → H} {W : World} {v : Value} {y : DataW H × List MemPlace} {fuel : Nat} (hf : DataW.trod enc Tryd.prog W 0 (fun _ => true) true fuel 23 [v] = some y) :
    ∃ bs, Reads W v bs := by
  rcases open_ints Tryd.underlying23 Tryd.underlying5 cells_byte hf with ⟨hcs, hx⟩ | ⟨a, len, cap, zs, hcs, _, hl, hm, hz, hx, hcell, hwz⟩
  · simp only [List.cons.injEq, and_true] at hcs
    subst hcs
    exact ⟨[], ⟨none, 0, rfl, Nat.le_refl _, fun _ => rfl, fun h => by cases h⟩⟩
  · simp only [List.cons.injEq, and_true] at hcs
    subst hcs
    simp only [if_true] at hz
    have hlen : ((zs.take len).map fun n => BitVec.ofInt 8 n).length = len := by simp; omega
    obtain ⟨ab, ao, spot⟩ := a
    refine ⟨(zs.take len).map fun n => BitVec.ofInt 8 n, ⟨some ⟨ab, ao, spot⟩, cap, by rw [hlen], by rw [hlen]; exact hl, (fun h => by cases h), fun hp => ?_⟩⟩
    rw [hlen] at hp ⊢
    have hspot : spot = none := by simpa [Addr.add] using World.cell?_spot (hcell 0 (by omega))
    subst hspot
    refine ⟨ab, ao, rfl, fun j hj => ?_⟩
    have hcj := hcell j (by omega)
    rw [Addr.add_lit] at hcj
    rw [hcj]
    have hb := byte_range hwz j
    have e : ((zs.take len).map fun n => BitVec.ofInt 8 n).getD j 0 = BitVec.ofInt 8 (zs.getD j 0) := by
      rw [List.getD_eq_getElem?_getD, List.getElem?_map, List.getElem?_take_of_lt hj, List.getD_eq_getElem?_getD, List.getElem?_eq_getElem (show j < zs.length by omega)]
      rfl
    rw [e, BitVec.toNat_ofInt]
    congr 2
    omega
theorem binding_of_trod {H : Type} {enc : TypeId × Value → H} {W : World} {base : Nat} {v : Value} {d : DataW H} {p : List MemPlace} (hval : Value.okWide Tryd.prog W .any base 59 v)
    (h : DataW.Trod enc Tryd.prog W 0 (fun _ => true) true 59 v d p) :
    ∃ nm vk ky sr, v = .agg #[.string (strB nm), vk, .int .u64 ((sr : Nat) : Int)] ∧ Reads W vk ky ∧ sr < 18446744073709551616 ∧ ∀ x ∈ p, x.block < W.heap.size := by
  simp only [Value.okWide, Tryd.underlying59] at hval
  obtain ⟨cs, rfl, hcs, _⟩ := hval
  obtain ⟨fuel, hf⟩ := h
  have hp := DataW.trod_lt _ _ _ _ hf
  obtain ⟨y0, y1, y2, n, hx, hl, h0, h1, h2⟩ := Go.Deep.trod_struct3 Tryd.underlying59 hf
  simp only [Value.cells] at hl h0 h1 h2
  rw [cells_binding] at hl
  rw [cells_string] at h0
  rw [cells_bytes1] at h1
  rw [cells_u64] at h2
  obtain ⟨l⟩ := cs
  match l, hl with
  | [c0, c1, c2], _ =>
    obtain ⟨s, e0, _, _⟩ := DataW.trod_string Tryd.underlying9 h0
    obtain ⟨bs, hr⟩ := reads_of_cells0 (v := c1) h1
    obtain ⟨m, e2, _, hw⟩ := DataW.trod_int Tryd.underlying54 h2
    simp at e0 e2
    subst e0 e2
    obtain ⟨nm, rfl⟩ := strB_of s
    have hb := bounds_u64 hw
    refine ⟨nm, c1, bs, m.toNat, ?_, hr, by omega, hp⟩
    rw [Int.toNat_of_nonneg (by omega)]
theorem root_of_trod {H : Type} {enc : TypeId × Value → H} {W : World} {base : Nat} {v : Value} {d : DataW H} {p : List MemPlace} (hval : Value.okWide Tryd.prog W .any base 56 v)
    (h : DataW.Trod enc Tryd.prog W 0 (fun _ => true) true 56 v d p) :
    ∃ sr x y z, v = .agg (Value.int .u64 ((sr : Nat) : Int) :: (cb x ++ (cb y ++ cb z))).toArray ∧ (x.length = 32 ∧ y.length = 32 ∧ z.length = 32 ∧ sr < 18446744073709551616) ∧ ∀ q ∈ p, q.block < W.heap.size := by
  simp only [Value.okWide, Tryd.underlying56] at hval
  obtain ⟨cs, rfl, hcs, _⟩ := hval
  obtain ⟨fuel, hf⟩ := h
  have hp := DataW.trod_lt _ _ _ _ hf
  obtain ⟨y0, y1, y2, y3, n, hx, hl, h0, h1, h2, h3⟩ := Go.Joins.trod_struct4 Tryd.underlying56 hf
  simp only [Value.cells] at hl h0 h1 h2 h3
  rw [cells_root] at hl
  rw [cells_u64] at h0
  rw [cells_digest] at h1 h2 h3
  obtain ⟨l⟩ := cs
  simp only at hl h0 h1 h2 h3
  obtain ⟨m, e0, _, hw⟩ := DataW.trod_int Tryd.underlying54 h0
  obtain ⟨x, e1, lx⟩ := digest_of_cells h1
  obtain ⟨y, e2, ly⟩ := digest_of_cells h2
  obtain ⟨z, e3, lz⟩ := digest_of_cells h3
  have hb := bounds_u64 hw
  refine ⟨m.toNat, x, y, z, ?_, ⟨lx, ly, lz, by omega⟩, hp⟩
  rw [Int.toNat_of_nonneg (by omega), ← e1, ← e2, ← e3]
  congr 2
  have d1 : l = l.take 1 ++ l.drop 1 := (List.take_append_drop 1 l).symm
  have d2 : l.drop 1 = (l.drop 1).take 32 ++ l.drop 33 := by
    have := (List.take_append_drop 32 (l.drop 1)).symm
    rwa [List.drop_drop] at this
  have d3 : l.drop 33 = (l.drop 33).take 32 ++ l.drop 65 := by
    have := (List.take_append_drop 32 (l.drop 33)).symm
    rwa [List.drop_drop] at this
  have d4 : l.drop 65 = (l.drop 65).take 32 := by
    rw [List.take_of_length_le (by rw [List.length_drop]; omega)]
  rw [List.drop_zero] at e0
  rw [← d4, ← d3, ← d2]
  rw [e0] at d1
  exact d1
theorem pair_of_trod {H : Type} {enc : TypeId × Value → H} {W : World} {base : Nat} {v : Value} {d : DataW H} {p : List MemPlace} (hval : Value.okWide Tryd.prog W .any base 57 v)
    (h : DataW.Trod enc Tryd.prog W 0 (fun _ => true) true 57 v d p) :
    ∃ x y, v = .agg (cb x ++ cb y).toArray ∧ (x.length = 32 ∧ y.length = 32) ∧ ∀ q ∈ p, q.block < W.heap.size := by
  simp only [Value.okWide, Tryd.underlying57] at hval
  obtain ⟨cs, rfl, hcs, _⟩ := hval
  obtain ⟨fuel, hf⟩ := h
  have hp := DataW.trod_lt _ _ _ _ hf
  obtain ⟨xs, m, _, hx, hl, hn, hi⟩ := DataW.trod_array Tryd.underlying57 hf
  simp only [Value.cells] at hl hi
  rw [cells_pair] at hl
  rw [cells_digest] at hi
  have h0 := hi 0 (by omega)
  have h1 := hi 1 (by omega)
  rw [List.getElem?_eq_getElem (by omega)] at h0 h1
  obtain ⟨l⟩ := cs
  simp only [Nat.zero_mul, Nat.one_mul, List.drop_zero] at hl h0 h1
  obtain ⟨x, e0, lx⟩ := digest_of_cells h0
  obtain ⟨y, e1, ly⟩ := digest_of_cells h1
  refine ⟨x, y, ?_, ⟨lx, ly⟩, hp⟩
  rw [← e0, ← e1, List.take_of_length_le (l := l.drop 32) (by rw [List.length_drop]; omega), List.take_append_drop]
end Go.Proofs.YtpeifpoeeopecaaDoor
/- Texts and bindings that came in, with their sizes. -/
namespace Go.Proofs.YtpeifpoeeopecaaDoor
open Go.ChangeShapes Go.WideShapes Go.ChangeAt Go.WideMaps Go.WideElems Go.RowKit
set_option maxRecDepth 100000
theorem cells_bytes : Tryd.prog.cellsOf 23 = 1 := by kernel_rfl
theorem readable_bytess : Tryd.prog.readableRec 22 = true := by kernel_rfl
theorem row_bytess : 22 < Tryd.prog.types.size := of_decide_eq_true (by kernel_rfl)
theorem bytes_byte : Tryd.prog.bytesOf 5 = 1 := by kernel_rfl
theorem bytes_bytes : Tryd.prog.bytesOf 23 = 24 := by kernel_rfl
theorem weightsAll_mem {H : Type} {P : Program} {e : TypeId} {q : Nat → Bool} : ∀ (l : List (DataW H)), (DataW.weightsAll P e l).all q = true → ∀ d ∈ l, (d.weights P e).all q = true
  | [], _, _, h => by cases h
  | x :: r, hl, d, h => by
    rw [DataW.weightsAll, List.all_append, Bool.and_eq_true] at hl
    rcases List.mem_cons.1 h with rfl | h
    · exact hl.1
    · exact weightsAll_mem r hl.2 d h
theorem reads_sized {H : Type} {enc : TypeId × Value → H} {W : World} {v : Value} {d : DataW H} {p : List MemPlace} {fuel : Nat} (hf : DataW.trod enc Tryd.prog W 0 (fun _ => true) true fuel 23 [v] = some (d, p)) :
    ∃ bs, Reads W v bs ∧ (∀ N, (d.weights Tryd.prog 23).all (· ≤ N) = true → bs.length ≤ N) ∧ ∀ x ∈ p, x.block < W.heap.size := by
  rcases open_ints Tryd.underlying23 Tryd.underlying5 cells_byte hf with ⟨hcs, hx⟩ | ⟨a, len, cap, zs, hcs, _, hl, hm, hz, hx, hcell, hwz⟩
  · simp only [List.cons.injEq, and_true] at hcs
    subst hcs
    simp only [Prod.mk.injEq] at hx
    obtain ⟨rfl, rfl⟩ := hx
    exact ⟨[], ⟨none, 0, rfl, Nat.le_refl _, fun _ => rfl, fun h => by cases h⟩, fun _ _ => Nat.zero_le _, fun _ h => by cases h⟩
  · simp only [List.cons.injEq, and_true] at hcs
    subst hcs
    simp only [Prod.mk.injEq] at hx
    obtain ⟨rfl, rfl⟩ := hx
    simp only [if_true] at hz
    have hlen : ((zs.take len).map fun n => BitVec.ofInt 8 n).length = len := by simp; omega
    obtain ⟨ab, ao, spot⟩ := a
    refine ⟨(zs.take len).map fun n => BitVec.ofInt 8 n, ⟨some ⟨ab, ao, spot⟩, cap, by rw [hlen], by rw [hlen]; exact hl, (fun h => by cases h), fun hp => ?_⟩, ?_, fun x hx => ?_⟩
    · rw [hlen] at hp ⊢
      have hspot : spot = none := by simpa [Addr.add] using World.cell?_spot (hcell 0 (by omega))
      subst hspot
      refine ⟨ab, ao, rfl, fun j hj => ?_⟩
      have hcj := hcell j (by omega)
      rw [Addr.add_lit] at hcj
      rw [hcj]
      have hb := byte_range hwz j
      have e : ((zs.take len).map fun n => BitVec.ofInt 8 n).getD j 0 = BitVec.ofInt 8 (zs.getD j 0) := by
        rw [List.getD_eq_getElem?_getD, List.getElem?_map, List.getElem?_take_of_lt hj, List.getD_eq_getElem?_getD, List.getElem?_eq_getElem (show j < zs.length by omega)]
        rfl
      rw [e, BitVec.toNat_ofInt]
      congr 2
      omega
    · intro N hN
      rw [hlen]
      rw [DataW.weights] at hN
      simp only [Tryd.underlying23, bytes_byte, Nat.mul_one, List.all_cons, Bool.and_eq_true, decide_eq_true_eq] at hN
      have h3 : (lits (H := H) .u8 (zs.take len)).length = len := by simp [lits]; omega
      have := hN.1
      omega
    · simp only [MemPlace.row, List.mem_map, List.mem_range] at hx
      obtain ⟨i, hi, rfl⟩ := hx
      have hcj := hcell i (by omega)
      have := block_lt_of_cell hcj
      simp only [Addr.add] at this
      split at this <;> exact this
theorem readsL_sized {H : Type} {enc : TypeId × Value → H} {W : World} {base : Nat} {v : Value} {d : DataW H} {p : List MemPlace} (hval : Value.okWide Tryd.prog W .any base 22 v)
    (h : DataW.Trod enc Tryd.prog W 0 (fun _ => true) true 22 v d p) :
    ∃ ls, ReadsL W v ls ∧ (∀ N, (d.weights Tryd.prog 22).all (· ≤ N) = true → ls.length ≤ N ∧ ∀ t ∈ ls, t.length ≤ N) ∧ ∀ x ∈ p, x.block < W.heap.size := by
  obtain ⟨a1, len, cap, rfl⟩ := okWide_slice Tryd.underlying22 hval
  obtain ⟨fuel, hf⟩ := h
  rcases Go.Deep.open_slice1 Tryd.underlying22 cells_bytes hf with ⟨hcs, hx⟩ | ⟨a, len', cap', m, n, V, D, Pl, hcs, _, hl, hm, hmm, hx, hV⟩
  · simp [Value.cells] at hcs
    obtain ⟨rfl, rfl, rfl⟩ := hcs
    simp only [Prod.mk.injEq] at hx
    obtain ⟨rfl, rfl⟩ := hx
    exact ⟨[], ⟨none, 0, rfl, Nat.le_refl _, fun _ => rfl, fun h => by cases h⟩, fun _ _ => ⟨Nat.zero_le _, fun _ h => by cases h⟩, fun _ h => by cases h⟩
  · simp [Value.cells] at hcs
    obtain ⟨rfl, rfl, rfl⟩ := hcs
    simp only [Prod.mk.injEq] at hx
    obtain ⟨rfl, rfl⟩ := hx
    simp only [if_true] at hmm
    subst hmm
    obtain ⟨B, hB⟩ := Go.Deep.choose_lt (α := List (BitVec 8)) (p := fun i bs => Reads W (V i) bs ∧ (∀ N, ((D i).weights Tryd.prog 23).all (· ≤ N) = true → bs.length ≤ N) ∧ ∀ x ∈ Pl i, x.block < W.heap.size) (fun i hi => reads_sized (hV i hi).2)
    have hlen : ((List.range len).map B).length = len := by simp
    obtain ⟨ab, ao, spot⟩ := a
    refine ⟨(List.range len).map B, ⟨some ⟨ab, ao, spot⟩, m, by rw [hlen], by rw [hlen]; exact hl, (fun h => by cases h), fun hp => ?_⟩, ?_, fun x hx => ?_⟩
    · rw [hlen] at hp ⊢
      have hspot : spot = none := by simpa [Addr.add] using World.cell?_spot (hV 0 (by omega)).1
      subst hspot
      refine ⟨ab, ao, rfl, fun j hj => ⟨V j, ?_, ?_⟩⟩
      · have hcj := (hV j (by omega)).1
        rw [Addr.add_lit] at hcj
        exact hcj
      · have e : ((List.range len).map B).getD j [] = B j := by simp [hj]
        rw [e]; exact (hB j (by omega)).1
    · intro N hN
      rw [DataW.weights] at hN
      simp only [Tryd.underlying22, bytes_bytes, List.all_cons, List.all_append, Bool.and_eq_true, decide_eq_true_eq, List.length_map, List.length_range] at hN
      refine ⟨by rw [hlen]; have := hN.1; omega, fun t ht => ?_⟩
      obtain ⟨i, hi, rfl⟩ := List.mem_map.1 ht
      have hi2 := List.mem_range.1 hi
      exact (hB i (by omega)).2.1 N (weightsAll_mem _ hN.2.1 _ (List.mem_map_of_mem hi))
    · rcases List.mem_append.1 hx with hx | hx
      · simp only [MemPlace.row, List.mem_map, List.mem_range] at hx
        obtain ⟨i, hi, rfl⟩ := hx
        have := block_lt_of_cell (hV i hi).1
        simp only [Addr.add] at this
        split at this <;> exact this
      · obtain ⟨i, hi, hx⟩ := List.mem_flatMap.1 hx
        exact (hB i (List.mem_range.1 hi)).2.2 x hx
theorem binding_sized {H : Type} {enc : TypeId × Value → H} {W : World} {base : Nat} {v : Value} {d : DataW H} {p : List MemPlace} (hval : Value.okWide Tryd.prog W .any base 59 v)
    (h : DataW.Trod enc Tryd.prog W 0 (fun _ => true) true 59 v d p) :
    ∃ nm vk ky sr, v = .agg #[.string (strB nm), vk, .int .u64 ((sr : Nat) : Int)] ∧ Reads W vk ky ∧ sr < 18446744073709551616 ∧ (∀ N, (d.weights Tryd.prog 59).all (· ≤ N) = true → nm.length ≤ N ∧ ky.length ≤ N) ∧ ∀ x ∈ p, x.block < W.heap.size := by
  simp only [Value.okWide, Tryd.underlying59] at hval
  obtain ⟨cs, rfl, hcs, _⟩ := hval
  obtain ⟨fuel, hf⟩ := h
  have hp := DataW.trod_lt _ _ _ _ hf
  obtain ⟨y0, y1, y2, n, hx, hl, h0, h1, h2⟩ := Go.Deep.trod_struct3 Tryd.underlying59 hf
  simp only [Value.cells] at hl h0 h1 h2
  rw [cells_binding] at hl
  rw [cells_string] at h0
  rw [cells_bytes1] at h1
  rw [cells_u64] at h2
  obtain ⟨l⟩ := cs
  match l, hl with
  | [c0, c1, c2], _ =>
    obtain ⟨s, e0, ex0, _⟩ := DataW.trod_string Tryd.underlying9 h0
    obtain ⟨bs, hr, hbl, _⟩ := reads_sized (v := c1) h1
    obtain ⟨m, e2, _, hw⟩ := DataW.trod_int Tryd.underlying54 h2
    simp at e0 e2
    subst e0 e2
    obtain ⟨nm, rfl⟩ := strB_of s
    have hb := bounds_u64 hw
    refine ⟨nm, c1, bs, m.toNat, ?_, hr, by omega, ?_, hp⟩
    rotate_left
    · intro N hN
      simp only [Prod.mk.injEq] at hx
      rw [hx.1, DataW.weights] at hN
      simp only [Tryd.underlying59, List.map_cons, List.map_nil, DataW.weightsEach, List.all_append, Bool.and_eq_true] at hN
      refine ⟨?_, hbl N hN.2.1⟩
      have h1 := hN.1
      rw [ex0] at h1
      simp only [DataW.weights, List.all_cons, List.all_nil, Bool.and_true, decide_eq_true_eq] at h1
      have h2 : (strB nm).size = nm.length := strB_size nm
      have h3 : (strB nm).data.toList.length = (strB nm).size := by rw [Array.length_toList]; rfl
      omega
    rw [Int.toNat_of_nonneg (by omega)]
theorem trodAll_five {H : Type} {enc : TypeId × Value → H} {P : Program} {w : World} {base : Nat} {spare : Nat → Bool} {held : Bool} {t0 t1 t2 t3 t4 : TypeId} {args : Array Value} {ds : List (DataW H)} {ps : List MemPlace} (h : DataW.TrodAll enc P w base spare held [t0, t1, t2, t3, t4] args.toList ds ps) :
    ∃ v0 v1 v2 v3 v4 d0 d1 d2 d3 d4 p0 p1 p2 p3 p4, args = #[v0, v1, v2, v3, v4] ∧ ds = [d0, d1, d2, d3, d4] ∧ ps = p0 ++ p1 ++ p2 ++ p3 ++ p4 ∧ DataW.Trod enc P w base spare held t0 v0 d0 p0 ∧ DataW.Trod enc P w base spare held t1 v1 d1 p1 ∧ DataW.Trod enc P w base spare held t2 v2 d2 p2 ∧ DataW.Trod enc P w base spare held t3 v3 d3 p3 ∧ DataW.Trod enc P w base spare held t4 v4 d4 p4 := by
  obtain ⟨v0, vs0, d0, ds0, p0, q0, hargs, rfl, rfl, h0, r0⟩ := trodAll_cons h
  obtain ⟨v1, vs1, d1, ds1, p1, q1, rfl, rfl, rfl, h1, r1⟩ := trodAll_cons r0
  obtain ⟨v2, vs2, d2, ds2, p2, q2, rfl, rfl, rfl, h2, r2⟩ := trodAll_cons r1
  obtain ⟨v3, vs3, d3, ds3, p3, q3, rfl, rfl, rfl, h3, r3⟩ := trodAll_cons r2
  obtain ⟨v4, vs4, d4, ds4, p4, q4, rfl, rfl, rfl, h4, r4⟩ := trodAll_cons r3
  obtain ⟨rfl, rfl, rfl⟩ := trodAll_nil r4
  exact ⟨v0, v1, v2, v3, v4, d0, d1, d2, d3, d4, p0, p1, p2, p3, p4, by cases args; simp_all, rfl, by simp, h0, h1, h2, h3, h4⟩
theorem trodAll_mk5 {H : Type} {enc : TypeId × Value → H} {P : Program} {w : World} {base : Nat} {spare : Nat → Bool} {held : Bool} {t0 t1 t2 t3 t4 : TypeId} {v0 v1 v2 v3 v4 : Value} {d0 d1 d2 d3 d4 : DataW H} {p0 p1 p2 p3 p4 : List MemPlace} (h0 : DataW.Trod enc P w base spare held t0 v0 d0 p0) (h1 : DataW.Trod enc P w base spare held t1 v1 d1 p1) (h2 : DataW.Trod enc P w base spare held t2 v2 d2 p2) (h3 : DataW.Trod enc P w base spare held t3 v3 d3 p3) (h4 : DataW.Trod enc P w base spare held t4 v4 d4 p4) : DataW.TrodAll enc P w base spare held [t0, t1, t2, t3, t4] [v0, v1, v2, v3, v4] [d0, d1, d2, d3, d4] (p0 ++ (p1 ++ (p2 ++ (p3 ++ p4)))) :=
  ⟨p0, _, h0, trodAll_mk4 h1 h2 h3 h4, rfl⟩
end Go.Proofs.YtpeifpoeeopecaaDoor

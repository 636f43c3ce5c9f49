/- Texts that the proof leans on, one behind the other: LamportForged, over what lamport's functions do (layer 10): nobody else signs. What the listed variable gives: the rounds' words lie where the walks look for them. What a slice of bytes that came in gives: the bytes that it reads as; and that it reads so still behind a call that changed no old block. .. -/
import Derived.Test.YtaogafadnkheeaaDoorMgc
import Derived.Test.YtaogafadnkheeaaDoorRows
import Derived.Test.YtaogafadnkheeaaDoorMga
import Derived.ProofKit
import Derived.LaidMore
import Derived.OpenShut
import Derived.Stop.Joined
import Derived.Lib.LaidTab
import Derived.Carry
import Derived.ChangeSlices
import Derived.Test.YtaogafadnkheeaaDoorMgb
import Derived.Deep.Slices
/- LamportForged, over what lamport's functions do (layer 10): nobody else signs. -/
namespace Go.Proofs.YtaogafadnkheeaaDoor
open Go.RowKit
set_option maxRecDepth 100000
theorem wpSeq_not {ops : Array Oper} {Q : Exit → Act → World → Prop} {rest : List Oper} {o : Oper} {a : Act} {w : World} (x : Operand) (b c : Bool) (hc : c = !b) (ho : o.op = .unOp .not 4 x) (hx : a.eval x = .bool b) (hw : Region.wanted o (yielded ops a.tmps) = true)
    (h : wpList Tryd.prog ops Q rest (a.put o.dst (.bool c)) w) : wpList Tryd.prog ops Q (o :: rest) a w := by
  subst hc
  refine wpSeq_val _ _ hw ?_ h
  unfold execOp
  rw [ho]
  simp only [hx]
  cases b <;> rfl
theorem check_zero {p b sig : List (BitVec 8)} (h : checkE p b sig = 0) : sig.length = 16384 ∧ dig (openR (bt (dig b)) sig 256) = p := by
  unfold checkE at h
  by_cases e : sig.length = 16384 ∧ dig (openR (bt (dig b)) sig 256) = p
  · exact e
  · rw [if_neg e] at h; cases h
theorem check_two (p b sig : List (BitVec 8)) : checkE p b sig = 0 ∨ checkE p b sig = 15 := by
  unfold checkE
  split
  · exact Or.inl rfl
  · exact Or.inr rfl
/-- the cut of a bit's told part, as an operation -/
theorem cut64 (bs offs cps k : Nat) (hk : k < 256) (hc : 16384 ≤ cps) (a : Act) (o : Oper) (x lo : Operand) (w : World) {hi : Operand} (ho : o.op = .slice 25 x (some lo) (some hi) none) (hx : a.eval x = .slice (some ⟨bs, offs, none⟩) 16384 cps) (hlo : a.eval lo = .int .i64 (64 * (k : Int))) (hhi : a.eval hi = .int .i64 (64 * (k : Int) + 32)) :
    (execOp a.eval o).run Tryd.prog w = .ok (.value (.slice (some ⟨bs, offs + 32 * (2 * k), none⟩) 32 (cps - 32 * (2 * k)))) w := by
  have e1 : 64 * (k : Int) = ((32 * (2 * k) : Nat) : Int) := by omega
  have e2 : 64 * (k : Int) + 32 = ((32 * (2 * k) + 32 : Nat) : Int) := by omega
  rw [e1] at hlo
  rw [e2] at hhi
  unfold execOp
  rw [ho]
  simp only [hx, hlo, hhi, Option.map_some, Option.map_none, Sem.run_bind, cut_run bs offs 16384 cps (32 * (2 * k)) 32 (by decide) (by omega) hc w]
  rfl
theorem form16 {sg : List (BitVec 8)} (h : sg.length = 16384) {W : World} {v : Value} (hr : Reads W v sg) : ∃ bs offs cps, v = .slice (some ⟨bs, offs, none⟩) 16384 cps ∧ 16384 ≤ cps := by
  obtain ⟨ad, cp, hv, hc, _, hx⟩ := hr
  obtain ⟨bs, offs, rfl, _⟩ := hx (by omega)
  rw [h] at hv hc
  exact ⟨bs, offs, cp, hv, hc⟩
set_option maxRecDepth 100000 in
set_option maxHeartbeats 8000000 in
theorem lamportForged_law (hO : LmOps) (x : List (BitVec 8)) (key : Nat) (vb vs : Value) (b sig : List (BitVec 8)) (own : Bool) (w : World) (hK : KOk w) (hn : x.length = 32 ∧ key < 18446744073709551616) (hb : Reads w vb b) (hs : Reads w vs sig) :
    Calls Tryd.prog 7 #[.agg (cb x).toArray, .int .u64 (key : Int), vb, vs, .bool own] w fun e w' => e = .returned (.bool true) ∧ Below w.heap.size w w' := by
  have HLB : Hid (∀ W : World, Below w.heap.size w W → Calls Tryd.prog 14 #[vb] W fun e w' => e = .returned (.bool (decide (32768 < b.length))) ∧ Below W.heap.size W w') := fun W hh => long10_any vb b W (hb.below hh)
  have HLS : Hid (∀ W : World, Below w.heap.size w W → Calls Tryd.prog 14 #[vs] W fun e w' => e = .returned (.bool (decide (32768 < sig.length))) ∧ Below W.heap.size W w') := fun W hh => long10_any vs sig W (hs.below hh)
  have HWK : Hid (∀ W : World, Below w.heap.size w W → Calls Tryd.prog 13 #[] W fun e w' => e = .returned (.bool true) ∧ Below W.heap.size W w') := fun W hh => works10_any hO W (hK.below hh hK.lt)
  have HN : Hid (x.length = 32 ∧ key < 18446744073709551616) := hn
  have HBW : Hid (Below w.heap.size w w) := Below.refl _ _
  obtain ⟨ab, cbb, hvb, hqb⟩ := id hb
  clear hqb
  obtain ⟨nb, HNB⟩ : ∃ n, Hid (n = b.length) := ⟨_, rfl⟩
  rw [← HNB.out] at hvb
  by_cases hlb : 32768 < b.length
  · obtain ⟨ads, cps, hvs, hqs⟩ := id hs
    clear hqs
    subst hvb hvs
    clear hO hK hn hb hs
    go_enter Tryd.func7, Tryd.ntmps7
    have tk0 : Hid True := trivial
    have tk1 : Hid True := trivial
    have tk2 : Hid True := trivial
    go_wp2_with (first
      | (clear tk0; with_reducible refine wpSeq_boxD (.tmp 0) x ?_ ?_ ?_ ?_
         · rfl
         · rfl
         · rfl
         intro gx y1 nn
         replace HBW : Hid (Below w.heap.size w y1) := HBW.out.trans (nn.below.mono HBW.out.size)
         have HX : Hid (Blk y1 gx (cb x) 23) := nn.blk
         clear nn)
      | (clear tk1; go_at_call 14; refine (HLB.out y1 HBW.out).mono ?_; rintro e y2 ⟨rfl, hbz⟩
         replace HX : Hid (Blk y2 gx (cb x) 23) := HX.out.below hbz HX.out.lt
         replace HBW : Hid (Below w.heap.size w y2) := HBW.out.trans (hbz.mono HBW.out.size)
         rw [decide_eq_true hlb]
         clear hbz )
      | (clear tk2; go_at_call 13; refine (HWK.out y2 HBW.out).mono ?_; rintro e y3 ⟨rfl, hbz⟩
         replace HX : Hid (Blk y3 gx (cb x) 23) := HX.out.below hbz HX.out.lt
         replace HBW : Hid (Below w.heap.size w y3) := HBW.out.trans (hbz.mono HBW.out.size)
         clear hbz ))
    go_ret
    exact ⟨rfl, HBW.out⟩
  by_cases hls : 32768 < sig.length
  · obtain ⟨ads, cps, hvs, hqs⟩ := id hs
    clear hqs
    subst hvb hvs
    clear hO hK hn hb hs
    go_enter Tryd.func7, Tryd.ntmps7
    have tk0 : Hid True := trivial
    have tk1 : Hid True := trivial
    have tk2 : Hid True := trivial
    have tk3 : Hid True := trivial
    go_wp2_with (first
      | (clear tk0; with_reducible refine wpSeq_boxD (.tmp 0) x ?_ ?_ ?_ ?_
         · rfl
         · rfl
         · rfl
         intro gx y1 nn
         replace HBW : Hid (Below w.heap.size w y1) := HBW.out.trans (nn.below.mono HBW.out.size)
         have HX : Hid (Blk y1 gx (cb x) 23) := nn.blk
         clear nn)
      | (clear tk1; go_at_call 14; refine (HLB.out y1 HBW.out).mono ?_; rintro e y2 ⟨rfl, hbz⟩
         replace HX : Hid (Blk y2 gx (cb x) 23) := HX.out.below hbz HX.out.lt
         replace HBW : Hid (Below w.heap.size w y2) := HBW.out.trans (hbz.mono HBW.out.size)
         rw [decide_eq_false hlb]
         clear hbz )
      | (clear tk2; go_at_call 14; refine (HLS.out y2 HBW.out).mono ?_; rintro e y3 ⟨rfl, hbz⟩
         replace HX : Hid (Blk y3 gx (cb x) 23) := HX.out.below hbz HX.out.lt
         replace HBW : Hid (Below w.heap.size w y3) := HBW.out.trans (hbz.mono HBW.out.size)
         rw [decide_eq_true hls]
         clear hbz )
      | (clear tk3; go_at_call 13; refine (HWK.out y3 HBW.out).mono ?_; rintro e y4 ⟨rfl, hbz⟩
         replace HX : Hid (Blk y4 gx (cb x) 23) := HX.out.below hbz HX.out.lt
         replace HBW : Hid (Below w.heap.size w y4) := HBW.out.trans (hbz.mono HBW.out.size)
         clear hbz ))
    go_ret
    exact ⟨rfl, HBW.out⟩
  obtain ⟨d, HDD⟩ : ∃ d, Hid (d = dig b) := ⟨_, rfl⟩
  have HDL : Hid (d.length = 32) := by show _ = _; rw [HDD.out]; exact len_dig' _
  obtain ⟨tt, HTT⟩ : ∃ t, Hid (t = textR (partB x key) 256) := ⟨_, rfl⟩
  have HTTL : Hid (tt.length = 16385) := by show _ = _; rw [HTT.out, len_textR]
  obtain ⟨r, HRD⟩ : ∃ r, Hid (r = dig tt) := ⟨_, rfl⟩
  have HRL : Hid (r.length = 32) := by show _ = _; rw [HRD.out]; exact len_dig' _
  have HC1 : Hid (∀ W : World, Below w.heap.size w W → Calls Tryd.prog 18 #[.agg (cb x).toArray, .int .u64 (key : Int)] W fun e w' => e = .returned (.agg (cb r).toArray) ∧ Below W.heap.size W w') := fun W hh => by rw [HRD.out, HTT.out]; exact qlPublic_any x key W hn
  have HC4 : Hid (∀ W : World, Below w.heap.size w W → Calls Tryd.prog 10 #[.agg (cb x).toArray, .int .u64 (key : Int)] W fun e w' => ∃ v, e = .returned v ∧ Reads w' v tt ∧ Below W.heap.size W w') := fun W hh => by rw [HTT.out]; exact qlText_any x key W hn
  have HC6 : Hid (∀ (W : World) (v : Value), Reads W v tt → Calls Tryd.prog 12 #[v] W fun e w' => e = .returned (.agg (cb r).toArray) ∧ Below W.heap.size W w') := fun W v hv => by rw [HRD.out]; exact rOf_any v tt W hv (by rw [HTTL.out]; omega)
  have HC7 : Hid (∀ W : World, Below w.heap.size w W → Calls Tryd.prog 12 #[vb] W fun e w' => e = .returned (.agg (cb d).toArray) ∧ Below W.heap.size W w') := fun W hh => by rw [HDD.out]; exact rOf_any vb b W (hb.below hh) (by omega)
  have HC8 : Hid (∀ W : World, Below w.heap.size w W → ∀ k : Nat, k < 256 → Calls Tryd.prog 22 #[.agg (cb d).toArray, .int .i64 (k : Int)] W fun e w' => e = .returned (.bool (bt d k)) ∧ Below W.heap.size W w') := fun W hh k hk => by rw [← bit_nat d k hk]; exact sBit_any d HDL.out (k : Int) W
  have hq2 : ∀ wx : World, (Op.equalIn 10000 23 (.agg (cb r).toArray) (.agg (cb r).toArray)).run Tryd.prog wx = .ok true wx := fun wx => eq_dig_same r HRL.out wx
  cases own with
  | true =>
    obtain ⟨sg, HSG⟩ : ∃ t, Hid (t = signR (partB x key) (bt (dig b)) 256) := ⟨_, rfl⟩
    have HSL : Hid (sg.length = 16384) := by show _ = _; rw [HSG.out, len_signR (len_partB x key)]
    have HCS : Hid (∀ W : World, Below w.heap.size w W → Calls Tryd.prog 16 #[.agg (cb x).toArray, .int .u64 (key : Int), vb] W fun e w' => ∃ v, e = .returned v ∧ Reads w' v sg ∧ Below W.heap.size W w') := fun W hh => by rw [HSG.out]; exact qlSign_any x key vb b W hn (hb.below hh) (by omega)
    have HCZ : Hid (checkE r b sg = 0) := by show _ = _; rw [HRD.out, HTT.out, HSG.out]; exact check_sign x key b
    obtain ⟨t, HTD⟩ : ∃ t, Hid (t = openR (bt (dig b)) sg 256) := ⟨_, rfl⟩
    have HOL : Hid (openL b sg = t ∧ openE sg = 0) := by show _ ∧ _; rw [openL, openE, if_pos HSL.out, if_pos HSL.out, HTD.out]; exact ⟨rfl, rfl⟩
    have HC2 : Hid (∀ W : World, Below w.heap.size w W → ∀ {v : Value}, Reads W v sg → Calls Tryd.prog 17 #[.agg (cb r).toArray, vb, v] W fun e w' => e = .returned (.int .i64 0) ∧ Below W.heap.size W w') := fun W hh v hv => by rw [← HCZ.out]; exact hO.check W r vb v b sg (hK.below hh hK.lt) HRL.out (hb.below hh) hv (by omega)
    have HC3 : Hid (∀ W : World, Below w.heap.size w W → ∀ {v : Value}, Reads W v sg → Calls Tryd.prog 19 #[vb, v] W (OpenA W b sg)) := fun W hh v hv => hO.opened W vb v b sg (hK.below hh hK.lt) (hb.below hh) hv (by omega)
    have htt : t = tt := by rw [HTD.out, HTT.out, HSG.out]; exact open_sign (len_partB x key) (bt (dig b)) 256 256 (Nat.le_refl _)
    have HTX : Hid (∀ k, k < 256 → dig (blk32 sg (2 * k)) = dig (partB x key k (bt d k))) := fun k hk => by rw [HDD.out]; exact open_text (bt (dig b)) 256 (by rw [HSL.out]; decide) (by rw [← HTD.out, htt, HTT.out]) k hk
    obtain ⟨ads, cpx, hvs, hqs⟩ := id hs
    clear hqs
    subst hvb hvs
    clear hO hK hn hb hs HSG HCZ HTD HRD HDD
    go_enter Tryd.func7, Tryd.ntmps7
    have tk0 : Hid True := trivial
    have tk1 : Hid True := trivial
    have tk2 : Hid True := trivial
    have tk3 : Hid True := trivial
    have tk4 : Hid True := trivial
    have tk5 : Hid True := trivial
    have tk6 : Hid True := trivial
    have tk7 : Hid True := trivial
    have tk8 : Hid True := trivial
    have tk9 : Hid True := trivial
    have tk10 : Hid True := trivial
    have tk11 : Hid True := trivial
    have tk12 : Hid True := trivial
    have tk13 : Hid True := trivial
    have tk14 : Hid True := trivial
    have tk15 : Hid True := trivial
    go_wp2_with (first
      | (clear tk0; with_reducible refine wpSeq_boxD (.tmp 0) x ?_ ?_ ?_ ?_
         · rfl
         · rfl
         · rfl
         intro gx y1 nn
         replace HBW : Hid (Below w.heap.size w y1) := HBW.out.trans (nn.below.mono HBW.out.size)
         have HX : Hid (Blk y1 gx (cb x) 23) := nn.blk
         clear nn)
      | (clear tk1; go_at_call 14; refine (HLB.out y1 HBW.out).mono ?_; rintro e y2 ⟨rfl, hbz⟩
         replace HX : Hid (Blk y2 gx (cb x) 23) := HX.out.below hbz HX.out.lt
         replace HBW : Hid (Below w.heap.size w y2) := HBW.out.trans (hbz.mono HBW.out.size)
         rw [decide_eq_false hlb]
         clear hbz )
      | (clear tk2; go_at_call 14; refine (HLS.out y2 HBW.out).mono ?_; rintro e y3 ⟨rfl, hbz⟩
         replace HX : Hid (Blk y3 gx (cb x) 23) := HX.out.below hbz HX.out.lt
         replace HBW : Hid (Below w.heap.size w y3) := HBW.out.trans (hbz.mono HBW.out.size)
         rw [decide_eq_false hls]
         clear hbz )
      | (clear tk3; with_reducible refine wpSeq_loadD (.tmp 5) gx x ?_ ?_ ?_ ?_ ?_ ?_
         · exact HN.out.1
         · exact HX.out
         · rfl
         · rfl
         · rfl)
      | (clear tk4; go_at_call 16; refine (HCS.out y3 HBW.out).mono ?_; rintro e y4 ⟨vg, rfl, hrg, hbz⟩
         replace HX : Hid (Blk y4 gx (cb x) 23) := HX.out.below hbz HX.out.lt
         replace HBW : Hid (Below w.heap.size w y4) := HBW.out.trans (hbz.mono HBW.out.size)
         obtain ⟨bs, offs, cps, rfl, HCPS⟩ := form16 HSL.out hrg
         have HG : Hid (Reads y4 (.slice (some ⟨bs, offs, none⟩) 16384 cps) sg) := hrg
         clear hbz hrg)
      | (clear tk5; with_reducible refine wpSeq_loadD (.tmp 5) gx x ?_ ?_ ?_ ?_ ?_ ?_
         · exact HN.out.1
         · exact HX.out
         · rfl
         · rfl
         · rfl)
      | (clear tk6; go_at_call 18; refine (HC1.out y4 HBW.out).mono ?_; rintro e y5 ⟨rfl, hbz⟩
         replace HX : Hid (Blk y5 gx (cb x) 23) := HX.out.below hbz HX.out.lt
         replace HG : Hid (Reads y5 (.slice (some ⟨bs, offs, none⟩) 16384 cps) sg) := HG.out.below hbz
         replace HBW : Hid (Below w.heap.size w y5) := HBW.out.trans (hbz.mono HBW.out.size)
         clear hbz )
      | (clear tk7; go_at_call 17; refine (HC2.out y5 HBW.out HG.out).mono ?_; rintro e y6 ⟨rfl, hbz⟩
         replace HX : Hid (Blk y6 gx (cb x) 23) := HX.out.below hbz HX.out.lt
         replace HG : Hid (Reads y6 (.slice (some ⟨bs, offs, none⟩) 16384 cps) sg) := HG.out.below hbz
         replace HBW : Hid (Below w.heap.size w y6) := HBW.out.trans (hbz.mono HBW.out.size)
         clear hbz )
      | (clear tk8; go_at_call 19; refine (HC3.out y6 HBW.out HG.out).mono ?_; rintro e y7 ⟨v11, rfl, hr11, hbz⟩
         replace HX : Hid (Blk y7 gx (cb x) 23) := HX.out.below hbz HX.out.lt
         replace HG : Hid (Reads y7 (.slice (some ⟨bs, offs, none⟩) 16384 cps) sg) := HG.out.below hbz
         replace HBW : Hid (Below w.heap.size w y7) := HBW.out.trans (hbz.mono HBW.out.size)
         rw [HOL.out.1] at hr11
         rw [HOL.out.2]
         have H11 : Hid (Reads y7 v11 t) := hr11
         clear hbz hr11)
      | (clear tk9; with_reducible refine wpSeq_loadD (.tmp 5) gx x ?_ ?_ ?_ ?_ ?_ ?_
         · exact HN.out.1
         · exact HX.out
         · rfl
         · rfl
         · rfl)
      | (clear tk10; go_at_call 10; refine (HC4.out y7 HBW.out).mono ?_; rintro e y8 ⟨v13, rfl, hr13, hbz⟩
         replace HX : Hid (Blk y8 gx (cb x) 23) := HX.out.below hbz HX.out.lt
         replace HG : Hid (Reads y8 (.slice (some ⟨bs, offs, none⟩) 16384 cps) sg) := HG.out.below hbz
         replace H11 : Hid (Reads y8 v11 t) := H11.out.below hbz
         replace HBW : Hid (Below w.heap.size w y8) := HBW.out.trans (hbz.mono HBW.out.size)
         have H13 : Hid (Reads y8 v13 tt) := hr13
         clear hbz hr13)
      | (clear tk11; go_at_call 9; refine (rsame_b v11 v13 t tt y8 H11.out H13.out).mono ?_; rintro e y9 ⟨rfl, hbz⟩
         replace HX : Hid (Blk y9 gx (cb x) 23) := HX.out.below hbz HX.out.lt
         replace HG : Hid (Reads y9 (.slice (some ⟨bs, offs, none⟩) 16384 cps) sg) := HG.out.below hbz
         replace H11 : Hid (Reads y9 v11 t) := H11.out.below hbz
         replace H13 : Hid (Reads y9 v13 tt) := H13.out.below hbz
         replace HBW : Hid (Below w.heap.size w y9) := HBW.out.trans (hbz.mono HBW.out.size)
         rw [decide_eq_true htt]
         clear hbz )
      | (clear tk12; with_reducible refine wpSeq_not (.tmp 55) true false ?_ ?_ ?_ ?_ ?_
         · rfl
         · rfl
         · rfl
         · rfl)
      | (clear tk13; go_at_call 12; refine (HC7.out y9 HBW.out).mono ?_; rintro e y10 ⟨rfl, hbz⟩
         replace HX : Hid (Blk y10 gx (cb x) 23) := HX.out.below hbz HX.out.lt
         replace HG : Hid (Reads y10 (.slice (some ⟨bs, offs, none⟩) 16384 cps) sg) := HG.out.below hbz
         replace H11 : Hid (Reads y10 v11 t) := H11.out.below hbz
         replace H13 : Hid (Reads y10 v13 tt) := H13.out.below hbz
         replace HBW : Hid (Below w.heap.size w y10) := HBW.out.trans (hbz.mono HBW.out.size)
         clear hbz )
      | (clear tk14; with_reducible refine wpSeq_allocD ?_ ?_ ?_
         · rfl
         · rfl
         intro gd y11 nn)
      | (clear tk15; with_reducible refine wpSeq_storeD (.tmp 14) (.tmp 66) gd zb32 d ?_ ?_ ?_ ?_ ?_ ?_ ?_ ?_
         · rfl
         · exact HDL.out
         · exact nn.blk
         · rfl
         · rfl
         · rfl
         · rfl
         intro y12 hs
         have hbz := nn.below.trans (hs.only.below nn.ge nn.below.size)
         replace HX : Hid (Blk y12 gx (cb x) 23) := HX.out.below hbz HX.out.lt
         replace HG : Hid (Reads y12 (.slice (some ⟨bs, offs, none⟩) 16384 cps) sg) := HG.out.below hbz
         replace H11 : Hid (Reads y12 v11 t) := H11.out.below hbz
         replace H13 : Hid (Reads y12 v13 tt) := H13.out.below hbz
         replace HBW : Hid (Below w.heap.size w y12) := HBW.out.trans (hbz.mono HBW.out.size)
         have HD : Hid (Blk y12 gd (cb d) 23) := hs.blk
         clear nn hs hbz))
    go_loopw [15] (fun i wr => ∃ k : Nat, k ≤ 256 ∧ i = .int .i64 (k : Int) ∧ Blk wr gx (cb x) 23 ∧ Blk wr gd (cb d) 23 ∧ Reads wr (.slice (some ⟨bs, offs, none⟩) 16384 cps) sg ∧ Below w.heap.size w wr) (fun i _ => 256 - (intOf i).toNat)
    case atStart => exact ⟨0, by omega, rfl, HX.out, HD.out, HG.out, HBW.out⟩
    case round =>
      clear HX HD HG HBW H11 H13
      obtain ⟨k, hkn, rfl, hx, hd, hg, hbw⟩ := hrel
      have HX : Hid (Blk wr gx (cb x) 23) := hx
      have HD : Hid (Blk wr gd (cb d) 23) := hd
      have HG : Hid (Reads wr (.slice (some ⟨bs, offs, none⟩) 16384 cps) sg) := hg
      have HBW : Hid (Below w.heap.size w wr) := hbw
      clear hx hd hg hbw
      by_cases hlt : k < 256
      · have hi : (k : Int) < 256 := by omega
        have f5 : IntKind.i64.wrap ((k : Int) + 1) = (k : Int) + 1 := by rw [IntKind.wrap_i64]; omega
        have f6 : IntKind.i64.wrap (64 * (k : Int)) = 64 * (k : Int) := by rw [IntKind.wrap_i64]; omega
        have f7 : IntKind.i64.wrap (64 * (k : Int) + 32) = 64 * (k : Int) + 32 := by rw [IntKind.wrap_i64]; omega
        obtain ⟨q, HQ⟩ : ∃ q, Hid (q = dig (blk32 sg (2 * k))) := ⟨_, rfl⟩
        have HQL : Hid (q.length = 32) := by show _ = _; rw [HQ.out]; exact len_dig' _
        have hq : ∀ wx : World, (Op.equalIn 10000 23 (.agg (cb q).toArray) (.agg (cb q).toArray)).run Tryd.prog wx = .ok true wx := fun wx => eq_dig_same q HQL.out wx
        obtain ⟨pp, HPP⟩ : ∃ p, Hid (p = partB x key k (bt d k)) := ⟨_, rfl⟩
        have HPPL : Hid (pp.length = 32) := by show _ = _; rw [HPP.out]; exact len_partB _ _ _ _
        have HQP : Hid (q = dig pp) := by show _ = _; rw [HQ.out, HPP.out]; exact HTX.out k hlt
        have HR1 : Hid (∀ (W : World) (v : Value), Reads W v (blk32 sg (2 * k)) → Calls Tryd.prog 12 #[v] W fun e w' => e = .returned (.agg (cb q).toArray) ∧ Below W.heap.size W w') := fun W v hv => by rw [HQ.out]; exact rOf_any v _ W hv (by rw [len_blk32 (by have := HSL.out; omega)]; omega)
        have HR2 : Hid (∀ (W : World) (v : Value), Reads W v pp → Calls Tryd.prog 12 #[v] W fun e w' => e = .returned (.agg (cb q).toArray) ∧ Below W.heap.size W w') := fun W v hv => by rw [HQP.out]; exact rOf_any v _ W hv (by rw [HPPL.out]; omega)
        cases hoo : bt d k with
        | true =>
          have HKY : Hid (∀ W : World, Below w.heap.size w W → Calls Tryd.prog 23 #[.agg (cb x).toArray, .int .u64 (key : Int), .int .i64 (k : Int), .int .i64 1] W fun e w' => e = .returned (.agg (cb pp).toArray) ∧ Below W.heap.size W w') := fun W hh => by
            have hn := HN.out
            rw [HPP.out, hoo]; exact rKeyOf_any x key _ (k : Int) (1 : Int) W (key_place k hlt 1 (by omega)) ⟨hn.1, hn.2, by (split <;> omega)⟩
          have tk40 : Hid True := trivial
          have tk41 : Hid True := trivial
          have tk42 : Hid True := trivial
          have tk43 : Hid True := trivial
          have tk44 : Hid True := trivial
          have tk45 : Hid True := trivial
          go_upto_region 21 with (first
            | (clear tk40; with_reducible refine wpSeq_loadD (.tmp 14) gd d ?_ ?_ ?_ ?_ ?_ ?_
               · exact HDL.out
               · exact HD.out
               · rfl
               · rfl
               · rfl)
            | (clear tk41; go_at_call 22; refine (HC8.out wr HBW.out k hlt).mono ?_; rintro e y41 ⟨rfl, hbz⟩
               replace HX : Hid (Blk y41 gx (cb x) 23) := HX.out.below hbz HX.out.lt
               replace HD : Hid (Blk y41 gd (cb d) 23) := HD.out.below hbz HD.out.lt
               replace HG : Hid (Reads y41 (.slice (some ⟨bs, offs, none⟩) 16384 cps) sg) := HG.out.below hbz
               replace HBW : Hid (Below w.heap.size w y41) := HBW.out.trans (hbz.mono HBW.out.size)
               rw [hoo]
               clear hbz )
            | (clear tk42; with_reducible refine wpSeq_loadD (.tmp 5) gx x ?_ ?_ ?_ ?_ ?_ ?_
               · exact HN.out.1
               · exact HX.out
               · rfl
               · rfl
               · rfl)
            | (clear tk43; go_at_call 23; refine (HKY.out y41 HBW.out).mono ?_; rintro e y42 ⟨rfl, hbz⟩
               replace HX : Hid (Blk y42 gx (cb x) 23) := HX.out.below hbz HX.out.lt
               replace HD : Hid (Blk y42 gd (cb d) 23) := HD.out.below hbz HD.out.lt
               replace HG : Hid (Reads y42 (.slice (some ⟨bs, offs, none⟩) 16384 cps) sg) := HG.out.below hbz
               replace HBW : Hid (Below w.heap.size w y42) := HBW.out.trans (hbz.mono HBW.out.size)
               clear hbz )
            | (clear tk44; with_reducible refine wpSeq_allocD ?_ ?_ ?_
               · rfl
               · rfl
               intro gp y43 nn)
            | (clear tk45; with_reducible refine wpSeq_storeD (.tmp 17) (.tmp 78) gp zb32 pp ?_ ?_ ?_ ?_ ?_ ?_ ?_ ?_
               · rfl
               · exact HPPL.out
               · exact nn.blk
               · rfl
               · rfl
               · rfl
               · rfl
               intro y44 hs
               have hbz := nn.below.trans (hs.only.below nn.ge nn.below.size)
               replace HX : Hid (Blk y44 gx (cb x) 23) := HX.out.below hbz HX.out.lt
               replace HD : Hid (Blk y44 gd (cb d) 23) := HD.out.below hbz HD.out.lt
               replace HG : Hid (Reads y44 (.slice (some ⟨bs, offs, none⟩) 16384 cps) sg) := HG.out.below hbz
               replace HBW : Hid (Below w.heap.size w y44) := HBW.out.trans (hbz.mono HBW.out.size)
               have HGP : Hid (Blk y44 gp (cb pp) 23) := hs.blk
               clear nn hs hbz))
          have HYB : Hid (Below w.heap.size w (World.drew y44)) := HBW.out.drew
          replace HX : Hid (Blk (World.drew y44) gx (cb x) 23) := HX.out.drew
          replace HD : Hid (Blk (World.drew y44) gd (cb d) 23) := HD.out.drew
          replace HGP : Hid (Blk (World.drew y44) gp (cb pp) 23) := HGP.out.drew
          replace HG : Hid (Reads (World.drew y44) (.slice (some ⟨bs, offs, none⟩) 16384 cps) sg) := reads_drew HG.out
          clear HBW
          refine wp_region_held_drew (S := Over (World.drew y44)) (by kernel_rfl) (Over.refl _) ?_
          intro hS
          change wpAnyH _ _ _ _ _ _ _ _ (World.drew y44)
          generalize World.drew y44 = y0 at *
          refine wpAnyH_take (i := 0) (v := .slice (some ⟨bs, offs, none⟩) 16384 cps) rfl (by kernel_rfl) (by kernel_rfl) (by kernel_rfl) (fun _ _ _ h => h) (Or.inl ⟨by rfl, fun wx hx => by simp [go_sem]⟩) hS ?_
          simp only [Act.put, List.getElem_toArray, List.getElem_cons_zero, List.setIfInBounds_toArray, List.set_cons_zero, List.set_cons_succ]
          refine wpAnyH_take (i := 1) (v := .int .i64 16384) rfl (by kernel_rfl) (by kernel_rfl) (by kernel_rfl) (fun _ _ _ h => h) (Or.inl ⟨by rfl, fun wx hx => by simp [go_sem]⟩) hS ?_
          simp only [Act.put, List.getElem_toArray, List.getElem_cons_succ, List.getElem_cons_zero, List.setIfInBounds_toArray, List.set_cons_zero, List.set_cons_succ]
          refine wpAnyH_take (i := 2) (v := .bool false) rfl (by kernel_rfl) (by kernel_rfl) (by kernel_rfl) (fun _ _ _ h => h) (Or.inl ⟨by rfl, fun wx hx => by simp [go_sem]⟩) hS ?_
          simp only [Act.put, List.getElem_toArray, List.getElem_cons_succ, List.getElem_cons_zero, List.setIfInBounds_toArray, List.set_cons_zero, List.set_cons_succ]
          refine wpAnyH_take (i := 3) (v := .bool false) rfl (by kernel_rfl) (by kernel_rfl) (by kernel_rfl) (fun _ _ _ h => h) (Or.inl ⟨by rfl, fun wx hx => by simp [go_sem]⟩) hS ?_
          simp only [Act.put, List.getElem_toArray, List.getElem_cons_succ, List.getElem_cons_zero, List.setIfInBounds_toArray, List.set_cons_zero, List.set_cons_succ]
          refine wpAnyH_take (i := 4) (v := .slice (some ⟨bs, offs, none⟩) 16384 cps) rfl (by kernel_rfl) (by kernel_rfl) (by kernel_rfl) (fun _ _ _ h => h) (Or.inl ⟨by rfl, fun wx hx => by simp [go_sem]⟩) hS ?_
          simp only [Act.put, List.getElem_toArray, List.getElem_cons_succ, List.getElem_cons_zero, List.setIfInBounds_toArray, List.set_cons_zero, List.set_cons_succ]
          refine wpAnyH_take (i := 5) (v := .int .i64 (k : Int)) rfl (by kernel_rfl) (by kernel_rfl) (by kernel_rfl) (fun _ _ _ h => h) (Or.inl ⟨by rfl, fun wx hx => by simp [go_sem]⟩) hS ?_
          simp only [Act.put, List.getElem_toArray, List.getElem_cons_succ, List.getElem_cons_zero, List.setIfInBounds_toArray, List.set_cons_zero, List.set_cons_succ]
          refine wpAnyH_take (i := 6) (v := .int .i64 (64 * (k : Int))) rfl (by kernel_rfl) (by kernel_rfl) (by kernel_rfl) (fun _ _ _ h => h) (Or.inl ⟨by rfl, fun wx hx => by simp [go_sem, f6]⟩) hS ?_
          simp only [Act.put, List.getElem_toArray, List.getElem_cons_succ, List.getElem_cons_zero, List.setIfInBounds_toArray, List.set_cons_zero, List.set_cons_succ]
          refine wpAnyH_take (i := 7) (v := .int .i64 (k : Int)) rfl (by kernel_rfl) (by kernel_rfl) (by kernel_rfl) (fun _ _ _ h => h) (Or.inl ⟨by rfl, fun wx hx => by simp [go_sem]⟩) hS ?_
          simp only [Act.put, List.getElem_toArray, List.getElem_cons_succ, List.getElem_cons_zero, List.setIfInBounds_toArray, List.set_cons_zero, List.set_cons_succ]
          refine wpAnyH_take (i := 8) (v := .int .i64 (64 * (k : Int))) rfl (by kernel_rfl) (by kernel_rfl) (by kernel_rfl) (fun _ _ _ h => h) (Or.inl ⟨by rfl, fun wx hx => by simp [go_sem, f6]⟩) hS ?_
          simp only [Act.put, List.getElem_toArray, List.getElem_cons_succ, List.getElem_cons_zero, List.setIfInBounds_toArray, List.set_cons_zero, List.set_cons_succ]
          refine wpAnyH_take (i := 9) (v := .int .i64 (64 * (k : Int) + 32)) rfl (by kernel_rfl) (by kernel_rfl) (by kernel_rfl) (fun _ _ _ h => h) (Or.inl ⟨by rfl, fun wx hx => by simp [go_sem, f7]⟩) hS ?_
          simp only [Act.put, List.getElem_toArray, List.getElem_cons_succ, List.getElem_cons_zero, List.setIfInBounds_toArray, List.set_cons_zero, List.set_cons_succ]
          refine wpAnyH_take (i := 10) (v := .slice (some ⟨bs, offs + 32 * (2 * k), none⟩) 32 (cps - 32 * (2 * k))) rfl (by kernel_rfl) (by kernel_rfl) (by kernel_rfl) (fun _ _ _ h => h) (Or.inl ⟨by rfl, fun wx hx => by exact cut64 bs offs cps k hlt HCPS _ _ _ _ wx rfl rfl rfl rfl⟩) hS ?_
          simp only [Act.put, List.getElem_toArray, List.getElem_cons_succ, List.getElem_cons_zero, List.setIfInBounds_toArray, List.set_cons_zero, List.set_cons_succ]
          refine wpAnyH_take (i := 12) (v := .slice (some ⟨gp, 0, none⟩) 32 32) rfl (by kernel_rfl) (by kernel_rfl) (by kernel_rfl) (fun _ _ _ h => h) (Or.inl ⟨by rfl, fun wx hx => by simp [execOp, Act.eval, slice_dig]⟩) hS ?_
          simp only [Act.put, List.getElem_toArray, List.getElem_cons_succ, List.getElem_cons_zero, List.setIfInBounds_toArray, List.set_cons_zero, List.set_cons_succ]
          refine wpAnyH_enter 11 (by kernel_rfl) rfl (by rfl) (f := 12) (args := #[.slice (some ⟨bs, offs + 32 * (2 * k), none⟩) 32 (cps - 32 * (2 * k))]) (by simp [go_sem]) (HR1.out _ _ ((HG.out.below hS).cut (2 * k) (by have := HSL.out; omega))) ?_
          rintro e x1 ⟨rfl, hbq⟩
          replace hS := Over.more hS hbq
          refine ⟨_, rfl, hS, ?_⟩
          clear hbq
          simp only [Act.put, List.getElem_toArray, List.getElem_cons_succ, List.getElem_cons_zero, List.setIfInBounds_toArray, List.set_cons_zero, List.set_cons_succ]
          refine wpAnyH_enter 13 (by kernel_rfl) rfl (by rfl) (f := 12) (args := #[.slice (some ⟨gp, 0, none⟩) 32 32]) (by simp [go_sem]) (HR2.out _ _ ((HGP.out.below hS HGP.out.lt).reads HPPL.out.symm (by rw [HPPL.out]; exact Nat.le_refl _))) ?_
          rintro e x2 ⟨rfl, hbq⟩
          replace hS := Over.more hS hbq
          refine ⟨_, rfl, hS, ?_⟩
          clear hbq
          simp only [Act.put, List.getElem_toArray, List.getElem_cons_succ, List.getElem_cons_zero, List.setIfInBounds_toArray, List.set_cons_zero, List.set_cons_succ]
          refine wpAnyH_take (i := 14) (v := .bool false) rfl (by kernel_rfl) (by kernel_rfl) (by kernel_rfl) (fun _ _ _ h => h) (Or.inl ⟨by rfl, fun wx hx => by simp [go_sem, hq]⟩) hS ?_
          simp only [Act.put, List.getElem_toArray, List.getElem_cons_succ, List.getElem_cons_zero, List.setIfInBounds_toArray, List.set_cons_zero, List.set_cons_succ]
          refine wpAnyH_take (i := 15) (v := .bool false) rfl (by kernel_rfl) (by kernel_rfl) (by kernel_rfl) (fun _ _ _ h => h) (Or.inl ⟨by rfl, fun wx hx => by simp [go_sem]⟩) hS ?_
          simp only [Act.put, List.getElem_toArray, List.getElem_cons_succ, List.getElem_cons_zero, List.setIfInBounds_toArray, List.set_cons_zero, List.set_cons_succ]
          refine wpAnyH_done (by kernel_rfl) ?_ _
          have HBW : Hid (Below w.heap.size w x2) := HYB.out.trans (Below.mono hS HYB.out.size)
          replace HX : Hid (Blk x2 gx (cb x) 23) := HX.out.below hS HX.out.lt
          replace HD : Hid (Blk x2 gd (cb d) 23) := HD.out.below hS HD.out.lt
          replace HG : Hid (Reads x2 (.slice (some ⟨bs, offs, none⟩) 16384 cps) sg) := HG.out.below hS
          clear hS HGP HYB HKY HR1 HR2
          go_wp2
          go_roundw
          case rel => exact ⟨k + 1, by omega, by simp, HX.out, HD.out, HG.out, HBW.out⟩
          case measure => simp [intOf]; omega
        | false =>
          have HKY : Hid (∀ W : World, Below w.heap.size w W → Calls Tryd.prog 23 #[.agg (cb x).toArray, .int .u64 (key : Int), .int .i64 (k : Int), .int .i64 0] W fun e w' => e = .returned (.agg (cb pp).toArray) ∧ Below W.heap.size W w') := fun W hh => by
            have hn := HN.out
            rw [HPP.out, hoo]; exact rKeyOf_any x key _ (k : Int) (0 : Int) W (key_place k hlt 0 (by omega)) ⟨hn.1, hn.2, by (split <;> omega)⟩
          have tk40 : Hid True := trivial
          have tk41 : Hid True := trivial
          have tk42 : Hid True := trivial
          have tk43 : Hid True := trivial
          have tk44 : Hid True := trivial
          have tk45 : Hid True := trivial
          go_upto_region 21 with (first
            | (clear tk40; with_reducible refine wpSeq_loadD (.tmp 14) gd d ?_ ?_ ?_ ?_ ?_ ?_
               · exact HDL.out
               · exact HD.out
               · rfl
               · rfl
               · rfl)
            | (clear tk41; go_at_call 22; refine (HC8.out wr HBW.out k hlt).mono ?_; rintro e y41 ⟨rfl, hbz⟩
               replace HX : Hid (Blk y41 gx (cb x) 23) := HX.out.below hbz HX.out.lt
               replace HD : Hid (Blk y41 gd (cb d) 23) := HD.out.below hbz HD.out.lt
               replace HG : Hid (Reads y41 (.slice (some ⟨bs, offs, none⟩) 16384 cps) sg) := HG.out.below hbz
               replace HBW : Hid (Below w.heap.size w y41) := HBW.out.trans (hbz.mono HBW.out.size)
               rw [hoo]
               clear hbz )
            | (clear tk42; with_reducible refine wpSeq_loadD (.tmp 5) gx x ?_ ?_ ?_ ?_ ?_ ?_
               · exact HN.out.1
               · exact HX.out
               · rfl
               · rfl
               · rfl)
            | (clear tk43; go_at_call 23; refine (HKY.out y41 HBW.out).mono ?_; rintro e y42 ⟨rfl, hbz⟩
               replace HX : Hid (Blk y42 gx (cb x) 23) := HX.out.below hbz HX.out.lt
               replace HD : Hid (Blk y42 gd (cb d) 23) := HD.out.below hbz HD.out.lt
               replace HG : Hid (Reads y42 (.slice (some ⟨bs, offs, none⟩) 16384 cps) sg) := HG.out.below hbz
               replace HBW : Hid (Below w.heap.size w y42) := HBW.out.trans (hbz.mono HBW.out.size)
               clear hbz )
            | (clear tk44; with_reducible refine wpSeq_allocD ?_ ?_ ?_
               · rfl
               · rfl
               intro gp y43 nn)
            | (clear tk45; with_reducible refine wpSeq_storeD (.tmp 17) (.tmp 78) gp zb32 pp ?_ ?_ ?_ ?_ ?_ ?_ ?_ ?_
               · rfl
               · exact HPPL.out
               · exact nn.blk
               · rfl
               · rfl
               · rfl
               · rfl
               intro y44 hs
               have hbz := nn.below.trans (hs.only.below nn.ge nn.below.size)
               replace HX : Hid (Blk y44 gx (cb x) 23) := HX.out.below hbz HX.out.lt
               replace HD : Hid (Blk y44 gd (cb d) 23) := HD.out.below hbz HD.out.lt
               replace HG : Hid (Reads y44 (.slice (some ⟨bs, offs, none⟩) 16384 cps) sg) := HG.out.below hbz
               replace HBW : Hid (Below w.heap.size w y44) := HBW.out.trans (hbz.mono HBW.out.size)
               have HGP : Hid (Blk y44 gp (cb pp) 23) := hs.blk
               clear nn hs hbz))
          have HYB : Hid (Below w.heap.size w (World.drew y44)) := HBW.out.drew
          replace HX : Hid (Blk (World.drew y44) gx (cb x) 23) := HX.out.drew
          replace HD : Hid (Blk (World.drew y44) gd (cb d) 23) := HD.out.drew
          replace HGP : Hid (Blk (World.drew y44) gp (cb pp) 23) := HGP.out.drew
          replace HG : Hid (Reads (World.drew y44) (.slice (some ⟨bs, offs, none⟩) 16384 cps) sg) := reads_drew HG.out
          clear HBW
          refine wp_region_held_drew (S := Over (World.drew y44)) (by kernel_rfl) (Over.refl _) ?_
          intro hS
          change wpAnyH _ _ _ _ _ _ _ _ (World.drew y44)
          generalize World.drew y44 = y0 at *
          refine wpAnyH_take (i := 0) (v := .slice (some ⟨bs, offs, none⟩) 16384 cps) rfl (by kernel_rfl) (by kernel_rfl) (by kernel_rfl) (fun _ _ _ h => h) (Or.inl ⟨by rfl, fun wx hx => by simp [go_sem]⟩) hS ?_
          simp only [Act.put, List.getElem_toArray, List.getElem_cons_zero, List.setIfInBounds_toArray, List.set_cons_zero, List.set_cons_succ]
          refine wpAnyH_take (i := 1) (v := .int .i64 16384) rfl (by kernel_rfl) (by kernel_rfl) (by kernel_rfl) (fun _ _ _ h => h) (Or.inl ⟨by rfl, fun wx hx => by simp [go_sem]⟩) hS ?_
          simp only [Act.put, List.getElem_toArray, List.getElem_cons_succ, List.getElem_cons_zero, List.setIfInBounds_toArray, List.set_cons_zero, List.set_cons_succ]
          refine wpAnyH_take (i := 2) (v := .bool false) rfl (by kernel_rfl) (by kernel_rfl) (by kernel_rfl) (fun _ _ _ h => h) (Or.inl ⟨by rfl, fun wx hx => by simp [go_sem]⟩) hS ?_
          simp only [Act.put, List.getElem_toArray, List.getElem_cons_succ, List.getElem_cons_zero, List.setIfInBounds_toArray, List.set_cons_zero, List.set_cons_succ]
          refine wpAnyH_take (i := 3) (v := .bool false) rfl (by kernel_rfl) (by kernel_rfl) (by kernel_rfl) (fun _ _ _ h => h) (Or.inl ⟨by rfl, fun wx hx => by simp [go_sem]⟩) hS ?_
          simp only [Act.put, List.getElem_toArray, List.getElem_cons_succ, List.getElem_cons_zero, List.setIfInBounds_toArray, List.set_cons_zero, List.set_cons_succ]
          refine wpAnyH_take (i := 4) (v := .slice (some ⟨bs, offs, none⟩) 16384 cps) rfl (by kernel_rfl) (by kernel_rfl) (by kernel_rfl) (fun _ _ _ h => h) (Or.inl ⟨by rfl, fun wx hx => by simp [go_sem]⟩) hS ?_
          simp only [Act.put, List.getElem_toArray, List.getElem_cons_succ, List.getElem_cons_zero, List.setIfInBounds_toArray, List.set_cons_zero, List.set_cons_succ]
          refine wpAnyH_take (i := 5) (v := .int .i64 (k : Int)) rfl (by kernel_rfl) (by kernel_rfl) (by kernel_rfl) (fun _ _ _ h => h) (Or.inl ⟨by rfl, fun wx hx => by simp [go_sem]⟩) hS ?_
          simp only [Act.put, List.getElem_toArray, List.getElem_cons_succ, List.getElem_cons_zero, List.setIfInBounds_toArray, List.set_cons_zero, List.set_cons_succ]
          refine wpAnyH_take (i := 6) (v := .int .i64 (64 * (k : Int))) rfl (by kernel_rfl) (by kernel_rfl) (by kernel_rfl) (fun _ _ _ h => h) (Or.inl ⟨by rfl, fun wx hx => by simp [go_sem, f6]⟩) hS ?_
          simp only [Act.put, List.getElem_toArray, List.getElem_cons_succ, List.getElem_cons_zero, List.setIfInBounds_toArray, List.set_cons_zero, List.set_cons_succ]
          refine wpAnyH_take (i := 7) (v := .int .i64 (k : Int)) rfl (by kernel_rfl) (by kernel_rfl) (by kernel_rfl) (fun _ _ _ h => h) (Or.inl ⟨by rfl, fun wx hx => by simp [go_sem]⟩) hS ?_
          simp only [Act.put, List.getElem_toArray, List.getElem_cons_succ, List.getElem_cons_zero, List.setIfInBounds_toArray, List.set_cons_zero, List.set_cons_succ]
          refine wpAnyH_take (i := 8) (v := .int .i64 (64 * (k : Int))) rfl (by kernel_rfl) (by kernel_rfl) (by kernel_rfl) (fun _ _ _ h => h) (Or.inl ⟨by rfl, fun wx hx => by simp [go_sem, f6]⟩) hS ?_
          simp only [Act.put, List.getElem_toArray, List.getElem_cons_succ, List.getElem_cons_zero, List.setIfInBounds_toArray, List.set_cons_zero, List.set_cons_succ]
          refine wpAnyH_take (i := 9) (v := .int .i64 (64 * (k : Int) + 32)) rfl (by kernel_rfl) (by kernel_rfl) (by kernel_rfl) (fun _ _ _ h => h) (Or.inl ⟨by rfl, fun wx hx => by simp [go_sem, f7]⟩) hS ?_
          simp only [Act.put, List.getElem_toArray, List.getElem_cons_succ, List.getElem_cons_zero, List.setIfInBounds_toArray, List.set_cons_zero, List.set_cons_succ]
          refine wpAnyH_take (i := 10) (v := .slice (some ⟨bs, offs + 32 * (2 * k), none⟩) 32 (cps - 32 * (2 * k))) rfl (by kernel_rfl) (by kernel_rfl) (by kernel_rfl) (fun _ _ _ h => h) (Or.inl ⟨by rfl, fun wx hx => by exact cut64 bs offs cps k hlt HCPS _ _ _ _ wx rfl rfl rfl rfl⟩) hS ?_
          simp only [Act.put, List.getElem_toArray, List.getElem_cons_succ, List.getElem_cons_zero, List.setIfInBounds_toArray, List.set_cons_zero, List.set_cons_succ]
          refine wpAnyH_take (i := 12) (v := .slice (some ⟨gp, 0, none⟩) 32 32) rfl (by kernel_rfl) (by kernel_rfl) (by kernel_rfl) (fun _ _ _ h => h) (Or.inl ⟨by rfl, fun wx hx => by simp [execOp, Act.eval, slice_dig]⟩) hS ?_
          simp only [Act.put, List.getElem_toArray, List.getElem_cons_succ, List.getElem_cons_zero, List.setIfInBounds_toArray, List.set_cons_zero, List.set_cons_succ]
          refine wpAnyH_enter 11 (by kernel_rfl) rfl (by rfl) (f := 12) (args := #[.slice (some ⟨bs, offs + 32 * (2 * k), none⟩) 32 (cps - 32 * (2 * k))]) (by simp [go_sem]) (HR1.out _ _ ((HG.out.below hS).cut (2 * k) (by have := HSL.out; omega))) ?_
          rintro e x1 ⟨rfl, hbq⟩
          replace hS := Over.more hS hbq
          refine ⟨_, rfl, hS, ?_⟩
          clear hbq
          simp only [Act.put, List.getElem_toArray, List.getElem_cons_succ, List.getElem_cons_zero, List.setIfInBounds_toArray, List.set_cons_zero, List.set_cons_succ]
          refine wpAnyH_enter 13 (by kernel_rfl) rfl (by rfl) (f := 12) (args := #[.slice (some ⟨gp, 0, none⟩) 32 32]) (by simp [go_sem]) (HR2.out _ _ ((HGP.out.below hS HGP.out.lt).reads HPPL.out.symm (by rw [HPPL.out]; exact Nat.le_refl _))) ?_
          rintro e x2 ⟨rfl, hbq⟩
          replace hS := Over.more hS hbq
          refine ⟨_, rfl, hS, ?_⟩
          clear hbq
          simp only [Act.put, List.getElem_toArray, List.getElem_cons_succ, List.getElem_cons_zero, List.setIfInBounds_toArray, List.set_cons_zero, List.set_cons_succ]
          refine wpAnyH_take (i := 14) (v := .bool false) rfl (by kernel_rfl) (by kernel_rfl) (by kernel_rfl) (fun _ _ _ h => h) (Or.inl ⟨by rfl, fun wx hx => by simp [go_sem, hq]⟩) hS ?_
          simp only [Act.put, List.getElem_toArray, List.getElem_cons_succ, List.getElem_cons_zero, List.setIfInBounds_toArray, List.set_cons_zero, List.set_cons_succ]
          refine wpAnyH_take (i := 15) (v := .bool false) rfl (by kernel_rfl) (by kernel_rfl) (by kernel_rfl) (fun _ _ _ h => h) (Or.inl ⟨by rfl, fun wx hx => by simp [go_sem]⟩) hS ?_
          simp only [Act.put, List.getElem_toArray, List.getElem_cons_succ, List.getElem_cons_zero, List.setIfInBounds_toArray, List.set_cons_zero, List.set_cons_succ]
          refine wpAnyH_done (by kernel_rfl) ?_ _
          have HBW : Hid (Below w.heap.size w x2) := HYB.out.trans (Below.mono hS HYB.out.size)
          replace HX : Hid (Blk x2 gx (cb x) 23) := HX.out.below hS HX.out.lt
          replace HD : Hid (Blk x2 gd (cb d) 23) := HD.out.below hS HD.out.lt
          replace HG : Hid (Reads x2 (.slice (some ⟨bs, offs, none⟩) 16384 cps) sg) := HG.out.below hS
          clear hS HGP HYB HKY HR1 HR2
          go_wp2
          go_roundw
          case rel => exact ⟨k + 1, by omega, by simp, HX.out, HD.out, HG.out, HBW.out⟩
          case measure => simp [intOf]; omega
      · have hi : ¬ ((k : Int) < 256) := by omega
        go_wp2_with (go_at_call 13; refine (HWK.out _ HBW.out).mono ?_; rintro e x9 ⟨rfl, hbz⟩; replace HBW : Hid (Below w.heap.size w x9) := HBW.out.trans (hbz.mono HBW.out.size); clear hbz)
        go_ret
        exact ⟨rfl, HBW.out⟩
  | false =>
    rcases check_two r b sig with hce | hce
    · obtain ⟨h16, hdg⟩ := check_zero hce
      obtain ⟨sg, HSG⟩ : ∃ t, Hid (t = sig) := ⟨_, rfl⟩
      rw [← HSG.out] at hce h16 hdg
      have HSL : Hid (sg.length = 16384) := h16
      have HCZ : Hid (checkE r b sg = 0) := hce
      have HG : Hid (Reads w vs sg) := by rw [HSG.out]; exact hs
      obtain ⟨bs, offs, cps, hvs, HCPS⟩ := form16 h16 HG.out
      obtain ⟨t, HTD⟩ : ∃ t, Hid (t = openR (bt (dig b)) sg 256) := ⟨_, rfl⟩
      have HOL : Hid (openL b sg = t ∧ openE sg = 0) := by show _ ∧ _; rw [openL, openE, if_pos HSL.out, if_pos HSL.out, HTD.out]; exact ⟨rfl, rfl⟩
      have HC2 : Hid (∀ W : World, Below w.heap.size w W → ∀ {v : Value}, Reads W v sg → Calls Tryd.prog 17 #[.agg (cb r).toArray, vb, v] W fun e w' => e = .returned (.int .i64 0) ∧ Below W.heap.size W w') := fun W hh v hv => by rw [← HCZ.out]; exact hO.check W r vb v b sg (hK.below hh hK.lt) HRL.out (hb.below hh) hv (by omega)
      have HC3 : Hid (∀ W : World, Below w.heap.size w W → ∀ {v : Value}, Reads W v sg → Calls Tryd.prog 19 #[vb, v] W (OpenA W b sg)) := fun W hh v hv => hO.opened W vb v b sg (hK.below hh hK.lt) (hb.below hh) hv (by omega)
      rw [← HTD.out] at hdg
      have HC5 : Hid (∀ (W : World) (v : Value), Reads W v t → Calls Tryd.prog 12 #[v] W fun e w' => e = .returned (.agg (cb r).toArray) ∧ Below W.heap.size W w') := fun W v hv => by rw [← hdg]; exact rOf_any v t W hv (by rw [HTD.out, len_openR _ (by omega)]; omega)
      by_cases htt : t = tt
      · have HTX : Hid (∀ k, k < 256 → dig (blk32 sg (2 * k)) = dig (partB x key k (bt d k))) := fun k hk => by rw [HDD.out]; exact open_text (bt (dig b)) 256 (by rw [HSL.out]; decide) (by rw [← HTD.out, htt, HTT.out]) k hk
        subst hvb hvs
        clear hO hK hn hb hs HSG HCZ HTD HRD HDD h16 hce hdg HC5
        go_enter Tryd.func7, Tryd.ntmps7
        have tk0 : Hid True := trivial
        have tk1 : Hid True := trivial
        have tk2 : Hid True := trivial
        have tk3 : Hid True := trivial
        have tk4 : Hid True := trivial
        have tk5 : Hid True := trivial
        have tk6 : Hid True := trivial
        have tk7 : Hid True := trivial
        have tk8 : Hid True := trivial
        have tk9 : Hid True := trivial
        have tk10 : Hid True := trivial
        have tk11 : Hid True := trivial
        have tk12 : Hid True := trivial
        have tk13 : Hid True := trivial
        go_wp2_with (first
          | (clear tk0; with_reducible refine wpSeq_boxD (.tmp 0) x ?_ ?_ ?_ ?_
             · rfl
             · rfl
             · rfl
             intro gx y1 nn
             replace HG : Hid (Reads y1 (.slice (some ⟨bs, offs, none⟩) 16384 cps) sg) := HG.out.below nn.below
             replace HBW : Hid (Below w.heap.size w y1) := HBW.out.trans (nn.below.mono HBW.out.size)
             have HX : Hid (Blk y1 gx (cb x) 23) := nn.blk
             clear nn)
          | (clear tk1; go_at_call 14; refine (HLB.out y1 HBW.out).mono ?_; rintro e y2 ⟨rfl, hbz⟩
             replace HX : Hid (Blk y2 gx (cb x) 23) := HX.out.below hbz HX.out.lt
             replace HG : Hid (Reads y2 (.slice (some ⟨bs, offs, none⟩) 16384 cps) sg) := HG.out.below hbz
             replace HBW : Hid (Below w.heap.size w y2) := HBW.out.trans (hbz.mono HBW.out.size)
             rw [decide_eq_false hlb]
             clear hbz )
          | (clear tk2; go_at_call 14; refine (HLS.out y2 HBW.out).mono ?_; rintro e y3 ⟨rfl, hbz⟩
             replace HX : Hid (Blk y3 gx (cb x) 23) := HX.out.below hbz HX.out.lt
             replace HG : Hid (Reads y3 (.slice (some ⟨bs, offs, none⟩) 16384 cps) sg) := HG.out.below hbz
             replace HBW : Hid (Below w.heap.size w y3) := HBW.out.trans (hbz.mono HBW.out.size)
             rw [decide_eq_false hls]
             clear hbz )
          | (clear tk3; with_reducible refine wpSeq_loadD (.tmp 5) gx x ?_ ?_ ?_ ?_ ?_ ?_
             · exact HN.out.1
             · exact HX.out
             · rfl
             · rfl
             · rfl)
          | (clear tk4; go_at_call 18; refine (HC1.out y3 HBW.out).mono ?_; rintro e y4 ⟨rfl, hbz⟩
             replace HX : Hid (Blk y4 gx (cb x) 23) := HX.out.below hbz HX.out.lt
             replace HG : Hid (Reads y4 (.slice (some ⟨bs, offs, none⟩) 16384 cps) sg) := HG.out.below hbz
             replace HBW : Hid (Below w.heap.size w y4) := HBW.out.trans (hbz.mono HBW.out.size)
             clear hbz )
          | (clear tk5; go_at_call 17; refine (HC2.out y4 HBW.out HG.out).mono ?_; rintro e y5 ⟨rfl, hbz⟩
             replace HX : Hid (Blk y5 gx (cb x) 23) := HX.out.below hbz HX.out.lt
             replace HG : Hid (Reads y5 (.slice (some ⟨bs, offs, none⟩) 16384 cps) sg) := HG.out.below hbz
             replace HBW : Hid (Below w.heap.size w y5) := HBW.out.trans (hbz.mono HBW.out.size)
             clear hbz )
          | (clear tk6; go_at_call 19; refine (HC3.out y5 HBW.out HG.out).mono ?_; rintro e y6 ⟨v11, rfl, hr11, hbz⟩
             replace HX : Hid (Blk y6 gx (cb x) 23) := HX.out.below hbz HX.out.lt
             replace HG : Hid (Reads y6 (.slice (some ⟨bs, offs, none⟩) 16384 cps) sg) := HG.out.below hbz
             replace HBW : Hid (Below w.heap.size w y6) := HBW.out.trans (hbz.mono HBW.out.size)
             rw [HOL.out.1] at hr11
             rw [HOL.out.2]
             have H11 : Hid (Reads y6 v11 t) := hr11
             clear hbz hr11)
          | (clear tk7; with_reducible refine wpSeq_loadD (.tmp 5) gx x ?_ ?_ ?_ ?_ ?_ ?_
             · exact HN.out.1
             · exact HX.out
             · rfl
             · rfl
             · rfl)
          | (clear tk8; go_at_call 10; refine (HC4.out y6 HBW.out).mono ?_; rintro e y7 ⟨v13, rfl, hr13, hbz⟩
             replace HX : Hid (Blk y7 gx (cb x) 23) := HX.out.below hbz HX.out.lt
             replace HG : Hid (Reads y7 (.slice (some ⟨bs, offs, none⟩) 16384 cps) sg) := HG.out.below hbz
             replace H11 : Hid (Reads y7 v11 t) := H11.out.below hbz
             replace HBW : Hid (Below w.heap.size w y7) := HBW.out.trans (hbz.mono HBW.out.size)
             have H13 : Hid (Reads y7 v13 tt) := hr13
             clear hbz hr13)
          | (clear tk9; go_at_call 9; refine (rsame_b v11 v13 t tt y7 H11.out H13.out).mono ?_; rintro e y8 ⟨rfl, hbz⟩
             replace HX : Hid (Blk y8 gx (cb x) 23) := HX.out.below hbz HX.out.lt
             replace HG : Hid (Reads y8 (.slice (some ⟨bs, offs, none⟩) 16384 cps) sg) := HG.out.below hbz
             replace H11 : Hid (Reads y8 v11 t) := H11.out.below hbz
             replace H13 : Hid (Reads y8 v13 tt) := H13.out.below hbz
             replace HBW : Hid (Below w.heap.size w y8) := HBW.out.trans (hbz.mono HBW.out.size)
             rw [decide_eq_true htt]
             clear hbz )
          | (clear tk10; with_reducible refine wpSeq_not (.tmp 55) true false ?_ ?_ ?_ ?_ ?_
             · rfl
             · rfl
             · rfl
             · rfl)
          | (clear tk11; go_at_call 12; refine (HC7.out y8 HBW.out).mono ?_; rintro e y9 ⟨rfl, hbz⟩
             replace HX : Hid (Blk y9 gx (cb x) 23) := HX.out.below hbz HX.out.lt
             replace HG : Hid (Reads y9 (.slice (some ⟨bs, offs, none⟩) 16384 cps) sg) := HG.out.below hbz
             replace H11 : Hid (Reads y9 v11 t) := H11.out.below hbz
             replace H13 : Hid (Reads y9 v13 tt) := H13.out.below hbz
             replace HBW : Hid (Below w.heap.size w y9) := HBW.out.trans (hbz.mono HBW.out.size)
             clear hbz )
          | (clear tk12; with_reducible refine wpSeq_allocD ?_ ?_ ?_
             · rfl
             · rfl
             intro gd y10 nn)
          | (clear tk13; with_reducible refine wpSeq_storeD (.tmp 14) (.tmp 66) gd zb32 d ?_ ?_ ?_ ?_ ?_ ?_ ?_ ?_
             · rfl
             · exact HDL.out
             · exact nn.blk
             · rfl
             · rfl
             · rfl
             · rfl
             intro y11 hs
             have hbz := nn.below.trans (hs.only.below nn.ge nn.below.size)
             replace HX : Hid (Blk y11 gx (cb x) 23) := HX.out.below hbz HX.out.lt
             replace HG : Hid (Reads y11 (.slice (some ⟨bs, offs, none⟩) 16384 cps) sg) := HG.out.below hbz
             replace H11 : Hid (Reads y11 v11 t) := H11.out.below hbz
             replace H13 : Hid (Reads y11 v13 tt) := H13.out.below hbz
             replace HBW : Hid (Below w.heap.size w y11) := HBW.out.trans (hbz.mono HBW.out.size)
             have HD : Hid (Blk y11 gd (cb d) 23) := hs.blk
             clear nn hs hbz))
        go_loopw [15] (fun i wr => ∃ k : Nat, k ≤ 256 ∧ i = .int .i64 (k : Int) ∧ Blk wr gx (cb x) 23 ∧ Blk wr gd (cb d) 23 ∧ Reads wr (.slice (some ⟨bs, offs, none⟩) 16384 cps) sg ∧ Below w.heap.size w wr) (fun i _ => 256 - (intOf i).toNat)
        case atStart => exact ⟨0, by omega, rfl, HX.out, HD.out, HG.out, HBW.out⟩
        case round =>
          clear HX HD HG HBW H11 H13
          obtain ⟨k, hkn, rfl, hx, hd, hg, hbw⟩ := hrel
          have HX : Hid (Blk wr gx (cb x) 23) := hx
          have HD : Hid (Blk wr gd (cb d) 23) := hd
          have HG : Hid (Reads wr (.slice (some ⟨bs, offs, none⟩) 16384 cps) sg) := hg
          have HBW : Hid (Below w.heap.size w wr) := hbw
          clear hx hd hg hbw
          by_cases hlt : k < 256
          · have hi : (k : Int) < 256 := by omega
            have f5 : IntKind.i64.wrap ((k : Int) + 1) = (k : Int) + 1 := by rw [IntKind.wrap_i64]; omega
            have f6 : IntKind.i64.wrap (64 * (k : Int)) = 64 * (k : Int) := by rw [IntKind.wrap_i64]; omega
            have f7 : IntKind.i64.wrap (64 * (k : Int) + 32) = 64 * (k : Int) + 32 := by rw [IntKind.wrap_i64]; omega
            obtain ⟨q, HQ⟩ : ∃ q, Hid (q = dig (blk32 sg (2 * k))) := ⟨_, rfl⟩
            have HQL : Hid (q.length = 32) := by show _ = _; rw [HQ.out]; exact len_dig' _
            have hq : ∀ wx : World, (Op.equalIn 10000 23 (.agg (cb q).toArray) (.agg (cb q).toArray)).run Tryd.prog wx = .ok true wx := fun wx => eq_dig_same q HQL.out wx
            obtain ⟨pp, HPP⟩ : ∃ p, Hid (p = partB x key k (bt d k)) := ⟨_, rfl⟩
            have HPPL : Hid (pp.length = 32) := by show _ = _; rw [HPP.out]; exact len_partB _ _ _ _
            have HQP : Hid (q = dig pp) := by show _ = _; rw [HQ.out, HPP.out]; exact HTX.out k hlt
            have HR1 : Hid (∀ (W : World) (v : Value), Reads W v (blk32 sg (2 * k)) → Calls Tryd.prog 12 #[v] W fun e w' => e = .returned (.agg (cb q).toArray) ∧ Below W.heap.size W w') := fun W v hv => by rw [HQ.out]; exact rOf_any v _ W hv (by rw [len_blk32 (by have := HSL.out; omega)]; omega)
            have HR2 : Hid (∀ (W : World) (v : Value), Reads W v pp → Calls Tryd.prog 12 #[v] W fun e w' => e = .returned (.agg (cb q).toArray) ∧ Below W.heap.size W w') := fun W v hv => by rw [HQP.out]; exact rOf_any v _ W hv (by rw [HPPL.out]; omega)
            cases hoo : bt d k with
            | true =>
              have HKY : Hid (∀ W : World, Below w.heap.size w W → Calls Tryd.prog 23 #[.agg (cb x).toArray, .int .u64 (key : Int), .int .i64 (k : Int), .int .i64 1] W fun e w' => e = .returned (.agg (cb pp).toArray) ∧ Below W.heap.size W w') := fun W hh => by
                have hn := HN.out
                rw [HPP.out, hoo]; exact rKeyOf_any x key _ (k : Int) (1 : Int) W (key_place k hlt 1 (by omega)) ⟨hn.1, hn.2, by (split <;> omega)⟩
              have tk40 : Hid True := trivial
              have tk41 : Hid True := trivial
              have tk42 : Hid True := trivial
              have tk43 : Hid True := trivial
              have tk44 : Hid True := trivial
              have tk45 : Hid True := trivial
              go_upto_region 21 with (first
                | (clear tk40; with_reducible refine wpSeq_loadD (.tmp 14) gd d ?_ ?_ ?_ ?_ ?_ ?_
                   · exact HDL.out
                   · exact HD.out
                   · rfl
                   · rfl
                   · rfl)
                | (clear tk41; go_at_call 22; refine (HC8.out wr HBW.out k hlt).mono ?_; rintro e y41 ⟨rfl, hbz⟩
                   replace HX : Hid (Blk y41 gx (cb x) 23) := HX.out.below hbz HX.out.lt
                   replace HD : Hid (Blk y41 gd (cb d) 23) := HD.out.below hbz HD.out.lt
                   replace HG : Hid (Reads y41 (.slice (some ⟨bs, offs, none⟩) 16384 cps) sg) := HG.out.below hbz
                   replace HBW : Hid (Below w.heap.size w y41) := HBW.out.trans (hbz.mono HBW.out.size)
                   rw [hoo]
                   clear hbz )
                | (clear tk42; with_reducible refine wpSeq_loadD (.tmp 5) gx x ?_ ?_ ?_ ?_ ?_ ?_
                   · exact HN.out.1
                   · exact HX.out
                   · rfl
                   · rfl
                   · rfl)
                | (clear tk43; go_at_call 23; refine (HKY.out y41 HBW.out).mono ?_; rintro e y42 ⟨rfl, hbz⟩
                   replace HX : Hid (Blk y42 gx (cb x) 23) := HX.out.below hbz HX.out.lt
                   replace HD : Hid (Blk y42 gd (cb d) 23) := HD.out.below hbz HD.out.lt
                   replace HG : Hid (Reads y42 (.slice (some ⟨bs, offs, none⟩) 16384 cps) sg) := HG.out.below hbz
                   replace HBW : Hid (Below w.heap.size w y42) := HBW.out.trans (hbz.mono HBW.out.size)
                   clear hbz )
                | (clear tk44; with_reducible refine wpSeq_allocD ?_ ?_ ?_
                   · rfl
                   · rfl
                   intro gp y43 nn)
                | (clear tk45; with_reducible refine wpSeq_storeD (.tmp 17) (.tmp 78) gp zb32 pp ?_ ?_ ?_ ?_ ?_ ?_ ?_ ?_
                   · rfl
                   · exact HPPL.out
                   · exact nn.blk
                   · rfl
                   · rfl
                   · rfl
                   · rfl
                   intro y44 hs
                   have hbz := nn.below.trans (hs.only.below nn.ge nn.below.size)
                   replace HX : Hid (Blk y44 gx (cb x) 23) := HX.out.below hbz HX.out.lt
                   replace HD : Hid (Blk y44 gd (cb d) 23) := HD.out.below hbz HD.out.lt
                   replace HG : Hid (Reads y44 (.slice (some ⟨bs, offs, none⟩) 16384 cps) sg) := HG.out.below hbz
                   replace HBW : Hid (Below w.heap.size w y44) := HBW.out.trans (hbz.mono HBW.out.size)
                   have HGP : Hid (Blk y44 gp (cb pp) 23) := hs.blk
                   clear nn hs hbz))
              have HYB : Hid (Below w.heap.size w (World.drew y44)) := HBW.out.drew
              replace HX : Hid (Blk (World.drew y44) gx (cb x) 23) := HX.out.drew
              replace HD : Hid (Blk (World.drew y44) gd (cb d) 23) := HD.out.drew
              replace HGP : Hid (Blk (World.drew y44) gp (cb pp) 23) := HGP.out.drew
              replace HG : Hid (Reads (World.drew y44) (.slice (some ⟨bs, offs, none⟩) 16384 cps) sg) := reads_drew HG.out
              clear HBW
              refine wp_region_held_drew (S := Over (World.drew y44)) (by kernel_rfl) (Over.refl _) ?_
              intro hS
              change wpAnyH _ _ _ _ _ _ _ _ (World.drew y44)
              generalize World.drew y44 = y0 at *
              refine wpAnyH_take (i := 0) (v := .slice (some ⟨bs, offs, none⟩) 16384 cps) rfl (by kernel_rfl) (by kernel_rfl) (by kernel_rfl) (fun _ _ _ h => h) (Or.inl ⟨by rfl, fun wx hx => by simp [go_sem]⟩) hS ?_
              simp only [Act.put, List.getElem_toArray, List.getElem_cons_zero, List.setIfInBounds_toArray, List.set_cons_zero, List.set_cons_succ]
              refine wpAnyH_take (i := 1) (v := .int .i64 16384) rfl (by kernel_rfl) (by kernel_rfl) (by kernel_rfl) (fun _ _ _ h => h) (Or.inl ⟨by rfl, fun wx hx => by simp [go_sem]⟩) hS ?_
              simp only [Act.put, List.getElem_toArray, List.getElem_cons_succ, List.getElem_cons_zero, List.setIfInBounds_toArray, List.set_cons_zero, List.set_cons_succ]
              refine wpAnyH_take (i := 2) (v := .bool false) rfl (by kernel_rfl) (by kernel_rfl) (by kernel_rfl) (fun _ _ _ h => h) (Or.inl ⟨by rfl, fun wx hx => by simp [go_sem]⟩) hS ?_
              simp only [Act.put, List.getElem_toArray, List.getElem_cons_succ, List.getElem_cons_zero, List.setIfInBounds_toArray, List.set_cons_zero, List.set_cons_succ]
              refine wpAnyH_take (i := 3) (v := .bool false) rfl (by kernel_rfl) (by kernel_rfl) (by kernel_rfl) (fun _ _ _ h => h) (Or.inl ⟨by rfl, fun wx hx => by simp [go_sem]⟩) hS ?_
              simp only [Act.put, List.getElem_toArray, List.getElem_cons_succ, List.getElem_cons_zero, List.setIfInBounds_toArray, List.set_cons_zero, List.set_cons_succ]
              refine wpAnyH_take (i := 4) (v := .slice (some ⟨bs, offs, none⟩) 16384 cps) rfl (by kernel_rfl) (by kernel_rfl) (by kernel_rfl) (fun _ _ _ h => h) (Or.inl ⟨by rfl, fun wx hx => by simp [go_sem]⟩) hS ?_
              simp only [Act.put, List.getElem_toArray, List.getElem_cons_succ, List.getElem_cons_zero, List.setIfInBounds_toArray, List.set_cons_zero, List.set_cons_succ]
              refine wpAnyH_take (i := 5) (v := .int .i64 (k : Int)) rfl (by kernel_rfl) (by kernel_rfl) (by kernel_rfl) (fun _ _ _ h => h) (Or.inl ⟨by rfl, fun wx hx => by simp [go_sem]⟩) hS ?_
              simp only [Act.put, List.getElem_toArray, List.getElem_cons_succ, List.getElem_cons_zero, List.setIfInBounds_toArray, List.set_cons_zero, List.set_cons_succ]
              refine wpAnyH_take (i := 6) (v := .int .i64 (64 * (k : Int))) rfl (by kernel_rfl) (by kernel_rfl) (by kernel_rfl) (fun _ _ _ h => h) (Or.inl ⟨by rfl, fun wx hx => by simp [go_sem, f6]⟩) hS ?_
              simp only [Act.put, List.getElem_toArray, List.getElem_cons_succ, List.getElem_cons_zero, List.setIfInBounds_toArray, List.set_cons_zero, List.set_cons_succ]
              refine wpAnyH_take (i := 7) (v := .int .i64 (k : Int)) rfl (by kernel_rfl) (by kernel_rfl) (by kernel_rfl) (fun _ _ _ h => h) (Or.inl ⟨by rfl, fun wx hx => by simp [go_sem]⟩) hS ?_
              simp only [Act.put, List.getElem_toArray, List.getElem_cons_succ, List.getElem_cons_zero, List.setIfInBounds_toArray, List.set_cons_zero, List.set_cons_succ]
              refine wpAnyH_take (i := 8) (v := .int .i64 (64 * (k : Int))) rfl (by kernel_rfl) (by kernel_rfl) (by kernel_rfl) (fun _ _ _ h => h) (Or.inl ⟨by rfl, fun wx hx => by simp [go_sem, f6]⟩) hS ?_
              simp only [Act.put, List.getElem_toArray, List.getElem_cons_succ, List.getElem_cons_zero, List.setIfInBounds_toArray, List.set_cons_zero, List.set_cons_succ]
              refine wpAnyH_take (i := 9) (v := .int .i64 (64 * (k : Int) + 32)) rfl (by kernel_rfl) (by kernel_rfl) (by kernel_rfl) (fun _ _ _ h => h) (Or.inl ⟨by rfl, fun wx hx => by simp [go_sem, f7]⟩) hS ?_
              simp only [Act.put, List.getElem_toArray, List.getElem_cons_succ, List.getElem_cons_zero, List.setIfInBounds_toArray, List.set_cons_zero, List.set_cons_succ]
              refine wpAnyH_take (i := 10) (v := .slice (some ⟨bs, offs + 32 * (2 * k), none⟩) 32 (cps - 32 * (2 * k))) rfl (by kernel_rfl) (by kernel_rfl) (by kernel_rfl) (fun _ _ _ h => h) (Or.inl ⟨by rfl, fun wx hx => by exact cut64 bs offs cps k hlt HCPS _ _ _ _ wx rfl rfl rfl rfl⟩) hS ?_
              simp only [Act.put, List.getElem_toArray, List.getElem_cons_succ, List.getElem_cons_zero, List.setIfInBounds_toArray, List.set_cons_zero, List.set_cons_succ]
              refine wpAnyH_take (i := 12) (v := .slice (some ⟨gp, 0, none⟩) 32 32) rfl (by kernel_rfl) (by kernel_rfl) (by kernel_rfl) (fun _ _ _ h => h) (Or.inl ⟨by rfl, fun wx hx => by simp [execOp, Act.eval, slice_dig]⟩) hS ?_
              simp only [Act.put, List.getElem_toArray, List.getElem_cons_succ, List.getElem_cons_zero, List.setIfInBounds_toArray, List.set_cons_zero, List.set_cons_succ]
              refine wpAnyH_enter 11 (by kernel_rfl) rfl (by rfl) (f := 12) (args := #[.slice (some ⟨bs, offs + 32 * (2 * k), none⟩) 32 (cps - 32 * (2 * k))]) (by simp [go_sem]) (HR1.out _ _ ((HG.out.below hS).cut (2 * k) (by have := HSL.out; omega))) ?_
              rintro e x1 ⟨rfl, hbq⟩
              replace hS := Over.more hS hbq
              refine ⟨_, rfl, hS, ?_⟩
              clear hbq
              simp only [Act.put, List.getElem_toArray, List.getElem_cons_succ, List.getElem_cons_zero, List.setIfInBounds_toArray, List.set_cons_zero, List.set_cons_succ]
              refine wpAnyH_enter 13 (by kernel_rfl) rfl (by rfl) (f := 12) (args := #[.slice (some ⟨gp, 0, none⟩) 32 32]) (by simp [go_sem]) (HR2.out _ _ ((HGP.out.below hS HGP.out.lt).reads HPPL.out.symm (by rw [HPPL.out]; exact Nat.le_refl _))) ?_
              rintro e x2 ⟨rfl, hbq⟩
              replace hS := Over.more hS hbq
              refine ⟨_, rfl, hS, ?_⟩
              clear hbq
              simp only [Act.put, List.getElem_toArray, List.getElem_cons_succ, List.getElem_cons_zero, List.setIfInBounds_toArray, List.set_cons_zero, List.set_cons_succ]
              refine wpAnyH_take (i := 14) (v := .bool false) rfl (by kernel_rfl) (by kernel_rfl) (by kernel_rfl) (fun _ _ _ h => h) (Or.inl ⟨by rfl, fun wx hx => by simp [go_sem, hq]⟩) hS ?_
              simp only [Act.put, List.getElem_toArray, List.getElem_cons_succ, List.getElem_cons_zero, List.setIfInBounds_toArray, List.set_cons_zero, List.set_cons_succ]
              refine wpAnyH_take (i := 15) (v := .bool false) rfl (by kernel_rfl) (by kernel_rfl) (by kernel_rfl) (fun _ _ _ h => h) (Or.inl ⟨by rfl, fun wx hx => by simp [go_sem]⟩) hS ?_
              simp only [Act.put, List.getElem_toArray, List.getElem_cons_succ, List.getElem_cons_zero, List.setIfInBounds_toArray, List.set_cons_zero, List.set_cons_succ]
              refine wpAnyH_done (by kernel_rfl) ?_ _
              have HBW : Hid (Below w.heap.size w x2) := HYB.out.trans (Below.mono hS HYB.out.size)
              replace HX : Hid (Blk x2 gx (cb x) 23) := HX.out.below hS HX.out.lt
              replace HD : Hid (Blk x2 gd (cb d) 23) := HD.out.below hS HD.out.lt
              replace HG : Hid (Reads x2 (.slice (some ⟨bs, offs, none⟩) 16384 cps) sg) := HG.out.below hS
              clear hS HGP HYB HKY HR1 HR2
              go_wp2
              go_roundw
              case rel => exact ⟨k + 1, by omega, by simp, HX.out, HD.out, HG.out, HBW.out⟩
              case measure => simp [intOf]; omega
            | false =>
              have HKY : Hid (∀ W : World, Below w.heap.size w W → Calls Tryd.prog 23 #[.agg (cb x).toArray, .int .u64 (key : Int), .int .i64 (k : Int), .int .i64 0] W fun e w' => e = .returned (.agg (cb pp).toArray) ∧ Below W.heap.size W w') := fun W hh => by
                have hn := HN.out
                rw [HPP.out, hoo]; exact rKeyOf_any x key _ (k : Int) (0 : Int) W (key_place k hlt 0 (by omega)) ⟨hn.1, hn.2, by (split <;> omega)⟩
              have tk40 : Hid True := trivial
              have tk41 : Hid True := trivial
              have tk42 : Hid True := trivial
              have tk43 : Hid True := trivial
              have tk44 : Hid True := trivial
              have tk45 : Hid True := trivial
              go_upto_region 21 with (first
                | (clear tk40; with_reducible refine wpSeq_loadD (.tmp 14) gd d ?_ ?_ ?_ ?_ ?_ ?_
                   · exact HDL.out
                   · exact HD.out
                   · rfl
                   · rfl
                   · rfl)
                | (clear tk41; go_at_call 22; refine (HC8.out wr HBW.out k hlt).mono ?_; rintro e y41 ⟨rfl, hbz⟩
                   replace HX : Hid (Blk y41 gx (cb x) 23) := HX.out.below hbz HX.out.lt
                   replace HD : Hid (Blk y41 gd (cb d) 23) := HD.out.below hbz HD.out.lt
                   replace HG : Hid (Reads y41 (.slice (some ⟨bs, offs, none⟩) 16384 cps) sg) := HG.out.below hbz
                   replace HBW : Hid (Below w.heap.size w y41) := HBW.out.trans (hbz.mono HBW.out.size)
                   rw [hoo]
                   clear hbz )
                | (clear tk42; with_reducible refine wpSeq_loadD (.tmp 5) gx x ?_ ?_ ?_ ?_ ?_ ?_
                   · exact HN.out.1
                   · exact HX.out
                   · rfl
                   · rfl
                   · rfl)
                | (clear tk43; go_at_call 23; refine (HKY.out y41 HBW.out).mono ?_; rintro e y42 ⟨rfl, hbz⟩
                   replace HX : Hid (Blk y42 gx (cb x) 23) := HX.out.below hbz HX.out.lt
                   replace HD : Hid (Blk y42 gd (cb d) 23) := HD.out.below hbz HD.out.lt
                   replace HG : Hid (Reads y42 (.slice (some ⟨bs, offs, none⟩) 16384 cps) sg) := HG.out.below hbz
                   replace HBW : Hid (Below w.heap.size w y42) := HBW.out.trans (hbz.mono HBW.out.size)
                   clear hbz )
                | (clear tk44; with_reducible refine wpSeq_allocD ?_ ?_ ?_
                   · rfl
                   · rfl
                   intro gp y43 nn)
                | (clear tk45; with_reducible refine wpSeq_storeD (.tmp 17) (.tmp 78) gp zb32 pp ?_ ?_ ?_ ?_ ?_ ?_ ?_ ?_
                   · rfl
                   · exact HPPL.out
                   · exact nn.blk
                   · rfl
                   · rfl
                   · rfl
                   · rfl
                   intro y44 hs
                   have hbz := nn.below.trans (hs.only.below nn.ge nn.below.size)
                   replace HX : Hid (Blk y44 gx (cb x) 23) := HX.out.below hbz HX.out.lt
                   replace HD : Hid (Blk y44 gd (cb d) 23) := HD.out.below hbz HD.out.lt
                   replace HG : Hid (Reads y44 (.slice (some ⟨bs, offs, none⟩) 16384 cps) sg) := HG.out.below hbz
                   replace HBW : Hid (Below w.heap.size w y44) := HBW.out.trans (hbz.mono HBW.out.size)
                   have HGP : Hid (Blk y44 gp (cb pp) 23) := hs.blk
                   clear nn hs hbz))
              have HYB : Hid (Below w.heap.size w (World.drew y44)) := HBW.out.drew
              replace HX : Hid (Blk (World.drew y44) gx (cb x) 23) := HX.out.drew
              replace HD : Hid (Blk (World.drew y44) gd (cb d) 23) := HD.out.drew
              replace HGP : Hid (Blk (World.drew y44) gp (cb pp) 23) := HGP.out.drew
              replace HG : Hid (Reads (World.drew y44) (.slice (some ⟨bs, offs, none⟩) 16384 cps) sg) := reads_drew HG.out
              clear HBW
              refine wp_region_held_drew (S := Over (World.drew y44)) (by kernel_rfl) (Over.refl _) ?_
              intro hS
              change wpAnyH _ _ _ _ _ _ _ _ (World.drew y44)
              generalize World.drew y44 = y0 at *
              refine wpAnyH_take (i := 0) (v := .slice (some ⟨bs, offs, none⟩) 16384 cps) rfl (by kernel_rfl) (by kernel_rfl) (by kernel_rfl) (fun _ _ _ h => h) (Or.inl ⟨by rfl, fun wx hx => by simp [go_sem]⟩) hS ?_
              simp only [Act.put, List.getElem_toArray, List.getElem_cons_zero, List.setIfInBounds_toArray, List.set_cons_zero, List.set_cons_succ]
              refine wpAnyH_take (i := 1) (v := .int .i64 16384) rfl (by kernel_rfl) (by kernel_rfl) (by kernel_rfl) (fun _ _ _ h => h) (Or.inl ⟨by rfl, fun wx hx => by simp [go_sem]⟩) hS ?_
              simp only [Act.put, List.getElem_toArray, List.getElem_cons_succ, List.getElem_cons_zero, List.setIfInBounds_toArray, List.set_cons_zero, List.set_cons_succ]
              refine wpAnyH_take (i := 2) (v := .bool false) rfl (by kernel_rfl) (by kernel_rfl) (by kernel_rfl) (fun _ _ _ h => h) (Or.inl ⟨by rfl, fun wx hx => by simp [go_sem]⟩) hS ?_
              simp only [Act.put, List.getElem_toArray, List.getElem_cons_succ, List.getElem_cons_zero, List.setIfInBounds_toArray, List.set_cons_zero, List.set_cons_succ]
              refine wpAnyH_take (i := 3) (v := .bool false) rfl (by kernel_rfl) (by kernel_rfl) (by kernel_rfl) (fun _ _ _ h => h) (Or.inl ⟨by rfl, fun wx hx => by simp [go_sem]⟩) hS ?_
              simp only [Act.put, List.getElem_toArray, List.getElem_cons_succ, List.getElem_cons_zero, List.setIfInBounds_toArray, List.set_cons_zero, List.set_cons_succ]
              refine wpAnyH_take (i := 4) (v := .slice (some ⟨bs, offs, none⟩) 16384 cps) rfl (by kernel_rfl) (by kernel_rfl) (by kernel_rfl) (fun _ _ _ h => h) (Or.inl ⟨by rfl, fun wx hx => by simp [go_sem]⟩) hS ?_
              simp only [Act.put, List.getElem_toArray, List.getElem_cons_succ, List.getElem_cons_zero, List.setIfInBounds_toArray, List.set_cons_zero, List.set_cons_succ]
              refine wpAnyH_take (i := 5) (v := .int .i64 (k : Int)) rfl (by kernel_rfl) (by kernel_rfl) (by kernel_rfl) (fun _ _ _ h => h) (Or.inl ⟨by rfl, fun wx hx => by simp [go_sem]⟩) hS ?_
              simp only [Act.put, List.getElem_toArray, List.getElem_cons_succ, List.getElem_cons_zero, List.setIfInBounds_toArray, List.set_cons_zero, List.set_cons_succ]
              refine wpAnyH_take (i := 6) (v := .int .i64 (64 * (k : Int))) rfl (by kernel_rfl) (by kernel_rfl) (by kernel_rfl) (fun _ _ _ h => h) (Or.inl ⟨by rfl, fun wx hx => by simp [go_sem, f6]⟩) hS ?_
              simp only [Act.put, List.getElem_toArray, List.getElem_cons_succ, List.getElem_cons_zero, List.setIfInBounds_toArray, List.set_cons_zero, List.set_cons_succ]
              refine wpAnyH_take (i := 7) (v := .int .i64 (k : Int)) rfl (by kernel_rfl) (by kernel_rfl) (by kernel_rfl) (fun _ _ _ h => h) (Or.inl ⟨by rfl, fun wx hx => by simp [go_sem]⟩) hS ?_
              simp only [Act.put, List.getElem_toArray, List.getElem_cons_succ, List.getElem_cons_zero, List.setIfInBounds_toArray, List.set_cons_zero, List.set_cons_succ]
              refine wpAnyH_take (i := 8) (v := .int .i64 (64 * (k : Int))) rfl (by kernel_rfl) (by kernel_rfl) (by kernel_rfl) (fun _ _ _ h => h) (Or.inl ⟨by rfl, fun wx hx => by simp [go_sem, f6]⟩) hS ?_
              simp only [Act.put, List.getElem_toArray, List.getElem_cons_succ, List.getElem_cons_zero, List.setIfInBounds_toArray, List.set_cons_zero, List.set_cons_succ]
              refine wpAnyH_take (i := 9) (v := .int .i64 (64 * (k : Int) + 32)) rfl (by kernel_rfl) (by kernel_rfl) (by kernel_rfl) (fun _ _ _ h => h) (Or.inl ⟨by rfl, fun wx hx => by simp [go_sem, f7]⟩) hS ?_
              simp only [Act.put, List.getElem_toArray, List.getElem_cons_succ, List.getElem_cons_zero, List.setIfInBounds_toArray, List.set_cons_zero, List.set_cons_succ]
              refine wpAnyH_take (i := 10) (v := .slice (some ⟨bs, offs + 32 * (2 * k), none⟩) 32 (cps - 32 * (2 * k))) rfl (by kernel_rfl) (by kernel_rfl) (by kernel_rfl) (fun _ _ _ h => h) (Or.inl ⟨by rfl, fun wx hx => by exact cut64 bs offs cps k hlt HCPS _ _ _ _ wx rfl rfl rfl rfl⟩) hS ?_
              simp only [Act.put, List.getElem_toArray, List.getElem_cons_succ, List.getElem_cons_zero, List.setIfInBounds_toArray, List.set_cons_zero, List.set_cons_succ]
              refine wpAnyH_take (i := 12) (v := .slice (some ⟨gp, 0, none⟩) 32 32) rfl (by kernel_rfl) (by kernel_rfl) (by kernel_rfl) (fun _ _ _ h => h) (Or.inl ⟨by rfl, fun wx hx => by simp [execOp, Act.eval, slice_dig]⟩) hS ?_
              simp only [Act.put, List.getElem_toArray, List.getElem_cons_succ, List.getElem_cons_zero, List.setIfInBounds_toArray, List.set_cons_zero, List.set_cons_succ]
              refine wpAnyH_enter 11 (by kernel_rfl) rfl (by rfl) (f := 12) (args := #[.slice (some ⟨bs, offs + 32 * (2 * k), none⟩) 32 (cps - 32 * (2 * k))]) (by simp [go_sem]) (HR1.out _ _ ((HG.out.below hS).cut (2 * k) (by have := HSL.out; omega))) ?_
              rintro e x1 ⟨rfl, hbq⟩
              replace hS := Over.more hS hbq
              refine ⟨_, rfl, hS, ?_⟩
              clear hbq
              simp only [Act.put, List.getElem_toArray, List.getElem_cons_succ, List.getElem_cons_zero, List.setIfInBounds_toArray, List.set_cons_zero, List.set_cons_succ]
              refine wpAnyH_enter 13 (by kernel_rfl) rfl (by rfl) (f := 12) (args := #[.slice (some ⟨gp, 0, none⟩) 32 32]) (by simp [go_sem]) (HR2.out _ _ ((HGP.out.below hS HGP.out.lt).reads HPPL.out.symm (by rw [HPPL.out]; exact Nat.le_refl _))) ?_
              rintro e x2 ⟨rfl, hbq⟩
              replace hS := Over.more hS hbq
              refine ⟨_, rfl, hS, ?_⟩
              clear hbq
              simp only [Act.put, List.getElem_toArray, List.getElem_cons_succ, List.getElem_cons_zero, List.setIfInBounds_toArray, List.set_cons_zero, List.set_cons_succ]
              refine wpAnyH_take (i := 14) (v := .bool false) rfl (by kernel_rfl) (by kernel_rfl) (by kernel_rfl) (fun _ _ _ h => h) (Or.inl ⟨by rfl, fun wx hx => by simp [go_sem, hq]⟩) hS ?_
              simp only [Act.put, List.getElem_toArray, List.getElem_cons_succ, List.getElem_cons_zero, List.setIfInBounds_toArray, List.set_cons_zero, List.set_cons_succ]
              refine wpAnyH_take (i := 15) (v := .bool false) rfl (by kernel_rfl) (by kernel_rfl) (by kernel_rfl) (fun _ _ _ h => h) (Or.inl ⟨by rfl, fun wx hx => by simp [go_sem]⟩) hS ?_
              simp only [Act.put, List.getElem_toArray, List.getElem_cons_succ, List.getElem_cons_zero, List.setIfInBounds_toArray, List.set_cons_zero, List.set_cons_succ]
              refine wpAnyH_done (by kernel_rfl) ?_ _
              have HBW : Hid (Below w.heap.size w x2) := HYB.out.trans (Below.mono hS HYB.out.size)
              replace HX : Hid (Blk x2 gx (cb x) 23) := HX.out.below hS HX.out.lt
              replace HD : Hid (Blk x2 gd (cb d) 23) := HD.out.below hS HD.out.lt
              replace HG : Hid (Reads x2 (.slice (some ⟨bs, offs, none⟩) 16384 cps) sg) := HG.out.below hS
              clear hS HGP HYB HKY HR1 HR2
              go_wp2
              go_roundw
              case rel => exact ⟨k + 1, by omega, by simp, HX.out, HD.out, HG.out, HBW.out⟩
              case measure => simp [intOf]; omega
          · have hi : ¬ ((k : Int) < 256) := by omega
            go_wp2_with (go_at_call 13; refine (HWK.out _ HBW.out).mono ?_; rintro e x9 ⟨rfl, hbz⟩; replace HBW : Hid (Below w.heap.size w x9) := HBW.out.trans (hbz.mono HBW.out.size); clear hbz)
            go_ret
            exact ⟨rfl, HBW.out⟩
      · subst hvb hvs
        clear hO hK hn hb hs HSG HCZ HTD HRD HDD h16 hce hdg
        go_enter Tryd.func7, Tryd.ntmps7
        have tk0 : Hid True := trivial
        have tk1 : Hid True := trivial
        have tk2 : Hid True := trivial
        have tk3 : Hid True := trivial
        have tk4 : Hid True := trivial
        have tk5 : Hid True := trivial
        have tk6 : Hid True := trivial
        have tk7 : Hid True := trivial
        have tk8 : Hid True := trivial
        have tk9 : Hid True := trivial
        have tk10 : Hid True := trivial
        have tk11 : Hid True := trivial
        have tk12 : Hid True := trivial
        have tk13 : Hid True := trivial
        go_wp2_with (first
          | (clear tk0; with_reducible refine wpSeq_boxD (.tmp 0) x ?_ ?_ ?_ ?_
             · rfl
             · rfl
             · rfl
             intro gx y1 nn
             replace HG : Hid (Reads y1 (.slice (some ⟨bs, offs, none⟩) 16384 cps) sg) := HG.out.below nn.below
             replace HBW : Hid (Below w.heap.size w y1) := HBW.out.trans (nn.below.mono HBW.out.size)
             have HX : Hid (Blk y1 gx (cb x) 23) := nn.blk
             clear nn)
          | (clear tk1; go_at_call 14; refine (HLB.out y1 HBW.out).mono ?_; rintro e y2 ⟨rfl, hbz⟩
             replace HX : Hid (Blk y2 gx (cb x) 23) := HX.out.below hbz HX.out.lt
             replace HG : Hid (Reads y2 (.slice (some ⟨bs, offs, none⟩) 16384 cps) sg) := HG.out.below hbz
             replace HBW : Hid (Below w.heap.size w y2) := HBW.out.trans (hbz.mono HBW.out.size)
             rw [decide_eq_false hlb]
             clear hbz )
          | (clear tk2; go_at_call 14; refine (HLS.out y2 HBW.out).mono ?_; rintro e y3 ⟨rfl, hbz⟩
             replace HX : Hid (Blk y3 gx (cb x) 23) := HX.out.below hbz HX.out.lt
             replace HG : Hid (Reads y3 (.slice (some ⟨bs, offs, none⟩) 16384 cps) sg) := HG.out.below hbz
             replace HBW : Hid (Below w.heap.size w y3) := HBW.out.trans (hbz.mono HBW.out.size)
             rw [decide_eq_false hls]
             clear hbz )
          | (clear tk3; with_reducible refine wpSeq_loadD (.tmp 5) gx x ?_ ?_ ?_ ?_ ?_ ?_
             · exact HN.out.1
             · exact HX.out
             · rfl
             · rfl
             · rfl)
          | (clear tk4; go_at_call 18; refine (HC1.out y3 HBW.out).mono ?_; rintro e y4 ⟨rfl, hbz⟩
             replace HX : Hid (Blk y4 gx (cb x) 23) := HX.out.below hbz HX.out.lt
             replace HG : Hid (Reads y4 (.slice (some ⟨bs, offs, none⟩) 16384 cps) sg) := HG.out.below hbz
             replace HBW : Hid (Below w.heap.size w y4) := HBW.out.trans (hbz.mono HBW.out.size)
             clear hbz )
          | (clear tk5; go_at_call 17; refine (HC2.out y4 HBW.out HG.out).mono ?_; rintro e y5 ⟨rfl, hbz⟩
             replace HX : Hid (Blk y5 gx (cb x) 23) := HX.out.below hbz HX.out.lt
             replace HG : Hid (Reads y5 (.slice (some ⟨bs, offs, none⟩) 16384 cps) sg) := HG.out.below hbz
             replace HBW : Hid (Below w.heap.size w y5) := HBW.out.trans (hbz.mono HBW.out.size)
             clear hbz )
          | (clear tk6; go_at_call 19; refine (HC3.out y5 HBW.out HG.out).mono ?_; rintro e y6 ⟨v11, rfl, hr11, hbz⟩
             replace HX : Hid (Blk y6 gx (cb x) 23) := HX.out.below hbz HX.out.lt
             replace HG : Hid (Reads y6 (.slice (some ⟨bs, offs, none⟩) 16384 cps) sg) := HG.out.below hbz
             replace HBW : Hid (Below w.heap.size w y6) := HBW.out.trans (hbz.mono HBW.out.size)
             rw [HOL.out.1] at hr11
             rw [HOL.out.2]
             have H11 : Hid (Reads y6 v11 t) := hr11
             clear hbz hr11)
          | (clear tk7; with_reducible refine wpSeq_loadD (.tmp 5) gx x ?_ ?_ ?_ ?_ ?_ ?_
             · exact HN.out.1
             · exact HX.out
             · rfl
             · rfl
             · rfl)
          | (clear tk8; go_at_call 10; refine (HC4.out y6 HBW.out).mono ?_; rintro e y7 ⟨v13, rfl, hr13, hbz⟩
             replace HX : Hid (Blk y7 gx (cb x) 23) := HX.out.below hbz HX.out.lt
             replace HG : Hid (Reads y7 (.slice (some ⟨bs, offs, none⟩) 16384 cps) sg) := HG.out.below hbz
             replace H11 : Hid (Reads y7 v11 t) := H11.out.below hbz
             replace HBW : Hid (Below w.heap.size w y7) := HBW.out.trans (hbz.mono HBW.out.size)
             have H13 : Hid (Reads y7 v13 tt) := hr13
             clear hbz hr13)
          | (clear tk9; go_at_call 9; refine (rsame_b v11 v13 t tt y7 H11.out H13.out).mono ?_; rintro e y8 ⟨rfl, hbz⟩
             replace HX : Hid (Blk y8 gx (cb x) 23) := HX.out.below hbz HX.out.lt
             replace HG : Hid (Reads y8 (.slice (some ⟨bs, offs, none⟩) 16384 cps) sg) := HG.out.below hbz
             replace H11 : Hid (Reads y8 v11 t) := H11.out.below hbz
             replace H13 : Hid (Reads y8 v13 tt) := H13.out.below hbz
             replace HBW : Hid (Below w.heap.size w y8) := HBW.out.trans (hbz.mono HBW.out.size)
             rw [decide_eq_false htt]
             clear hbz )
          | (clear tk10; with_reducible refine wpSeq_not (.tmp 55) false true ?_ ?_ ?_ ?_ ?_
             · rfl
             · rfl
             · rfl
             · rfl)
          | (clear tk11; go_at_call 12; refine (HC5.out y8 v11 H11.out).mono ?_; rintro e y9 ⟨rfl, hbz⟩
             replace HX : Hid (Blk y9 gx (cb x) 23) := HX.out.below hbz HX.out.lt
             replace HG : Hid (Reads y9 (.slice (some ⟨bs, offs, none⟩) 16384 cps) sg) := HG.out.below hbz
             replace H11 : Hid (Reads y9 v11 t) := H11.out.below hbz
             replace H13 : Hid (Reads y9 v13 tt) := H13.out.below hbz
             replace HBW : Hid (Below w.heap.size w y9) := HBW.out.trans (hbz.mono HBW.out.size)
             clear hbz )
          | (clear tk12; go_at_call 12; refine (HC6.out y9 v13 H13.out).mono ?_; rintro e y10 ⟨rfl, hbz⟩
             replace HX : Hid (Blk y10 gx (cb x) 23) := HX.out.below hbz HX.out.lt
             replace HG : Hid (Reads y10 (.slice (some ⟨bs, offs, none⟩) 16384 cps) sg) := HG.out.below hbz
             replace H11 : Hid (Reads y10 v11 t) := H11.out.below hbz
             replace H13 : Hid (Reads y10 v13 tt) := H13.out.below hbz
             replace HBW : Hid (Below w.heap.size w y10) := HBW.out.trans (hbz.mono HBW.out.size)
             clear hbz )
          | (clear tk13; go_at_call 13; refine (HWK.out y10 HBW.out).mono ?_; rintro e y11 ⟨rfl, hbz⟩
             replace HX : Hid (Blk y11 gx (cb x) 23) := HX.out.below hbz HX.out.lt
             replace HG : Hid (Reads y11 (.slice (some ⟨bs, offs, none⟩) 16384 cps) sg) := HG.out.below hbz
             replace H11 : Hid (Reads y11 v11 t) := H11.out.below hbz
             replace H13 : Hid (Reads y11 v13 tt) := H13.out.below hbz
             replace HBW : Hid (Below w.heap.size w y11) := HBW.out.trans (hbz.mono HBW.out.size)
             clear hbz ))
        go_ret
        exact ⟨rfl, HBW.out⟩
    · have HC2 : Hid (∀ W : World, Below w.heap.size w W → Calls Tryd.prog 17 #[.agg (cb r).toArray, vb, vs] W fun e w' => e = .returned (.int .i64 15) ∧ Below W.heap.size W w') := fun W hh => by rw [← hce]; exact hO.check W r vb vs b sig (hK.below hh hK.lt) HRL.out (hb.below hh) (hs.below hh) (by omega)
      obtain ⟨ads, cps, hvs, hqs⟩ := id hs
      clear hqs
      subst hvb hvs
      clear hO hK hn hb hs HRD HTT HDD hce
      go_enter Tryd.func7, Tryd.ntmps7
      have tk0 : Hid True := trivial
      have tk1 : Hid True := trivial
      have tk2 : Hid True := trivial
      have tk3 : Hid True := trivial
      have tk4 : Hid True := trivial
      have tk5 : Hid True := trivial
      have tk6 : Hid True := trivial
      have tk7 : Hid True := trivial
      go_wp2_with (first
        | (clear tk0; with_reducible refine wpSeq_boxD (.tmp 0) x ?_ ?_ ?_ ?_
           · rfl
           · rfl
           · rfl
           intro gx y1 nn
           replace HBW : Hid (Below w.heap.size w y1) := HBW.out.trans (nn.below.mono HBW.out.size)
           have HX : Hid (Blk y1 gx (cb x) 23) := nn.blk
           clear nn)
        | (clear tk1; go_at_call 14; refine (HLB.out y1 HBW.out).mono ?_; rintro e y2 ⟨rfl, hbz⟩
           replace HX : Hid (Blk y2 gx (cb x) 23) := HX.out.below hbz HX.out.lt
           replace HBW : Hid (Below w.heap.size w y2) := HBW.out.trans (hbz.mono HBW.out.size)
           rw [decide_eq_false hlb]
           clear hbz )
        | (clear tk2; go_at_call 14; refine (HLS.out y2 HBW.out).mono ?_; rintro e y3 ⟨rfl, hbz⟩
           replace HX : Hid (Blk y3 gx (cb x) 23) := HX.out.below hbz HX.out.lt
           replace HBW : Hid (Below w.heap.size w y3) := HBW.out.trans (hbz.mono HBW.out.size)
           rw [decide_eq_false hls]
           clear hbz )
        | (clear tk3; with_reducible refine wpSeq_loadD (.tmp 5) gx x ?_ ?_ ?_ ?_ ?_ ?_
           · exact HN.out.1
           · exact HX.out
           · rfl
           · rfl
           · rfl)
        | (clear tk4; go_at_call 18; refine (HC1.out y3 HBW.out).mono ?_; rintro e y4 ⟨rfl, hbz⟩
           replace HX : Hid (Blk y4 gx (cb x) 23) := HX.out.below hbz HX.out.lt
           replace HBW : Hid (Below w.heap.size w y4) := HBW.out.trans (hbz.mono HBW.out.size)
           clear hbz )
        | (clear tk5; go_at_call 17; refine (HC2.out y4 HBW.out).mono ?_; rintro e y5 ⟨rfl, hbz⟩
           replace HX : Hid (Blk y5 gx (cb x) 23) := HX.out.below hbz HX.out.lt
           replace HBW : Hid (Below w.heap.size w y5) := HBW.out.trans (hbz.mono HBW.out.size)
           clear hbz )
        | (clear tk6; with_reducible refine wpSeq_not (.tmp 37) false true ?_ ?_ ?_ ?_ ?_
           · rfl
           · rfl
           · rfl
           · rfl)
        | (clear tk7; go_at_call 13; refine (HWK.out y5 HBW.out).mono ?_; rintro e y6 ⟨rfl, hbz⟩
           replace HX : Hid (Blk y6 gx (cb x) 23) := HX.out.below hbz HX.out.lt
           replace HBW : Hid (Below w.heap.size w y6) := HBW.out.trans (hbz.mono HBW.out.size)
           clear hbz ))
      go_ret
      exact ⟨rfl, HBW.out⟩
end Go.Proofs.YtaogafadnkheeaaDoor
/- What the listed variable gives: the rounds' words lie where the walks look for them. -/
namespace Go.Proofs.YtaogafadnkheeaaDoor
open Go.ChangeShapes Go.WideShapes Go.ChangeAt Go.WideMaps Go.WideElems Go.RowKit
set_option maxRecDepth 100000
theorem own : ownKnob Tryd.prog.godebug = none := by kernel_rfl
theorem gKw : Tryd.prog.globalNamed "blazon/sha.roundWords" = some 0 := by kernel_rfl
theorem tKw : (Tryd.prog.globals[0]?).map (·.type) = some 69 := by kernel_rfl
def laidK : List (String × DataW Unit) := [("blazon/sha.roundWords", Rows.laid_blazon_sha_roundWords)]
def kzs : List Int := kw.map fun x => (x.toNat : Int)
theorem laid_tab : (Rows.laid_blazon_sha_roundWords : DataW Unit) = Lib.tabData .u32 kzs := by kernel_rfl
theorem door_met (os : Os) (args : Array Value) : laidMetH Tryd.prog laidK ((World.doorLaid Tryd.prog 400 os).forCall (fun _ _ => 0) ⟨#[], args, []⟩).memory :=
  laidMetH_of_parts3 (fuel := 8) (laidMet_of_run' 8 (by kernel_rfl) (by kernel_rfl)) (by kernel_rfl) (by kernel_rfl)
theorem getD_toNat (l : List (BitVec 32)) (j : Nat) : (l.map fun x => (x.toNat : Int)).getD j 0 = ((l.getD j 0).toNat : Int) := by
  rw [List.getD_eq_getElem?_getD, List.getD_eq_getElem?_getD, List.getElem?_map]
  cases l[j]? <;> rfl
theorem kok_of_laid {W : World} (h : laidMetH Tryd.prog laidK W) : KOk W := by
  rw [MakeChecks.laidMetH_plain _ _ _ (by kernel_rfl)] at h
  unfold laidK at h
  rw [laid_tab] at h
  have hT := Lib.tabIs_of_head gKw tKw Tryd.underlying69 Tryd.underlying56 (by kernel_rfl) (by kernel_rfl) h
  intro j hj
  rw [hT.cell gKw j (by simpa [kzs, kw] using hj), kzs, getD_toNat]
end Go.Proofs.YtaogafadnkheeaaDoor
/- What a slice of bytes that came in gives: the bytes that it reads as; and that it reads so still behind a call that changed no old block. -/
namespace Go.Proofs.YtaogafadnkheeaaDoor
open Go.ChangeShapes Go.WideShapes Go.ChangeAt Go.WideMaps Go.WideElems Go.RowKit
set_option maxRecDepth 100000
theorem cells_byte : Tryd.prog.cellsOf 5 = 1 := by kernel_rfl
theorem laid_out : laidOutB Tryd.prog = true := by kernel_rfl
theorem readable_bytes : Tryd.prog.readableRec 25 = true := by kernel_rfl
theorem row_bytes : 25 < Tryd.prog.types.size := of_decide_eq_true (by kernel_rfl)
theorem byte_range {zs : List Int} (h : ∀ n ∈ zs, (Lit.int .u8 n).wf = true) (j : Nat) : 0 ≤ zs.getD j 0 ∧ zs.getD j 0 < 256 := by
  rw [List.getD_eq_getElem?_getD]
  cases hj : zs[j]? with
  | none => simp
  | some n =>
    have := h n (List.mem_of_getElem? hj)
    have := bounds_u8 this
    simp
    omega
theorem reads_of_trod {H : Type} {enc : TypeId × Value → H} {W : World} {base : Nat} {v : Value} {d : DataW H} {p : List MemPlace} (hval : Value.okWide Tryd.prog W .any base 25 v)
    (h : DataW.Trod enc Tryd.prog W 0 (fun _ => true) true 25 v d p) :
    ∃ bs, Reads W v bs ∧ bs.length ≤ maxLen ∧ ∀ x ∈ p, x.block < W.heap.size := by
  obtain ⟨a1, len, cap, rfl⟩ := okWide_slice Tryd.underlying25 hval
  obtain ⟨fuel, hf⟩ := h
  rcases open_ints Tryd.underlying25 Tryd.underlying5 cells_byte hf with ⟨hcs, hx⟩ | ⟨a, len', cap', zs, hcs, _, hl, hm, hz, hx, hcell, hwz⟩
  · simp [Value.cells] at hcs
    obtain ⟨rfl, rfl, rfl⟩ := hcs
    simp only [Prod.mk.injEq] at hx
    obtain ⟨rfl, rfl⟩ := hx
    exact ⟨[], ⟨none, 0, rfl, Nat.le_refl _, fun _ => rfl, fun h => by cases h⟩, Nat.zero_le _, fun _ h => by cases h⟩
  · simp [Value.cells] at hcs
    obtain ⟨rfl, rfl, rfl⟩ := hcs
    simp only [Prod.mk.injEq] at hx
    obtain ⟨rfl, rfl⟩ := hx
    simp only [if_true] at hz
    have hlen : ((zs.take len).map fun n => BitVec.ofInt 8 n).length = len := by simp; omega
    obtain ⟨ab, ao, spot⟩ := a
    refine ⟨(zs.take len).map fun n => BitVec.ofInt 8 n, ⟨some ⟨ab, ao, spot⟩, cap, by rw [hlen], by rw [hlen]; exact hl, (fun h => by cases h), fun hp => ?_⟩, by rw [hlen]; omega, fun x hx => ?_⟩
    · rw [hlen] at hp ⊢
      have hspot : spot = none := by simpa [Addr.add] using World.cell?_spot (hcell 0 (by omega))
      subst hspot
      refine ⟨ab, ao, rfl, fun j hj => ?_⟩
      have hcj := hcell j (by omega)
      rw [Addr.add_lit] at hcj
      rw [hcj]
      have hb := byte_range hwz j
      have e : ((zs.take len).map fun n => BitVec.ofInt 8 n).getD j 0 = BitVec.ofInt 8 (zs.getD j 0) := by
        rw [List.getD_eq_getElem?_getD, List.getElem?_map, List.getElem?_take_of_lt hj, List.getD_eq_getElem?_getD, List.getElem?_eq_getElem (show j < zs.length by omega)]
        rfl
      rw [e, BitVec.toNat_ofInt]
      congr 2
      omega
    · simp only [MemPlace.row, List.mem_map, List.mem_range] at hx
      obtain ⟨i, hi, rfl⟩ := hx
      have hcj := hcell i (by omega)
      have := block_lt_of_cell hcj
      simp only [Addr.add] at this
      split at this <;> exact this
end Go.Proofs.YtaogafadnkheeaaDoor
/- What a digest that came in gives: its 32 bytes. -/
namespace Go.Proofs.YtaogafadnkheeaaDoor
open Go.ChangeShapes Go.WideShapes Go.ChangeAt Go.WideMaps Go.WideElems Go.RowKit
set_option maxRecDepth 100000
theorem cells_digest : Tryd.prog.cellsOf 23 = 32 := by kernel_rfl
theorem readable_digest : Tryd.prog.readableRec 23 = true := by kernel_rfl
theorem row_digest : 23 < Tryd.prog.types.size := of_decide_eq_true (by kernel_rfl)
def numOf8 : Value → BitVec 8
  | .int _ n => BitVec.ofInt 8 n
  | _ => 0
theorem digest_of_trod {H : Type} {enc : TypeId × Value → H} {W : World} {base : Nat} {v : Value} {d : DataW H} {p : List MemPlace} (hval : Value.okWide Tryd.prog W .any base 23 v)
    (h : DataW.Trod enc Tryd.prog W 0 (fun _ => true) true 23 v d p) :
    ∃ dg, v = .agg (cb dg).toArray ∧ dg.length = 32 ∧ ∀ x ∈ p, x.block < W.heap.size := by
  simp only [Value.okWide, Tryd.underlying23] at hval
  obtain ⟨cs, rfl, hcs, _⟩ := hval
  obtain ⟨fuel, hf⟩ := h
  obtain ⟨xs, m, _, hx, hl, hn, hi⟩ := DataW.trod_array Tryd.underlying23 hf
  simp only [Value.cells] at hl hi
  rw [cells_digest] at hl
  rw [cells_byte] at hi
  have each : ∀ i, i < 32 → ∃ n, cs.toList[i]? = some (.int .u8 n) ∧ xs[i]? = some (.lit (.int .u8 n), []) ∧ (Lit.int .u8 n).wf = true := by
    intro i h32
    have h1 := hi i h32
    rw [List.getElem?_eq_getElem (by omega)] at h1
    obtain ⟨n, hc, hxx, hw⟩ := DataW.trod_int Tryd.underlying5 h1
    refine ⟨n, ?_, by rw [List.getElem?_eq_getElem (by omega), hxx], hw⟩
    rw [Nat.mul_one] at hc
    have h2 := congrArg (fun l => l[0]?) hc
    simpa using h2
  have hlen : (cs.toList.map numOf8).length = 32 := by simpa using hl
  refine ⟨cs.toList.map numOf8, ?_, hlen, ?_⟩
  · congr 1
    apply Array.ext'
    rw [List.toList_toArray]
    apply List.ext_getElem?
    intro i
    by_cases h32 : i < 32
    · obtain ⟨n, h1, _, hw⟩ := each i h32
      have hb := bounds_u8 hw
      rw [h1, cb_get _ _ (by omega), List.getD_eq_getElem?_getD, List.getElem?_map, h1]
      simp only [Option.map_some, Option.getD_some, numOf8, BitVec.toNat_ofInt]
      congr 2
      omega
    · rw [List.getElem?_eq_none (by omega), List.getElem?_eq_none (by rw [cb_len]; omega)]
  · simp only [Prod.mk.injEq] at hx
    rw [hx.2]
    intro x hmem
    obtain ⟨y, hy, hxy⟩ := List.mem_flatMap.1 hmem
    obtain ⟨i, hlt, rfl⟩ := List.getElem_of_mem hy
    obtain ⟨n, _, h2, _⟩ := each i (by omega)
    rw [List.getElem?_eq_getElem hlt] at h2
    rw [Option.some.inj h2] at hxy
    cases hxy
end Go.Proofs.YtaogafadnkheeaaDoor
/- What a slice of digests that came in gives; five arguments that came in, opened and shut (for the statements of layer 7). -/
namespace Go.Proofs.YtaogafadnkheeaaDoor
open Go.ChangeShapes Go.WideShapes Go.ChangeAt Go.WideMaps Go.WideElems Go.RowKit
set_option maxRecDepth 100000
set_option maxRecDepth 100000 in
theorem bulk_pos {H : Type} (d : DataW H) : 1 ≤ Rows.uptoBulk d := by
  cases d with
  | lit l => cases l <;> simp [Rows.uptoBulk]
  | _ => simp [Rows.uptoBulk]
set_option maxRecDepth 100000 in
theorem bulk_slice {H : Type} (e s : List (DataW H)) : Rows.uptoBulkAll e ≤ Rows.uptoBulk (DataW.slice e s) := by
  simp only [Rows.uptoBulk]; omega
set_option maxRecDepth 100000 in
theorem bulk_len {H : Type} : ∀ l : List (DataW H), l.length ≤ Rows.uptoBulkAll l
  | [] => Nat.zero_le _
  | d :: r => by
    have h1 := bulk_len r
    have h2 := bulk_pos d
    simp only [Rows.uptoBulkAll, List.length_cons]
    omega
theorem digest_of_cells {H : Type} {enc : TypeId × Value → H} {W : World} {cs : List Value} {d : DataW H} {p : List MemPlace} {fuel : Nat} (hf : DataW.trod enc Tryd.prog W 0 (fun _ => true) true fuel 23 cs = some (d, p)) :
    ∃ dg, cs = cb dg ∧ dg.length = 32 ∧ ∀ x ∈ p, x.block < W.heap.size := by
  obtain ⟨xs, m, _, hx, hl, hn, hi⟩ := DataW.trod_array Tryd.underlying23 hf
  rw [cells_digest] at hl
  rw [cells_byte] at hi
  have each : ∀ i, i < 32 → ∃ n, cs[i]? = some (.int .u8 n) ∧ xs[i]? = some (.lit (.int .u8 n), []) ∧ (Lit.int .u8 n).wf = true := by
    intro i h32
    have h1 := hi i h32
    rw [List.getElem?_eq_getElem (by omega)] at h1
    obtain ⟨n, hc, hxx, hw⟩ := DataW.trod_int Tryd.underlying5 h1
    refine ⟨n, ?_, by rw [List.getElem?_eq_getElem (by omega), hxx], hw⟩
    rw [Nat.mul_one] at hc
    have h2 := congrArg (fun l => l[0]?) hc
    simpa using h2
  have hlen : (cs.map numOf8).length = 32 := by simpa using hl
  refine ⟨cs.map numOf8, ?_, hlen, ?_⟩
  · apply List.ext_getElem?
    intro i
    by_cases h32 : i < 32
    · obtain ⟨n, h1, _, hw⟩ := each i h32
      have hb := bounds_u8 hw
      rw [h1, cb_get _ _ (by omega), List.getD_eq_getElem?_getD, List.getElem?_map, h1]
      simp only [Option.map_some, Option.getD_some, numOf8, BitVec.toNat_ofInt]
      congr 2
      omega
    · rw [List.getElem?_eq_none (by omega), List.getElem?_eq_none (by rw [cb_len]; omega)]
  · simp only [Prod.mk.injEq] at hx
    rw [hx.2]
    intro x hmem
    obtain ⟨y, hy, hxy⟩ := List.mem_flatMap.1 hmem
    obtain ⟨i, hlt, rfl⟩ := List.getElem_of_mem hy
    obtain ⟨n, _, h2, _⟩ := each i (by omega)
    rw [List.getElem?_eq_getElem hlt] at h2
    rw [Option.some.inj h2] at hxy
    cases hxy
theorem trodAll_five {H : Type} {enc : TypeId × Value → H} {P : Program} {w : World} {base : Nat} {spare : Nat → Bool} {held : Bool} {t0 t1 t2 t3 t4 : TypeId} {args : Array Value} {ds : List (DataW H)} {ps : List MemPlace} (h : DataW.TrodAll enc P w base spare held [t0, t1, t2, t3, t4] args.toList ds ps) :
    ∃ v0 v1 v2 v3 v4 d0 d1 d2 d3 d4 p0 p1 p2 p3 p4, args = #[v0, v1, v2, v3, v4] ∧ ds = [d0, d1, d2, d3, d4] ∧ ps = p0 ++ p1 ++ p2 ++ p3 ++ p4 ∧ DataW.Trod enc P w base spare held t0 v0 d0 p0 ∧ DataW.Trod enc P w base spare held t1 v1 d1 p1 ∧ DataW.Trod enc P w base spare held t2 v2 d2 p2 ∧ DataW.Trod enc P w base spare held t3 v3 d3 p3 ∧ DataW.Trod enc P w base spare held t4 v4 d4 p4 := by
  obtain ⟨v0, vs0, d0, ds0, p0, q0, hargs, rfl, rfl, h0, r0⟩ := trodAll_cons h
  obtain ⟨v1, vs1, d1, ds1, p1, q1, rfl, rfl, rfl, h1, r1⟩ := trodAll_cons r0
  obtain ⟨v2, vs2, d2, ds2, p2, q2, rfl, rfl, rfl, h2, r2⟩ := trodAll_cons r1
  obtain ⟨v3, vs3, d3, ds3, p3, q3, rfl, rfl, rfl, h3, r3⟩ := trodAll_cons r2
  obtain ⟨v4, vs4, d4, ds4, p4, q4, rfl, rfl, rfl, h4, r4⟩ := trodAll_cons r3
  obtain ⟨rfl, rfl, rfl⟩ := trodAll_nil r4
  exact ⟨v0, v1, v2, v3, v4, d0, d1, d2, d3, d4, p0, p1, p2, p3, p4, by cases args; simp_all, rfl, by simp, h0, h1, h2, h3, h4⟩
theorem trodAll_mk5 {H : Type} {enc : TypeId × Value → H} {P : Program} {w : World} {base : Nat} {spare : Nat → Bool} {held : Bool} {t0 t1 t2 t3 t4 : TypeId} {v0 v1 v2 v3 v4 : Value} {d0 d1 d2 d3 d4 : DataW H} {p0 p1 p2 p3 p4 : List MemPlace} (h0 : DataW.Trod enc P w base spare held t0 v0 d0 p0) (h1 : DataW.Trod enc P w base spare held t1 v1 d1 p1) (h2 : DataW.Trod enc P w base spare held t2 v2 d2 p2) (h3 : DataW.Trod enc P w base spare held t3 v3 d3 p3) (h4 : DataW.Trod enc P w base spare held t4 v4 d4 p4) : DataW.TrodAll enc P w base spare held [t0, t1, t2, t3, t4] [v0, v1, v2, v3, v4] [d0, d1, d2, d3, d4] (p0 ++ (p1 ++ (p2 ++ (p3 ++ p4)))) :=
  ⟨p0, _, h0, trodAll_mk4 h1 h2 h3 h4, rfl⟩
end Go.Proofs.YtaogafadnkheeaaDoor
/- What a bool that came in gives. -/
namespace Go.Proofs.YtaogafadnkheeaaDoor
open Go.ChangeShapes Go.WideShapes Go.ChangeAt Go.WideMaps Go.WideElems Go.RowKit
set_option maxRecDepth 100000
theorem open_boolP {H : Type} {enc : TypeId × Value → H} {W : World} {base : Nat} {v : Value} {d : DataW H} {p : List MemPlace} (hval : Value.okWide Tryd.prog W .any base 4 v)
    (h : DataW.Trod enc Tryd.prog W 0 (fun _ => true) true 4 v d p) : ∃ b, v = .bool b ∧ d = .lit (.bool b) ∧ p = [] := by
  obtain ⟨b, rfl⟩ := okWide_bool Tryd.underlying4 hval
  obtain ⟨fuel, hf⟩ := h
  obtain ⟨b', hc, hx⟩ := DataW.trod_bool Tryd.underlying4 hf
  simp [Value.cells] at hc
  subst hc
  simp only [Prod.mk.injEq] at hx
  exact ⟨b, rfl, hx.1, hx.2⟩
end Go.Proofs.YtaogafadnkheeaaDoor

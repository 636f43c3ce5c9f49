/- Texts that the proof leans on, one behind the other: JournalGoesOn, over what journal's functions do (layer 14). What the listed variable gives: the rounds' words lie where the walks look for them. What a slice of bytes that came in gives: the bytes that it reads as; and that it reads so still behind a call that changed no old block. .. -/
import Derived.Test.YtfleaipdoiiiiaaDoorMxd
import Derived.Test.YtfleaipdoiiiiaaDoorRows
import Derived.Test.YtfleaipdoiiiiaaDoorMxa
import Derived.ProofKit
import Derived.LaidMore
import Derived.OpenShut
import Derived.Stop.Joined
import Derived.Lib.LaidTab
import Derived.Carry
import Derived.ChangeSlices
import Derived.Deep.Slices
import Derived.Deep.Strs
import Derived.Lib.SmallJoins
import Derived.ChangeSame
/- JournalGoesOn, over what journal's functions do (layer 14). -/
namespace Go.Proofs.YtfleaipdoiiiiaaDoor
open Go.RowKit
set_option maxRecDepth 100000
theorem Mut.wide {P P' : Nat → Prop} {w w' : World} (h : Mut P w w') (hP : ∀ k, P k → P' k) : Mut P' w w' := ⟨h.os, h.tape, h.output, h.size, fun k hk hn => h.block k hk (fun hp => hn (hP k hp))⟩
theorem build_ops2 (f : Operand → Value) (o : Oper) (x y : Operand) (g : Bool) (a0 a1 a2 : Option Addr) (n0 c0 n1 c1 n2 c2 : Nat) (ho : o.op = .buildSlice 43 2 #[(0, x), (1, y)]) (hx : f x = .agg [.bool g, .slice a0 n0 c0, .slice a1 n1 c1].toArray) (hy : f y = .agg [.bool false, .slice a2 n2 c2, .slice none 0 0].toArray) (w : World) : (execOp f o).run Tryd.prog w = .ok (.value (.slice (some ⟨w.heap.size, 0, none⟩) 2 2)) (w.alloc (.cells [.bool g, .slice a0 n0 c0, .slice a1 n1 c1, .bool false, .slice a2 n2 c2, .slice none 0 0].toArray 50)) := by
  unfold execOp
  rw [ho]
  simp only [List.map_toArray, List.map_cons, List.map_nil, hx, hy]
  kernel_rfl
theorem wpSeq_buildOps2 {ops : Array Oper} {Q : Exit → Act → World → Prop} {rest : List Oper} {o : Oper} {a : Act} {w : World} (x y : Operand) (g : Bool) (a0 a1 a2 : Option Addr) (n0 c0 n1 c1 n2 c2 : Nat) (ho : o.op = .buildSlice 43 2 #[(0, x), (1, y)]) (hx : a.eval x = .agg [.bool g, .slice a0 n0 c0, .slice a1 n1 c1].toArray) (hy : a.eval y = .agg [.bool false, .slice a2 n2 c2, .slice none 0 0].toArray) (hw : Region.wanted o (yielded ops a.tmps) = true)
    (h : ∀ gg w', NewR [.bool g, .slice a0 n0 c0, .slice a1 n1 c1, .bool false, .slice a2 n2 c2, .slice none 0 0] 50 w gg w' → wpList Tryd.prog ops Q rest (a.put o.dst (.slice (some ⟨gg, 0, none⟩) 2 2)) w') : wpList Tryd.prog ops Q (o :: rest) a w :=
  wpSeq_val _ _ hw (build_ops2 _ o x y g a0 a1 a2 n0 c0 n1 c1 n2 c2 ho hx hy w) (h _ _ (NewR.of _ _ w))
theorem built_op1 (ad : Option Addr) (n c : Nat) : ∀ ps, ps = [(1, Value.slice ad n c)] → Tryd.prog.built 50 ps = some [.bool false, Value.slice ad n c, .slice none 0 0].toArray := fun ps h => by subst h; kernel_rfl
theorem rops_two {w : World} {gg : Nat} {o : OpT} {b : Bs} {vB vL vb : Value} (hb : Blk w gg [.bool o.ag, vB, vL, .bool false, vb, .slice none 0 0] 50) (h1 : Reads w vB o.b) (h2 : ReadsL w vL o.l) (h3 : Reads w vb b) : ROps w (.slice (some ⟨gg, 0, none⟩) 2 2) [o, ⟨false, b, []⟩] := by
  refine ⟨_, _, rfl, Nat.le_refl _, fun _ => ⟨gg, 0, rfl, fun j hj => ?_⟩⟩
  have h2' : j = 0 ∨ j = 1 := by simp at hj; omega
  rcases h2' with rfl | rfl
  · exact ⟨vB, vL, hb.cell 0, hb.cell 1, hb.cell 2, h1, h2⟩
  · exact ⟨vb, .slice none 0 0, hb.cell 3, hb.cell 4, hb.cell 5, h3, readsL_nil w⟩
set_option maxRecDepth 100000 in
set_option maxHeartbeats 20000000 in
theorem journalGoesOn_law {Lg : World → Nat → (Nat → Prop) → Nat → Nat → JnT → Prop} (OPS : JnOps Lg) (x0 : Int) (v1 : Value) (os : List OpT) (hs : ∀ o ∈ os, szO o) (o2 : OpT) (vB2 vL2 : Value) (hs2 : szO o2) (x3 : Int) (v4 : Value) (kp : List Int) (v5 : Value) (bx : Bs) (hs5 : bx.length ≤ 1125899906842624) (w : World) (hK : KOk w) (hr : ROps w v1 os) (hrB : Reads w vB2 o2.b) (hrL : ReadsL w vL2 o2.l) (hr4 : ReadsI w v4 kp) (hr5 : Reads w v5 bx) :
    Calls Tryd.prog 6 #[.int .i64 x0, v1, .agg [.bool o2.ag, vB2, vL2].toArray, .int .i64 x3, v4, v5] w fun e w' => e = .returned (.bool true) ∧ Below w.heap.size w w' := by
  have HSZ : Hid (∀ o ∈ os, szO o) := hs
  obtain ⟨n, HN⟩ : ∃ n, Hid (n = os.length) := ⟨_, rfl⟩
  obtain ⟨ad, c, hv1⟩ : ∃ a c, v1 = .slice a n c := by obtain ⟨a, c, hv, _⟩ := hr; rw [← HN.out] at hv; exact ⟨_, _, hv⟩
  obtain ⟨aB2, nB2, cB2, hvB⟩ := hrB.form
  obtain ⟨aL2, nL2, cL2, hvL⟩ : ∃ a n c, vL2 = .slice a n c := by obtain ⟨a, c, hv, _⟩ := hrL; exact ⟨_, _, _, hv⟩
  obtain ⟨a4, c4, hv4⟩ := hr4.form
  obtain ⟨n4, HN4⟩ : ∃ n, Hid (n = kp.length) := ⟨_, rfl⟩
  rw [← HN4.out] at hv4
  obtain ⟨a5, n5, c5, hv5⟩ := hr5.form
  subst hv1 hvB hvL hv4 hv5
  have HRw : Hid (ROps w (.slice ad n c) os) := hr
  have HRBw : Hid (Reads w (.slice aB2 nB2 cB2) o2.b) := hrB
  have HRLw : Hid (ReadsL w (.slice aL2 nL2 cL2) o2.l) := hrL
  have HR4w : Hid (ReadsI w (.slice a4 n4 c4) kp) := hr4
  have HR5w : Hid (Reads w (.slice a5 n5 c5) bx) := hr5
  have HKw : Hid (KOk w) := hK
  have HS2 : Hid (∀ o ∈ [o2, ⟨false, bx, []⟩], szO o) := fun o ho => by
    rcases List.mem_cons.1 ho with rfl | ho
    · exact hs2
    · rw [List.mem_singleton.1 ho]
      exact ⟨hs5, Nat.zero_le _, fun x hx => by cases hx⟩
  obtain ⟨N, HNN⟩ : ∃ m, Hid (m = nSec x0) := ⟨_, rfl⟩
  have HNB : Hid (8 ≤ N ∧ N ≤ 47) := by rw [HNN.out]; exact nSec_le x0
  have hz := open_zero (m := N) HNB.out.1 (Nat.le_trans HNB.out.2 (by decide))
  have hlz := low_zero N HNB.out.1
  obtain ⟨D0, HD0⟩ : ∃ D, Hid (D = openD (zeroD N)) := ⟨_, rfl⟩
  rw [← HD0.out] at hz hlz
  have HLW0 : Hid (lowD (N / 2) D0) := hlz
  have HLG0 : Hid (Log D0 ⟨0, 1, []⟩ ∧ sizeD D0 = N) := ⟨hz.2.2.1, hz.2.2.2⟩
  have HWK : Hid (∀ W, KOk W → Calls Tryd.prog 9 #[] W fun e w' => e = .returned (.bool true) ∧ Below W.heap.size W w') := fun W h => works14_any OPS W h
  have HFR : Hid (∀ W, KOk W → Calls Tryd.prog 26 #[.int .i64 x0] W fun e w' => ∃ gd lg P Q, e = .returned (.tuple #[.pointer (some ⟨gd, 0, none⟩), .pointer (some ⟨lg, 0, none⟩)]) ∧ Pk Lg w' gd lg P Q D0 ⟨0, 1, []⟩ ∧ Below W.heap.size W w' ∧ (∀ k, Un P Q k → W.heap.size ≤ k)) := fun W hk => by rw [HD0.out, HNN.out]; exact fresh14_any OPS x0 W hk
  have HFW : Hid (∀ W, ROps W (.slice ad n c) os → Calls Tryd.prog 27 #[.slice ad n c] W fun e w' => FewR os e ∧ Below W.heap.size W w') := fun W h => few14_any _ os W h HSZ.out
  obtain ⟨os2, HO2⟩ : ∃ l : List OpT, Hid (l = [o2, ⟨false, bx, []⟩]) := ⟨_, rfl⟩
  have HF2 : Hid (∀ W g, ROps W (.slice (some ⟨g, 0, none⟩) 2 2) os2 → Calls Tryd.prog 27 #[.slice (some ⟨g, 0, none⟩) 2 2] W fun e w' => FewR os2 e ∧ Below W.heap.size W w') := fun W g h => few14_any _ os2 W h (by rw [HO2.out]; exact HS2.out)
  have HRP : Hid (∀ W gg, Below w.heap.size w W → Blk W gg [.bool o2.ag, .slice aB2 nB2 cB2, .slice aL2 nL2 cL2, .bool false, .slice a5 n5 c5, .slice none 0 0] 50 → ROps W (.slice (some ⟨gg, 0, none⟩) 2 2) os2) := fun W gg hb h => by rw [HO2.out]; exact rops_two h (HRBw.out.below hb) (HRLw.out.below hb) (HR5w.out.below hb)
  obtain ⟨g2, HG2⟩ : ∃ b, Hid (b = o2.ag) := ⟨_, rfl⟩
  rw [← HG2.out] at HRP ⊢
  clear hs hs2 hs5 hK hz hlz hr hrB hrL hr4 hr5
  go_enter Tryd.func6, Tryd.ntmps6
  have tk0 : Hid True := trivial
  have tk1 : Hid True := trivial
  have tk2 : Hid True := trivial
  have tk3 : Hid True := trivial
  have tk4 : Hid True := trivial
  have tk5 : Hid True := trivial
  have tk6 : Hid True := trivial
  have tk7 : Hid True := trivial
  go_wp2_with (first
    | (clear tk0; with_reducible refine wpSeq_boxW 50 (.tmp 2) [.bool g2, .slice aB2 nB2 cB2, .slice aL2 nL2 cL2] ?_ ?_ ?_ ?_
       · rfl
       · rfl
       · rfl
       intro g6 y0 nn
       have HG6 : Hid (Blk y0 g6 [.bool g2, .slice aB2 nB2 cB2, .slice aL2 nL2 cL2] 50) := nn.blk
       have HBX : Hid (Below w.heap.size w y0) := nn.below
       have HK0 : Hid (KOk y0) := HKw.out.below nn.below HKw.out.lt
       have HR : Hid (ROps y0 (.slice ad n c) os) := HRw.out.below nn.below
       clear nn)
    | (clear tk1; go_at_call 26; refine (HFR.out _ HK0.out).mono ?_; rintro e0 y1 ⟨gd, lg, P, Q, rfl, hp, hb, hu⟩
       have HPK : Hid (Pk Lg y1 gd lg P Q D0 ⟨0, 1, []⟩) := hp
       have HBW : Hid (Below y0.heap.size y0 y1) := hb
       have HUN : Hid (∀ k, Un P Q k → y0.heap.size ≤ k) := hu
       clear hp hb hu HFR)
    | (clear tk2; go_at_call 27; refine (HFW.out _ (HR.out.below HBW.out)).mono ?_; rintro e0 y2 ⟨⟨ok, rfl, hf⟩, hz⟩
       replace HPK : Hid (Pk Lg y2 gd lg P Q D0 ⟨0, 1, []⟩) := HPK.out.below OPS hz
       replace HBW : Hid (Below y0.heap.size y0 y2) := HBW.out.trans (hz.mono HBW.out.size)
       have HFE : Hid (FewJ os ok) := hf
       clear hf hz
       cases ok)
    | (clear tk3; with_reducible refine wpSeq_loadW 50 (.tmp 8) g6 0 [.bool g2, .slice aB2 nB2 cB2, .slice aL2 nL2 cL2] _ (Blk.range (HG6.out.below HBW.out HG6.out.lt)) Tryd.underlying50 rfl (info_op14 _ _ _) ?_ ?_ ?_ ?_
       · rfl
       · rfl
       · rfl)
    | (clear tk4; with_reducible refine wpSeq_build 50 [(1, .tmp 39)] [.bool false, .slice a5 n5 c5, .slice none 0 0] ?_ ?_ ?_ ?_
       rotate_left
       · rfl
       · rfl
       rotate_left
       · exact built_op1 _ _ _ _ rfl)
    | (clear tk5; with_reducible refine wpSeq_buildOps2 (.tmp 38) (.tmp 40) g2 aB2 aL2 a5 nB2 cB2 nL2 cL2 n5 c5 ?_ ?_ ?_ ?_ ?_
       · rfl
       · rfl
       · rfl
       · rfl
       intro g7 y3 nn
       replace HPK : Hid (Pk Lg y3 gd lg P Q D0 ⟨0, 1, []⟩) := HPK.out.below OPS nn.below
       replace HBW : Hid (Below y0.heap.size y0 y3) := HBW.out.trans (nn.below.mono HBW.out.size)
       have HRO : Hid (ROps y3 (.slice (some ⟨g7, 0, none⟩) 2 2) os2) := HRP.out y3 g7 (HBX.out.trans (HBW.out.mono HBX.out.size)) nn.blk
       clear nn)
    | (clear tk6; go_at_call 27; refine (HF2.out _ _ HRO.out).mono ?_; rintro e0 y4 ⟨⟨ok2, rfl, hf⟩, hz⟩
       replace HPK : Hid (Pk Lg y4 gd lg P Q D0 ⟨0, 1, []⟩) := HPK.out.below OPS hz
       replace HBW : Hid (Below y0.heap.size y0 y4) := HBW.out.trans (hz.mono HBW.out.size)
       have HFE2 : Hid (FewJ os2 ok2) := hf
       clear hf hz
       cases ok2)
    | (clear tk7; go_at_call 9; refine (HWK.out _ (HK0.out.below HBW.out HK0.out.lt)).mono ?_; rintro e0 y5 ⟨rfl, hz⟩
       replace HBW : Hid (Below y0.heap.size y0 y5) := HBW.out.trans (hz.mono HBW.out.size)
       clear hz))
  · go_ret
    exact ⟨rfl, HBX.out.trans (HBW.out.mono HBX.out.size)⟩
  · go_ret
    exact ⟨rfl, HBX.out.trans (HBW.out.mono HBX.out.size)⟩
  have HFO : Hid (n ≤ 20 ∧ ∀ o ∈ os, okO o) := by
    have h1 := HFE.out rfl
    exact ⟨by rw [HN.out]; exact h1.1, few_ok h1.2⟩
  have HFB : Hid (okO o2 ∧ bx.length ≤ 20000) := by
    have h1 := HFE2.out rfl
    rw [HO2.out] at h1
    refine ⟨few_ok h1.2 o2 (by simp), ?_⟩
    have h2 := h1.2
    simp [sumO, wtO] at h2
    omega
  have HI0 : Hid (DoI Lg y0 gd lg N 0 (.slice none 0 0) P Q D0 ⟨0, 1, []⟩ y4) := ⟨HPK.out, HLG0.out.1, HLG0.out.2, Nat.le_refl _, StaL.nil _ _, HBW.out, HUN.out⟩
  clear HRP HF2 HFW
  go_loopw [15, 16] (fun wv i9 wr => ∃ (wa : Option Addr) (wn wc i : Nat) (P Q : Nat → Prop) (D : DkT) (J : JnT), wv = .slice wa wn wc ∧ i9 = .int .i64 (i : Int) ∧ i ≤ n ∧ Hid (DoI Lg y0 gd lg N i (.slice wa wn wc) P Q D J wr) ∧ Hid (lowD (N / 2) D)) (fun _ i9 _ => n - (intOf i9).toNat)
  case atStart => exact ⟨none, 0, 0, 0, P, Q, D0, ⟨0, 1, []⟩, rfl, rfl, Nat.zero_le _, HI0, HLW0⟩
  case round =>
    clear HI0 HPK HBW HUN HLG0 HLW0
    obtain ⟨wa, wn, wc, i, P, Q, D, J, rfl, rfl, hi, HI, HLW⟩ := hrel
    obtain ⟨jg, HJG⟩ : ∃ g, Hid (g = J.gen) := ⟨_, rfl⟩
    by_cases hin : i < n
    case pos =>
      have hlk : (i : Int) < (n : Int) := by omega
      have f1 : IntKind.i64.wrap ((i : Int) + 1) = (i : Int) + 1 := by rw [IntKind.wrap_i64]; have := HFO.out.1; omega
      have HIN : Hid (i < n) := hin
      have hio : i < os.length := by rw [← HN.out]; exact hin
      have hbw := HI.out.bel
      obtain ⟨b, off, vB, vL, rfl, c0, c1, c2, rB, rL⟩ := HR.out.at hio
      obtain ⟨o, HO⟩ : ∃ o, Hid (o = os.getD i ⟨false, [], []⟩) := ⟨_, rfl⟩
      rw [← HO.out] at c0 rB rL
      have hoo : okO o := HFO.out.2 o (by rw [HO.out, List.getD_eq_getElem?_getD, List.getElem?_eq_getElem hio]; exact List.getElem_mem hio)
      have hjn : jg + 1 < 18446744073709551616 := by rw [HJG.out]; have h1 := HI.out.gen; have h2 := HFO.out.1; omega
      have hlog := HI.out.log
      have h8 : 8 ≤ sizeD D ∧ sizeD D ≤ 100 := by rw [HI.out.size]; have := HNB.out; exact ⟨by omega, by omega⟩
      have hok : okJ D J := hlog.okJ h8.1 h8.2 (by rw [← HJG.out]; have h1 := HI.out.gen; have h2 := HFO.out.1; have h3 := HJG.out; omega)
      have hdr := do_ref hlog (by rw [← HJG.out]; exact hjn) o
      obtain ⟨ag, HAG⟩ : ∃ a, Hid (a = o.ag) := ⟨_, rfl⟩
      obtain ⟨aB, nB, cB, hvB⟩ := rB.form
      obtain ⟨aL, nL, cL, hvL⟩ : ∃ a n c, vL = .slice a n c := by obtain ⟨a, c, hv, _⟩ := rL; exact ⟨_, _, _, hv⟩
      subst hvB hvL
      rw [← HAG.out] at c0
      have hbl : b < y0.heap.size := block_lt_of_cell c0
      have hnu : ¬ Un P Q b := fun h => absurd (HI.out.own b h) (by omega)
      have hrw : y0.rangeAt b (off + i * 3) [.bool ag, .slice aB nB cB, .slice aL nL cL] := fun j u hj => by
        match j with
        | 0 => simp only [List.getElem?_cons_zero, Option.some.injEq] at hj; subst hj; exact c0
        | 1 => simp only [List.getElem?_cons_succ, List.getElem?_cons_zero, Option.some.injEq] at hj; subst hj; exact c1
        | 2 => simp only [List.getElem?_cons_succ, List.getElem?_cons_zero, Option.some.injEq] at hj; subst hj; exact c2
        | j + 3 => simp at hj
      have HRW : Hid (∀ W, Below y0.heap.size y0 W → W.rangeAt b (off + i * 3) [.bool ag, .slice aB nB cB, .slice aL nL cL]) := fun W hb j u hj => by rw [hb.cell (p := ⟨b, off + i * 3 + j, none⟩) hbl]; exact hrw j u hj
      obtain ⟨D2, HD2⟩ : ∃ x, Hid (x = doD J D o) := ⟨_, rfl⟩
      obtain ⟨J2, HJ2⟩ : ∃ x, Hid (x = doJ J D o) := ⟨_, rfl⟩
      obtain ⟨X, HXX⟩ : ∃ x, Hid (x = doX J D o) := ⟨_, rfl⟩
      have HLW2 : Hid (lowD (N / 2) D2) := by
        have e : hsD D = N / 2 := by show sizeD D / 2 = N / 2; rw [HI.out.size]
        have h := (low_do o HI.out.log.good.hk (by have h1 := HI.out.gen; have h2 := HFO.out.1; omega) (by rw [e]; exact HLW.out)).1
        rw [e, ← HD2.out] at h
        exact h
      rw [← HD2.out, ← HJ2.out, ← HXX.out] at hdr
      obtain ⟨d1, d2, d3, d4, d5, d6⟩ := hdr
      rw [HI.out.size] at d1 d3 d4
      have HSB : Hid (Sta (Un P Q) wr (fun W => Reads W (.slice aB nB cB) o.b)) := fun W m => rB.below (hbw.trans (m.below hbw.size HI.out.own))
      have HSL : Hid (StaL (Un P Q) wr (.slice aL nL cL) o.l) := by
        obtain ⟨a, cc, hv, h2, h3, h4⟩ := rL
        refine ⟨a, cc, hv, h2, h3, fun hp => ?_⟩
        obtain ⟨b9, o9, h5, h6⟩ := h4 hp
        obtain ⟨_, h0, _⟩ := h6 0 hp
        have hb9 : b9 < y0.heap.size := block_lt_of_cell h0
        refine ⟨b9, o9, h5, fun h => absurd (HI.out.own b9 h) (by omega), fun j hj => ?_⟩
        obtain ⟨vj, h7, h8⟩ := h6 j hj
        exact ⟨vj, by rw [hbw.cell (p := ⟨b9, o9 + j, none⟩) hb9]; exact h7, fun W m => h8.below (hbw.trans (m.below hbw.size HI.out.own))⟩
      have HDO : Hid (∀ W, Below wr.heap.size wr W → Calls Tryd.prog 28 #[.pointer (some ⟨lg, 0, none⟩), .slice wa wn wc, .agg [.bool ag, .slice aB nB cB, .slice aL nL cL].toArray, .int .i64 (N : Int)] W fun e w' => ∃ am nm cm P' Q', e = .returned (.tuple #[.slice am nm cm, .int .i64 X, .int .i64 X]) ∧ Pk Lg w' gd lg P' Q' D2 J2 ∧ StaL (Un P' Q') w' (.slice am nm cm) J2.l ∧ Below y0.heap.size y0 w' ∧ ∀ k, Un P' Q' k → y0.heap.size ≤ k) := fun W hW => by
        have hwW := hbw.trans (hW.mono hbw.size)
        have h := do14_any OPS (.slice wa wn wc) (.slice aB nB cB) (.slice aL nL cL) o W (HK0.out.below hwW HK0.out.lt) (HI.out.pk.below OPS hW) hok hoo (hlog.len h8.2).1 (HI.out.want.below hW) (HSB.out.below hW) (HSL.out.below hW)
        rw [HI.out.size, ← HAG.out, ← HXX.out, ← d1, ← HD2.out, ← HJ2.out, ← d3] at h
        refine h.mono (fun e w' hh => ?_)
        obtain ⟨mv, P', Q', h1, h2, h3, h4, h5, h6⟩ := hh
        obtain ⟨am, nm, cm, hmv⟩ : ∃ a n c, mv = .slice a n c := by obtain ⟨a, c, hv, _⟩ := h2; exact ⟨_, _, _, hv⟩
        subst hmv
        exact ⟨am, nm, cm, P', Q', h1, h4 d5, h2, hwW.trans (h5.below hwW.size HI.out.own), fun k hk => (h6 k hk).elim (HI.out.own k) (fun h => Nat.le_trans hwW.size h)⟩
      have HSE : Hid (∀ W, Below wr.heap.size wr W → Calls Tryd.prog 29 #[.pointer (some ⟨gd, 0, none⟩)] W fun r w' => r = .returned (.int .i64 (N : Int)) ∧ w' = W) := fun W hW => by
        have h := dkSize_pure (HI.out.pk.dk.below14 hW)
        rw [HI.out.size] at h
        exact h
      have HLG2 : Hid (Log D2 J2 ∧ sizeD D2 = N) := ⟨d2, d4⟩
      have HGEN : Hid (J2.gen = if X = 0 ∧ ag = true then J.gen + 1 else J.gen) := by rw [HAG.out]; exact d6
      have HBWr : Hid (Below y0.heap.size y0 wr) := hbw
      have HJB : Hid (J.gen ≤ i + 1) := HI.out.gen
      clear HSB HSL d1 d2 d3 d4 d5 d6 hrw hnu hbl rB rL c0 c1 c2 hok hlog h8 hoo hjn hbw
      go_wp2_with fail
      refine wp_region_held_drew (S := fun wx => wx.rangeAt b (off + i * 3) [.bool ag, .slice aB nB cB, .slice aL nL cL]) (by kernel_rfl) (HRW.out _ HBWr.out.drew) ?_
      intro hS
      have HBY : Hid (Below wr.heap.size wr (World.drew wr)) := (Below.refl _ _).drew
      change wpAnyH _ _ _ _ _ _ _ _ (World.drew wr)
      generalize World.drew wr = y1 at *
      refine wpAnyH_take (i := 0) (v := .pointer (some ⟨lg, 0, none⟩)) rfl (by kernel_rfl) (by kernel_rfl) (by kernel_rfl) (fun _ _ _ h => h) (Or.inl ⟨by rfl, fun wx hx => by simp [go_sem]⟩) hS ?_
      simp only [Act.put, List.getElem_toArray, List.getElem_cons_zero, List.setIfInBounds_toArray, List.set_cons_zero, List.set_cons_succ]
      refine wpAnyH_take (i := 1) (v := .slice wa wn wc) rfl (by kernel_rfl) (by kernel_rfl) (by kernel_rfl) (fun _ _ _ h => h) (Or.inl ⟨by rfl, fun wx hx => by simp [go_sem]⟩) hS ?_
      simp only [Act.put, List.getElem_toArray, List.getElem_cons_succ, List.getElem_cons_zero, List.setIfInBounds_toArray, List.set_cons_zero, List.set_cons_succ]
      refine wpAnyH_take (i := 2) (v := .slice (some ⟨b, off, none⟩) n c) rfl (by kernel_rfl) (by kernel_rfl) (by kernel_rfl) (fun _ _ _ h => h) (Or.inl ⟨by rfl, fun wx hx => by simp [go_sem]⟩) hS ?_
      simp only [Act.put, List.getElem_toArray, List.getElem_cons_succ, List.getElem_cons_zero, List.setIfInBounds_toArray, List.set_cons_zero, List.set_cons_succ]
      refine wpAnyH_take (i := 3) (v := .int .i64 (i : Int)) rfl (by kernel_rfl) (by kernel_rfl) (by kernel_rfl) (fun _ _ _ h => h) (Or.inl ⟨by rfl, fun wx hx => by simp [go_sem]⟩) hS ?_
      simp only [Act.put, List.getElem_toArray, List.getElem_cons_succ, List.getElem_cons_zero, List.setIfInBounds_toArray, List.set_cons_zero, List.set_cons_succ]
      refine wpAnyH_take (i := 4) (v := .pointer (some ⟨b, off + i * 3, none⟩)) rfl (by kernel_rfl) (by kernel_rfl) (by kernel_rfl) (fun _ _ _ h => h) (Or.inl ⟨by rfl, fun wx hx => by exact idxOp b off n c i HIN.out _ _ _ _ rfl rfl rfl _⟩) hS ?_
      simp only [Act.put, List.getElem_toArray, List.getElem_cons_succ, List.getElem_cons_zero, List.setIfInBounds_toArray, List.set_cons_zero, List.set_cons_succ]
      refine wpAnyH_take (i := 5) (v := .agg [.bool ag, .slice aB nB cB, .slice aL nL cL].toArray) rfl (by kernel_rfl) (by kernel_rfl) (by kernel_rfl) (fun _ _ _ h => h) (Or.inl ⟨by rfl, fun wx hx => by exact load_run 50 _ rfl _ _ rfl _ _ hx Tryd.underlying50 rfl (info_op14 _ _ _)⟩) hS ?_
      simp only [Act.put, List.getElem_toArray, List.getElem_cons_succ, List.getElem_cons_zero, List.setIfInBounds_toArray, List.set_cons_zero, List.set_cons_succ]
      refine wpAnyH_take (i := 6) (v := .pointer (some ⟨gd, 0, none⟩)) rfl (by kernel_rfl) (by kernel_rfl) (by kernel_rfl) (fun _ _ _ h => h) (Or.inl ⟨by rfl, fun wx hx => by simp [go_sem]⟩) hS ?_
      simp only [Act.put, List.getElem_toArray, List.getElem_cons_succ, List.getElem_cons_zero, List.setIfInBounds_toArray, List.set_cons_zero, List.set_cons_succ]
      refine wpAnyH_enter 7 (by kernel_rfl) rfl (by rfl) (f := 29) (args := #[.pointer (some ⟨gd, 0, none⟩)]) (by simp [go_sem]) (HSE.out _ HBY.out) ?_
      rintro e y2 ⟨rfl, hy2⟩
      subst hy2
      refine ⟨_, rfl, hS, ?_⟩
      simp only [Act.put, List.getElem_toArray, List.getElem_cons_succ, List.getElem_cons_zero, List.setIfInBounds_toArray, List.set_cons_zero, List.set_cons_succ]
      have hcc := HDO.out _ HBY.out
      generalize hA : #[Value.pointer (some ⟨lg, 0, none⟩), .slice wa wn wc, .agg [.bool ag, .slice aB nB cB, .slice aL nL cL].toArray, .int .i64 (N : Int)] = AA at hcc
      refine wpAnyH_enter 8 (by kernel_rfl) rfl (by rfl) (f := 28) (args := AA) ?_ hcc ?_
      · subst hA
        simp [go_sem]
      clear hcc hA
      rintro e y3 ⟨am, nm, cm, P2, Q2, rfl, hpk, hwt, hb3, hun⟩
      have hS3 := HRW.out y3 hb3
      refine ⟨_, rfl, hS3, ?_⟩
      have HPK : Hid (Pk Lg y3 gd lg P2 Q2 D2 J2) := hpk
      have HWT : Hid (StaL (Un P2 Q2) y3 (.slice am nm cm) J2.l) := hwt
      have HBW : Hid (Below y0.heap.size y0 y3) := hb3
      have HUN : Hid (∀ k, Un P2 Q2 k → y0.heap.size ≤ k) := hun
      have HC0 : Hid (y3.cell? ⟨b, off + i * 3, none⟩ = some (.bool ag)) := range_head hS3
      clear hpk hwt hb3 hun hS HDO HSE HI HBY
      simp only [Act.put, List.getElem_toArray, List.getElem_cons_succ, List.getElem_cons_zero, List.setIfInBounds_toArray, List.set_cons_zero, List.set_cons_succ]
      refine wpAnyH_take (i := 9) (v := .tuple #[.slice am nm cm, .int .i64 X, .int .i64 X]) rfl (by kernel_rfl) (by kernel_rfl) (by kernel_rfl) (fun _ _ _ h => h) (Or.inl ⟨by rfl, fun wx hx => by simp [go_sem]⟩) hS3 ?_
      simp only [Act.put, List.getElem_toArray, List.getElem_cons_succ, List.getElem_cons_zero, List.setIfInBounds_toArray, List.set_cons_zero, List.set_cons_succ]
      refine wpAnyH_take (i := 10) (v := .slice am nm cm) rfl (by kernel_rfl) (by kernel_rfl) (by kernel_rfl) (fun _ _ _ h => h) (Or.inl ⟨by rfl, fun wx hx => by simp [go_sem]⟩) hS3 ?_
      simp only [Act.put, List.getElem_toArray, List.getElem_cons_succ, List.getElem_cons_zero, List.setIfInBounds_toArray, List.set_cons_zero, List.set_cons_succ]
      refine wpAnyH_take (i := 11) (v := .int .i64 X) rfl (by kernel_rfl) (by kernel_rfl) (by kernel_rfl) (fun _ _ _ h => h) (Or.inl ⟨by rfl, fun wx hx => by simp [go_sem]⟩) hS3 ?_
      simp only [Act.put, List.getElem_toArray, List.getElem_cons_succ, List.getElem_cons_zero, List.setIfInBounds_toArray, List.set_cons_zero, List.set_cons_succ]
      refine wpAnyH_take (i := 12) (v := .int .i64 X) rfl (by kernel_rfl) (by kernel_rfl) (by kernel_rfl) (fun _ _ _ h => h) (Or.inl ⟨by rfl, fun wx hx => by simp [go_sem]⟩) hS3 ?_
      simp only [Act.put, List.getElem_toArray, List.getElem_cons_succ, List.getElem_cons_zero, List.setIfInBounds_toArray, List.set_cons_zero, List.set_cons_succ]
      refine wpAnyH_take (i := 13) (v := .slice am nm cm) rfl (by kernel_rfl) (by kernel_rfl) (by kernel_rfl) (fun _ _ _ h => h) (Or.inl ⟨by rfl, fun wx hx => by simp [go_sem]⟩) hS3 ?_
      simp only [Act.put, List.getElem_toArray, List.getElem_cons_succ, List.getElem_cons_zero, List.setIfInBounds_toArray, List.set_cons_zero, List.set_cons_succ]
      refine wpAnyH_done (by kernel_rfl) ?_ _
      clear hS3
      have HIX : Hid (J2.gen ≤ i + 1 + 1) := by show _ ≤ _; rw [HGEN.out]; have := HJB.out; split <;> omega
      go_wp2
      go_roundw
      case rel => exact ⟨am, nm, cm, i + 1, P2, Q2, D2, J2, rfl, by simp, by omega, ⟨HPK.out, HLG2.out.1, HLG2.out.2, HIX.out, HWT.out, HBW.out, HUN.out⟩, HLW2⟩
      case measure => simp [intOf]; omega
    case neg =>
      have hlk : ¬ ((i : Int) < (n : Int)) := by omega
      have hbw := HI.out.bel
      have hun := HI.out.own
      have hpk := HI.out.pk
      have hlog := HI.out.log
      have hszN := HI.out.size
      have h8 : 8 ≤ sizeD D ∧ sizeD D ≤ 100 := by rw [hszN]; have := HNB.out; exact ⟨by omega, by omega⟩
      have hokJ : okJ D J := hlog.okJ h8.1 h8.2 (by have h1 := HI.out.gen; have h2 := HFO.out.1; omega)
      have hgen : J.gen ≤ 21 := by have h1 := HI.out.gen; have h2 := HFO.out.1; omega
      have hhs : hsD D = N / 2 := by show sizeD D / 2 = N / 2; rw [hszN]
      obtain ⟨u, HU⟩ : ∃ u : Nat, Hid (u = (x3 % 18446744073709551616).toNat) := ⟨_, rfl⟩
      obtain ⟨r, HRR⟩ : ∃ r : Nat, Hid (r = u % 120) := ⟨_, rfl⟩
      have f1 : IntKind.u64.wrap x3 = (u : Int) := by rw [IntKind.wrap_u64]; have := HU.out; omega
      have f2 : (u : Int) % 120 = (r : Int) := by have := HRR.out; omega
      have f3 : IntKind.i64.wrap (r : Int) = (r : Int) := iJ (by have := HRR.out; omega)
      obtain ⟨D1, HD1⟩ : ∃ d, Hid (d = fuseD13 D (r : Int)) := ⟨_, rfl⟩
      have hok1 : okJ D1 J := by rw [HD1.out]; exact hokJ.fuse _
      have hsz1 : sizeD D1 = N := by rw [HD1.out]; exact hszN
      have hhs1 : hsD D1 = N / 2 := by rw [HD1.out]; exact hhs
      have hlw1 : lowD (hsD D1) D1 := by rw [hhs1, HD1.out]; exact low_fuse HLW.out _
      have hwt1 : D1.wait = [] := hok1.wt
      obtain ⟨D2, HD2⟩ : ∃ d, Hid (d = doD J D1 o2) := ⟨_, rfl⟩
      have hlw2 := low_do o2 (J := J) hok1.k1 (by omega) hlw1
      have hwt2 := do_wait (D := D1) (J := J) o2
      rw [← HD2.out, hhs1] at hlw2
      rw [← HD2.out, hhs1, hwt1] at hwt2
      have hwt2' : D2.wait.length ≤ 200 := by have := HNB.out; simp at hwt2; omega
      have hsz2 : sizeD D2 = N := by unfold sizeD; rw [hlw2.2]; exact hsz1
      have HFS : Hid (Calls Tryd.prog 34 #[.pointer (some ⟨gd, 0, none⟩), .int .i64 (r : Int)] wr fun e w' => e = .returned (.tuple #[]) ∧ ∃ P', Pk Lg w' gd lg P' Q D1 J ∧ StaL (Un P' Q) w' (.slice wa wn wc) J.l ∧ Below y0.heap.size y0 w' ∧ ∀ k, Un P' Q k → y0.heap.size ≤ k) := (dkFuse_any (r : Int) (by have := HRR.out; omega) hpk.dk).mono (fun e w' h => by
        obtain ⟨P', h1, h2, h3, h4⟩ := h
        rw [← HD1.out] at h2
        have hlt : ∀ k, Un P Q k → k < wr.heap.size := hpk.lt OPS
        have h3u : Mut (Un P Q) wr w' := h3.wide (fun k hk => Or.inl hk)
        have hgu : ∀ k, Un P' Q k → Un P Q k ∨ wr.heap.size ≤ k := fun k hk => hk.elim (fun h => (h4 k h).elim (fun h => Or.inl (Or.inl h)) Or.inr) (fun h => Or.inl (Or.inr h))
        refine ⟨h1, P', ⟨h2, by rw [hsz1, ← hszN]; exact OPS.same hpk.lg h3.size (fun k hk => h3.block k (OPS.lt hpk.lg k hk) (hpk.ap k hk)), fun k hq hp => (h4 k hp).elim (hpk.ap k hq) (fun h => absurd (OPS.lt hpk.lg k hq) (by omega))⟩, HI.out.want.go h3u (fun k hk hp => (hgu k hp).elim id (fun h => absurd h (by omega))), hbw.trans (h3u.below hbw.size hun), fun k hk => (hgu k hk).elim (hun k) (fun h => Nat.le_trans hbw.size h)⟩)
      have HDO : Hid (∀ W P1, KOk W → Pk Lg W gd lg P1 Q D1 J → StaL (Un P1 Q) W (.slice wa wn wc) J.l → Below y0.heap.size y0 W → (∀ k, Un P1 Q k → y0.heap.size ≤ k) → Calls Tryd.prog 28 #[.pointer (some ⟨lg, 0, none⟩), .slice wa wn wc, .agg [.bool g2, .slice aB2 nB2 cB2, .slice aL2 nL2 cL2].toArray, .int .i64 (N : Int)] W fun e w' => ∃ mv X F P2, e = .returned (.tuple #[mv, .int .i64 X, .int .i64 F]) ∧ DkIs w' gd P2 D2 ∧ Below y0.heap.size y0 w' ∧ ∀ k, P2 k → y0.heap.size ≤ k) := fun W P1 hk hp hst hb hu => by
        have hw0 : ∀ W', Mut (Un P1 Q) W W' → Below w.heap.size w W' := fun W' m => HBX.out.trans ((hb.trans (m.below hb.size hu)).mono HBX.out.size)
        have hL : StaL (Un P1 Q) W (.slice aL2 nL2 cL2) o2.l := by
          obtain ⟨a, cc, hv, h2, h3, h4⟩ := HRLw.out
          refine ⟨a, cc, hv, h2, h3, fun hp => ?_⟩
          obtain ⟨b9, o9, h5, h6⟩ := h4 hp
          obtain ⟨_, h0, _⟩ := h6 0 hp
          have hb9 : b9 < w.heap.size := block_lt_of_cell h0
          refine ⟨b9, o9, h5, fun h => absurd (hu b9 h) (by have := HBX.out.size; omega), fun j hj => ?_⟩
          obtain ⟨vj, h7, h8⟩ := h6 j hj
          exact ⟨vj, by rw [(hw0 W (Mut.refl _ _)).cell (p := ⟨b9, o9 + j, none⟩) hb9]; exact h7, fun W' m => h8.below (hw0 W' m)⟩
        have h := do14_any OPS (.slice wa wn wc) (.slice aB2 nB2 cB2) (.slice aL2 nL2 cL2) o2 W hk hp hok1 HFB.out.1 (hlog.len h8.2).1 hst (fun W' m => HRBw.out.below (hw0 W' m)) hL
        rw [hsz1, ← HG2.out, ← HD2.out] at h
        refine h.mono (fun e w' hh => ?_)
        obtain ⟨mv, P', Q', h1, h2, h3, h4, h5, h6⟩ := hh
        exact ⟨mv, _, _, P', h1, h3, hb.trans (h5.below hb.size hu), fun k hk => (h6 k (Or.inl hk)).elim (hu k) (fun h => Nat.le_trans hb.size h)⟩
      have HSE : Hid (∀ W P1, DkIs W gd P1 D1 → Calls Tryd.prog 29 #[.pointer (some ⟨gd, 0, none⟩)] W fun r w' => r = .returned (.int .i64 (N : Int)) ∧ w' = W) := fun W P1 hW => by
        have h := dkSize_pure hW
        rw [hsz1] at h
        exact h
      have HW2 : Hid (D2.wait.length ≤ 200) := hwt2'
      have HLW2 : Hid (lowD (N / 2) D2 ∧ sizeD D2 = N) := ⟨hlw2.1, hsz2⟩
      clear hbw hun hpk hlog hszN h8 hokJ hgen hhs hok1 hsz1 hhs1 hlw1 hwt1 hlw2 hwt2 hwt2' hsz2 HI hi HLW
      have tk0 : Hid True := trivial
      go_wp2_with (first
        | (clear tk0; go_at_call 34; refine HFS.out.mono ?_; rintro e0 y1 ⟨rfl, P1, hp1, hs1, hb1, hu1⟩
           have HPK : Hid (Pk Lg y1 gd lg P1 Q D1 J) := hp1
           have HWT : Hid (StaL (Un P1 Q) y1 (.slice wa wn wc) J.l) := hs1
           have HBW : Hid (Below y0.heap.size y0 y1) := hb1
           have HUN : Hid (∀ k, Un P1 Q k → y0.heap.size ≤ k) := hu1
           clear hp1 hs1 hb1 hu1 HFS))
      clear f1 f2 f3
      have HG6w : Hid (∀ W, Below y0.heap.size y0 W → W.rangeAt g6 0 [.bool g2, .slice aB2 nB2 cB2, .slice aL2 nL2 cL2]) := fun W hb => Blk.range (HG6.out.below hb HG6.out.lt)
      refine wp_region_held_drew (S := fun wx => wx.rangeAt g6 0 [.bool g2, .slice aB2 nB2 cB2, .slice aL2 nL2 cL2]) (by kernel_rfl) (HG6w.out _ HBW.out.drew) ?_
      intro hS
      have HBY : Hid (Below y1.heap.size y1 (World.drew y1)) := (Below.refl _ _).drew
      change wpAnyH _ _ _ _ _ _ _ _ (World.drew y1)
      generalize World.drew y1 = y2 at *
      have HPK2 : Hid (Pk Lg y2 gd lg P1 Q D1 J) := HPK.out.below OPS HBY.out
      have HWT2 : Hid (StaL (Un P1 Q) y2 (.slice wa wn wc) J.l) := HWT.out.below HBY.out
      have HBW2 : Hid (Below y0.heap.size y0 y2) := HBW.out.trans (HBY.out.mono HBW.out.size)
      clear HPK HWT HBW HBY
      refine wpAnyH_take (i := 0) (v := .pointer (some ⟨lg, 0, none⟩)) rfl (by kernel_rfl) (by kernel_rfl) (by kernel_rfl) (fun _ _ _ h => h) (Or.inl ⟨by rfl, fun wx hx => by simp [go_sem]⟩) hS ?_
      simp only [Act.put, List.getElem_toArray, List.getElem_cons_zero, List.setIfInBounds_toArray, List.set_cons_zero, List.set_cons_succ]
      refine wpAnyH_take (i := 1) (v := .slice wa wn wc) rfl (by kernel_rfl) (by kernel_rfl) (by kernel_rfl) (fun _ _ _ h => h) (Or.inl ⟨by rfl, fun wx hx => by simp [go_sem]⟩) hS ?_
      simp only [Act.put, List.getElem_toArray, List.getElem_cons_succ, List.getElem_cons_zero, List.setIfInBounds_toArray, List.set_cons_zero, List.set_cons_succ]
      refine wpAnyH_take (i := 2) (v := .agg [.bool g2, .slice aB2 nB2 cB2, .slice aL2 nL2 cL2].toArray) rfl (by kernel_rfl) (by kernel_rfl) (by kernel_rfl) (fun _ _ _ h => h) (Or.inl ⟨by rfl, fun wx hx => by exact load_run 50 _ rfl _ _ rfl _ _ hx Tryd.underlying50 rfl (info_op14 _ _ _)⟩) hS ?_
      simp only [Act.put, List.getElem_toArray, List.getElem_cons_succ, List.getElem_cons_zero, List.setIfInBounds_toArray, List.set_cons_zero, List.set_cons_succ]
      refine wpAnyH_take (i := 3) (v := .pointer (some ⟨gd, 0, none⟩)) rfl (by kernel_rfl) (by kernel_rfl) (by kernel_rfl) (fun _ _ _ h => h) (Or.inl ⟨by rfl, fun wx hx => by simp [go_sem]⟩) hS ?_
      simp only [Act.put, List.getElem_toArray, List.getElem_cons_succ, List.getElem_cons_zero, List.setIfInBounds_toArray, List.set_cons_zero, List.set_cons_succ]
      refine wpAnyH_enter 4 (by kernel_rfl) rfl (by rfl) (f := 29) (args := #[.pointer (some ⟨gd, 0, none⟩)]) (by simp [go_sem]) (HSE.out _ _ HPK2.out.dk) ?_
      rintro e y3 ⟨rfl, hy3⟩
      subst hy3
      refine ⟨_, rfl, hS, ?_⟩
      simp only [Act.put, List.getElem_toArray, List.getElem_cons_succ, List.getElem_cons_zero, List.setIfInBounds_toArray, List.set_cons_zero, List.set_cons_succ]
      have hcc := HDO.out _ _ (HK0.out.below HBW2.out HK0.out.lt) HPK2.out HWT2.out HBW2.out HUN.out
      generalize hA : #[Value.pointer (some ⟨lg, 0, none⟩), .slice wa wn wc, .agg [.bool g2, .slice aB2 nB2 cB2, .slice aL2 nL2 cL2].toArray, .int .i64 (N : Int)] = AA at hcc
      refine wpAnyH_enter 5 (by kernel_rfl) rfl (by rfl) (f := 28) (args := AA) ?_ hcc ?_
      · subst hA
        simp [go_sem]
      clear hcc hA
      rintro e y4 ⟨mv, X, F, P2, rfl, hd2, hb2, hu2⟩
      refine ⟨_, rfl, HG6w.out y4 hb2, ?_⟩
      have HDK : Hid (DkIs y4 gd P2 D2) := hd2
      have HBW : Hid (Below y0.heap.size y0 y4) := hb2
      replace HUN : Hid (∀ k, P2 k → y0.heap.size ≤ k) := hu2
      clear hd2 hb2 hu2 hS HDO HSE HPK2 HWT2 HBW2
      simp only [Act.put, List.getElem_toArray, List.getElem_cons_succ, List.getElem_cons_zero, List.setIfInBounds_toArray, List.set_cons_zero, List.set_cons_succ]
      refine wpAnyH_done (by kernel_rfl) ?_ _
      have hok2 : okD D2 := by obtain ⟨gs, vw, fu, lf, hm, _⟩ := HDK.out; exact hm.ok
      obtain ⟨o1, o3, o4, o5, o6⟩ := low_open kp hok2 HNB.out.1 (Nat.le_trans HNB.out.2 (by decide)) HLW2.out.2 HLW2.out.1
      have hszc := (size_crash hok2 kp).trans HLW2.out.2
      obtain ⟨D3, HD3⟩ : ∃ d, Hid (d = crashD13 D2 kp) := ⟨_, rfl⟩
      have hw3 : D3.wait = [] := by rw [HD3.out]; rfl
      rw [← HD3.out] at o1 o3 o4 o5 o6 hszc
      obtain ⟨D4, HD4⟩ : ∃ d, Hid (d = openD D3) := ⟨_, rfl⟩
      obtain ⟨J4, HJ4⟩ : ∃ j, Hid (j = (openS D3).2) := ⟨_, rfl⟩
      rw [← HD4.out] at o4 o5
      rw [← HJ4.out] at o4 o6
      have h8 : 8 ≤ sizeD D4 ∧ sizeD D4 ≤ 100 := by rw [o5]; have := HNB.out; exact ⟨by omega, by omega⟩
      have hokJ4 : okJ D4 J4 := o4.okJ h8.1 h8.2 (by omega)
      have hlen4 := o4.len h8.2
      obtain ⟨p1, p2, p3, p4, p5, p6, _⟩ := do_app o4 bx
      rw [o5] at p1 p3 p4
      obtain ⟨D5, HD5⟩ : ∃ d, Hid (d = appD J4 D4 bx) := ⟨_, rfl⟩
      obtain ⟨J5, HJ5⟩ : ∃ j, Hid (j = appJ J4 D4 bx) := ⟨_, rfl⟩
      obtain ⟨L5, HL5⟩ : ∃ l, Hid (l = apL J4.l bx N) := ⟨_, rfl⟩
      obtain ⟨X5, HX5⟩ : ∃ x, Hid (x = apX J4.l bx N) := ⟨_, rfl⟩
      rw [← HX5.out] at p1
      rw [← HD5.out, ← HJ5.out] at p2
      rw [← HJ5.out, ← HL5.out] at p3
      rw [← HD5.out] at p4
      rw [← HJ5.out] at p6
      have h85 : 8 ≤ sizeD D5 ∧ sizeD D5 ≤ 100 := by rw [p4]; have := HNB.out; exact ⟨by omega, by omega⟩
      obtain ⟨q1, q2, q3⟩ := p2.again h85.1
      have hlen5 := p2.len h85.2
      rw [p3] at hlen5
      have hw5 : D5.wait = [] := by rw [p2.idle]; rfl
      have hcr5 := p2.crash []
      have hpick5 := p2.good.pick
      have HCR : Hid (∀ W P, DkIs W gd P D2 → Below y0.heap.size y0 W → (∀ k, P k → y0.heap.size ≤ k) → Calls Tryd.prog 35 #[.pointer (some ⟨gd, 0, none⟩), .slice a4 n4 c4] W fun e w' => e = .returned (.tuple #[]) ∧ ∃ P', DkIs w' gd P' D3 ∧ Below y0.heap.size y0 w' ∧ ∀ k, P' k → y0.heap.size ≤ k) := fun W P hd hb hu => by
        rw [HD3.out]
        refine (dkCrash_any (.slice a4 n4 c4) kp hd HW2.out (fun W' m => HR4w.out.below (HBX.out.trans ((hb.trans (m.below hb.size hu)).mono HBX.out.size)))).mono (fun e w' h => ?_)
        obtain ⟨P', h1, h2, h3, h4⟩ := h
        exact ⟨h1, P', h2, hb.trans (h3.below hb.size hu), fun k hk => (h4 k hk).elim (hu k) (fun h => Nat.le_trans hb.size h)⟩
      have HO1 : Hid (∀ W P, KOk W → DkIs W gd P D3 → Below y0.heap.size y0 W → (∀ k, P k → y0.heap.size ≤ k) → Calls Tryd.prog 23 #[.pointer (some ⟨gd, 0, none⟩)] W fun e w' => ∃ P' lg' Q', e = .returned (.tuple #[.pointer (some ⟨lg', 0, none⟩), .int .i64 0]) ∧ Pk Lg w' gd lg' P' Q' D4 J4 ∧ Below y0.heap.size y0 w' ∧ ∀ k, Un P' Q' k → y0.heap.size ≤ k) := fun W P hk hd hb hu => by
        refine (OPS.opens hk hd hw3 (by rw [hszc]; have := HNB.out; omega) (fun _ => by omega)).mono (fun e w' h => ?_)
        obtain ⟨P', lv, h1, h2, h3, h4, h5, _⟩ := h
        obtain ⟨lg', Q', h6, h7, h8⟩ := h5 o3
        rw [← HD4.out] at h2 h7
        rw [← HJ4.out] at h7
        rw [o3, h6] at h1
        exact ⟨P', lg', Q', h1, ⟨h2, h7, fun k hk => (h8 k hk).2⟩, hb.trans (h3.below hb.size hu), fun k hk => hk.elim (fun hk => (h4 k hk).elim (hu k) (fun h => Nat.le_trans hb.size h)) (fun hk => Nat.le_trans hb.size (h8 k hk).1)⟩
      have HAL : Hid (∀ W lg' P Q, Pk Lg W gd lg' P Q D4 J4 → Calls Tryd.prog 24 #[.pointer (some ⟨lg', 0, none⟩)] W fun e w' => ∃ v, e = .returned v ∧ StaL (Un P Q) w' v J4.l ∧ Below W.heap.size W w') := fun W lg' P Q hp => (OPS.all hp.lg hlen4.1 (Nat.le_trans hlen4.2 (by decide))).mono (fun e w' h => by
        obtain ⟨v, us, h1, h2, h3⟩ := h
        exact ⟨v, h1, h2.own.staL (hp.lt OPS) h2.len (fun j u hj => (h2.good j u hj).st (hp.lt OPS)), h3⟩)
      have HS4 : Hid (∀ W P, DkIs W gd P D4 → Calls Tryd.prog 29 #[.pointer (some ⟨gd, 0, none⟩)] W fun r w' => r = .returned (.int .i64 (N : Int)) ∧ w' = W) := fun W P hW => by
        have h := dkSize_pure hW
        rw [o5] at h
        exact h
      have HNA : Hid (∀ W R v, (∀ k, R k → k < W.heap.size) → StaL R W v J4.l → Sta R W (fun X => Reads X (.slice a5 n5 c5) bx) → Calls Tryd.prog 37 #[v, .slice a5 n5 c5, .int .i64 (N : Int)] W fun e w' => ∃ lv, e = .returned (.tuple #[lv, .int .i64 X5]) ∧ StaL R w' lv L5 ∧ Below W.heap.size W w') := fun W R v h0 h1 h2 => by
        rw [HX5.out, HL5.out]
        exact nAppend_st R v _ J4.l bx N (by have := hlen4.1; omega) (by rw [sizeL_snoc]; have h1 := hlen4.2; have h2 := HFB.out.2; unfold secR; omega) (by have := HNB.out; omega) W h0 h1 h2
      have HAP : Hid (∀ W lg' P Q, KOk W → Pk Lg W gd lg' P Q D4 J4 → Sta (Un P Q) W (fun X => Reads X (.slice a5 n5 c5) bx) → Calls Tryd.prog 38 #[.pointer (some ⟨lg', 0, none⟩), .slice a5 n5 c5] W fun e w' => e = .returned (.int .i64 X5) ∧ ∃ P' Q', DkIs w' gd P' D5 ∧ Mut (Un P Q) W w' ∧ Grew W (Un P Q) (Un P' Q')) := fun W lg' P Q hk hp hst => by
        have h := OPS.app (.slice a5 n5 c5) bx hk hp hokJ4 (by have := HFB.out.2; omega) hst
        rw [p1, ← HD5.out] at h
        refine h.mono (fun e w' hh => ?_)
        obtain ⟨h1, P', Q', h2, h3, h4, _⟩ := hh
        exact ⟨h1, P', Q', h2, h3, h4⟩
      have HC2 : Hid (∀ W P, DkIs W gd P D5 → Calls Tryd.prog 35 #[.pointer (some ⟨gd, 0, none⟩), .slice none 0 0] W fun e w' => e = .returned (.tuple #[]) ∧ ∃ P', DkIs w' gd P' D5 ∧ Mut P W w' ∧ Grew W P P') := fun W P hd => by
        refine (dkCrash_any (.slice none 0 0) [] hd (by rw [hw5]; exact Nat.zero_le _) (fun W' _ => ReadsI.nil W')).mono (fun e w' h => ?_)
        obtain ⟨P', h1, h2, h3, h4⟩ := h
        rw [hcr5] at h2
        exact ⟨h1, P', h2, h3, h4⟩
      have HO2' : Hid (∀ W P, KOk W → DkIs W gd P D5 → Calls Tryd.prog 23 #[.pointer (some ⟨gd, 0, none⟩)] W fun e w' => ∃ lg' Q', e = .returned (.tuple #[.pointer (some ⟨lg', 0, none⟩), .int .i64 0]) ∧ LgE Lg w' lg' Q' gd J5 ∧ Mut P W w') := fun W P hk hd => by
        refine (OPS.opens hk hd hw5 h85.2 (fun _ => by rw [hpick5]; show J5.gen + 1 < _; omega)).mono (fun e w' h => ?_)
        obtain ⟨P', lv, h1, h2, h3, h4, h5, _⟩ := h
        obtain ⟨lg', Q', h6, h7, h8⟩ := h5 q1
        rw [q3] at h7
        rw [q1, h6] at h1
        exact ⟨lg', Q', h1, ⟨_, h7⟩, h3⟩
      have HA2 : Hid (∀ W lg' Q, LgE Lg W lg' Q gd J5 → Calls Tryd.prog 24 #[.pointer (some ⟨lg', 0, none⟩)] W fun e w' => ∃ v, e = .returned v ∧ ReadsL w' v L5 ∧ Below W.heap.size W w') := fun W lg' Q hp => (OPS.allE hp (by rw [p3]; exact hlen5.1) (by rw [p3]; exact Nat.le_trans hlen5.2 (by decide))).mono (fun e w' h => by
        obtain ⟨v, us, h1, h2, h3⟩ := h
        rw [p3] at h2
        exact ⟨v, h1, h2.readsL, h3⟩)
      have HSM : Hid (∀ (W : World) (va vb : Value), ReadsL W va L5 → ReadsL W vb L5 → Calls Tryd.prog 12 #[va, vb] W fun e w' => e = .returned (.bool true) ∧ Below W.heap.size W w') := fun W va vb h1 h2 => by
        have h := nSame_any va vb L5 L5 W h1 h2 (by have := hlen5.1; omega)
        rw [decide_eq_true rfl] at h
        exact h
      have HST : Hid (∀ W R, Below y0.heap.size y0 W → (∀ k, R k → y0.heap.size ≤ k) → Sta R W (fun X => Reads X (.slice a5 n5 c5) bx)) := fun W R hb hu W' m => HR5w.out.below (HBX.out.trans ((hb.trans (m.below hb.size hu)).mono HBX.out.size))
      clear hok2 o1 o3 o4 o5 o6 hszc hw3 h8 hokJ4 hlen4 p1 p2 p3 p4 p5 p6 h85 q1 q2 q3 hlen5 hw5 hcr5 hpick5
      have tq0 : Hid True := trivial
      have tq1 : Hid True := trivial
      have tq2 : Hid True := trivial
      have tq3 : Hid True := trivial
      have tq4 : Hid True := trivial
      have tq5 : Hid True := trivial
      have tq6 : Hid True := trivial
      have tq7 : Hid True := trivial
      have tq8 : Hid True := trivial
      have tq9 : Hid True := trivial
      have tq10 : Hid True := trivial
      go_wp2_with (first
        | (clear tq0; go_at_call 35; refine (HCR.out _ _ HDK.out HBW.out HUN.out).mono ?_; rintro e0 y5 ⟨rfl, P3, hd3, hb3, hu3⟩
           replace HDK : Hid (DkIs y5 gd P3 D3) := hd3
           replace HBW : Hid (Below y0.heap.size y0 y5) := hb3
           replace HUN : Hid (∀ k, P3 k → y0.heap.size ≤ k) := hu3
           clear hd3 hb3 hu3)
        | (clear tq1; go_at_call 23; refine (HO1.out _ _ (HK0.out.below HBW.out HK0.out.lt) HDK.out HBW.out HUN.out).mono ?_; rintro e0 y6 ⟨P4, lg4, Q4, rfl, hp4, hb4, hu4⟩
           have HP4 : Hid (Pk Lg y6 gd lg4 P4 Q4 D4 J4) := hp4
           replace HBW : Hid (Below y0.heap.size y0 y6) := hb4
           replace HUN : Hid (∀ k, Un P4 Q4 k → y0.heap.size ≤ k) := hu4
           clear hp4 hb4 hu4 HDK)
        | (clear tq2; go_at_call 24; refine (HAL.out _ _ _ _ HP4.out).mono ?_; rintro e0 y7 ⟨v7, rfl, hs7, hz⟩
           have HS7 : Hid (StaL (Un P4 Q4) y7 v7 J4.l) := hs7
           replace HP4 : Hid (Pk Lg y7 gd lg4 P4 Q4 D4 J4) := HP4.out.below OPS hz
           replace HBW : Hid (Below y0.heap.size y0 y7) := HBW.out.trans (hz.mono HBW.out.size)
           clear hs7 hz)
        | (clear tq3; go_at_call 29; refine (HS4.out _ _ HP4.out.dk).mono ?_; rintro e0 y8 ⟨rfl, hy⟩; have hy2 := hy.symm; clear hy; subst hy2)
        | (clear tq4; go_at_call 37; refine (HNA.out _ _ _ (HP4.out.lt OPS) HS7.out (HST.out _ _ HBW.out HUN.out)).mono ?_; rintro e0 y9 ⟨v9, rfl, hs9, hz⟩
           have HS9 : Hid (StaL (Un P4 Q4) y9 v9 L5) := hs9
           replace HP4 : Hid (Pk Lg y9 gd lg4 P4 Q4 D4 J4) := HP4.out.below OPS hz
           replace HBW : Hid (Below y0.heap.size y0 y9) := HBW.out.trans (hz.mono HBW.out.size)
           clear hs9 hz HS7)
        | (clear tq5; go_at_call 38; refine (HAP.out _ _ _ _ (HK0.out.below HBW.out HK0.out.lt) HP4.out (HST.out _ _ HBW.out HUN.out)).mono ?_; rintro e0 y10 ⟨rfl, P5, Q5, hd5, hm5, hg5⟩
           have HD5 : Hid (DkIs y10 gd P5 D5) := hd5
           replace HS9 : Hid (StaL (Un P5 Q5) y10 v9 L5) := HS9.out.go hm5 (Grew.old hg5)
           have HB10 : Hid (Below y0.heap.size y0 y10) := HBW.out.trans (hm5.below HBW.out.size HUN.out)
           have HU5 : Hid (∀ k, Un P5 Q5 k → y0.heap.size ≤ k) := fun k hk => (hg5 k hk).elim (HUN.out k) (fun h => Nat.le_trans HBW.out.size h)
           clear hd5 hm5 hg5 HP4 HUN HBW)
        | (clear tq6; go_at_call 35; refine (HC2.out _ _ HD5.out).mono ?_; rintro e0 y11 ⟨rfl, P6, hd6, hm6, hg6⟩
           have HD6 : Hid (DkIs y11 gd P6 D5) := hd6
           replace HS9 : Hid (StaL P6 y11 v9 L5) := HS9.out.go (hm6.wide (fun k hk => Or.inl hk)) (fun k hk h => Or.inl ((Grew.old hg6) k hk h))
           have HU6 : Hid (∀ k, P6 k → y0.heap.size ≤ k) := fun k hk => (hg6 k hk).elim (fun h => HU5.out k (Or.inl h)) (fun h => Nat.le_trans HB10.out.size h)
           replace HB10 : Hid (Below y0.heap.size y0 y11) := HB10.out.trans (hm6.below HB10.out.size (fun k hk => HU5.out k (Or.inl hk)))
           clear hd6 hm6 hg6 HU5)
        | (clear tq7; go_at_call 23; refine (HO2'.out _ _ (HK0.out.below HB10.out HK0.out.lt) HD6.out).mono ?_; rintro e0 y12 ⟨lg7, Q7, rfl, hl7, hm7⟩
           have HL7 : Hid (LgE Lg y12 lg7 Q7 gd J5) := hl7
           have HR9 : Hid (ReadsL y12 v9 L5) := (HS9.out.sta).at hm7
           replace HB10 : Hid (Below y0.heap.size y0 y12) := HB10.out.trans (hm7.below HB10.out.size HU6.out)
           clear hl7 hm7 HS9 HU6)
        | (clear tq8; go_at_call 24; refine (HA2.out _ _ _ HL7.out).mono ?_; rintro e0 y13 ⟨v13, rfl, hr13, hz⟩
           have HR13 : Hid (ReadsL y13 v13 L5) := hr13
           replace HR9 : Hid (ReadsL y13 v9 L5) := HR9.out.below hz
           replace HB10 : Hid (Below y0.heap.size y0 y13) := HB10.out.trans (hz.mono HB10.out.size)
           clear hr13 hz)
        | (clear tq9; go_at_call 12; refine (HSM.out _ _ _ HR13.out HR9.out).mono ?_; rintro e0 y14 ⟨rfl, hz⟩
           replace HB10 : Hid (Below y0.heap.size y0 y14) := HB10.out.trans (hz.mono HB10.out.size)
           clear hz HR13 HR9)
        | (clear tq10; go_at_call 9; refine (HWK.out _ (HK0.out.below HB10.out HK0.out.lt)).mono ?_; rintro e0 y15 ⟨rfl, hz⟩
           replace HB10 : Hid (Below y0.heap.size y0 y15) := HB10.out.trans (hz.mono HB10.out.size)
           clear hz))
      go_ret
      exact ⟨rfl, HBX.out.trans (HB10.out.mono HBX.out.size)⟩
end Go.Proofs.YtfleaipdoiiiiaaDoor
/- What the listed variable gives: the rounds' words lie where the walks look for them. -/
namespace Go.Proofs.YtfleaipdoiiiiaaDoor
open Go.ChangeShapes Go.WideShapes Go.ChangeAt Go.WideMaps Go.WideElems Go.RowKit
set_option maxRecDepth 100000
theorem own : ownKnob Tryd.prog.godebug = none := by kernel_rfl
theorem gKw : Tryd.prog.globalNamed "blazon/sha.roundWords" = some 0 := by kernel_rfl
theorem tKw : (Tryd.prog.globals[0]?).map (·.type) = some 125 := by kernel_rfl
def laidK : List (String × DataW Unit) := [("blazon/sha.roundWords", Rows.laid_blazon_sha_roundWords)]
def kzs : List Int := kw.map fun x => (x.toNat : Int)
theorem laid_tab : (Rows.laid_blazon_sha_roundWords : DataW Unit) = Lib.tabData .u32 kzs := by kernel_rfl
theorem door_met (os : Os) (args : Array Value) : laidMetH Tryd.prog laidK ((World.doorLaid Tryd.prog 400 os).forCall (fun _ _ => 0) ⟨#[], args, []⟩).memory :=
  laidMetH_of_parts3 (fuel := 8) (laidMet_of_run' 8 (by kernel_rfl) (by kernel_rfl)) (by kernel_rfl) (by kernel_rfl)
theorem getD_toNat (l : List (BitVec 32)) (j : Nat) : (l.map fun x => (x.toNat : Int)).getD j 0 = ((l.getD j 0).toNat : Int) := by
  rw [List.getD_eq_getElem?_getD, List.getD_eq_getElem?_getD, List.getElem?_map]
  cases l[j]? <;> rfl
theorem kok_of_laid {W : World} (h : laidMetH Tryd.prog laidK W) : KOk W := by
  rw [MakeChecks.laidMetH_plain _ _ _ (by kernel_rfl)] at h
  unfold laidK at h
  rw [laid_tab] at h
  have hT := Lib.tabIs_of_head gKw tKw Tryd.underlying125 Tryd.underlying116 (by kernel_rfl) (by kernel_rfl) h
  intro j hj
  rw [hT.cell gKw j (by simpa [kzs, kw] using hj), kzs, getD_toNat]
end Go.Proofs.YtfleaipdoiiiiaaDoor
/- What a slice of bytes that came in gives: the bytes that it reads as; and that it reads so still behind a call that changed no old block. -/
namespace Go.Proofs.YtfleaipdoiiiiaaDoor
open Go.ChangeShapes Go.WideShapes Go.ChangeAt Go.WideMaps Go.WideElems Go.RowKit
set_option maxRecDepth 100000
theorem cells_byte : Tryd.prog.cellsOf 5 = 1 := by kernel_rfl
theorem laid_out : laidOutB Tryd.prog = true := by kernel_rfl
theorem readable_bytes : Tryd.prog.readableRec 22 = true := by kernel_rfl
theorem row_bytes : 22 < Tryd.prog.types.size := of_decide_eq_true (by kernel_rfl)
theorem byte_range {zs : List Int} (h : ∀ n ∈ zs, (Lit.int .u8 n).wf = true) (j : Nat) : 0 ≤ zs.getD j 0 ∧ zs.getD j 0 < 256 := by
  rw [List.getD_eq_getElem?_getD]
  cases hj : zs[j]? with
  | none => simp
  | some n =>
    have := h n (List.mem_of_getElem? hj)
    have := bounds_u8 this
    simp
    omega
end Go.Proofs.YtfleaipdoiiiiaaDoor
/- What a digest that came in gives: its 32 bytes. -/
namespace Go.Proofs.YtfleaipdoiiiiaaDoor
open Go.ChangeShapes Go.WideShapes Go.ChangeAt Go.WideMaps Go.WideElems Go.RowKit
set_option maxRecDepth 100000
end Go.Proofs.YtfleaipdoiiiiaaDoor
/- What a slice of acts that came in gives, with its sizes (layer 14). -/
namespace Go.Proofs.YtfleaipdoiiiiaaDoor
open Go.ChangeShapes Go.WideShapes Go.ChangeAt Go.WideMaps Go.WideElems Go.RowKit
set_option maxRecDepth 100000
theorem cells_bytesJ : Tryd.prog.cellsOf 22 = 1 := by kernel_rfl
theorem cells_bytessJ : Tryd.prog.cellsOf 25 = 1 := by kernel_rfl
theorem cells_boolJ : Tryd.prog.cellsOf 4 = 1 := by kernel_rfl
theorem cells_op14 : Tryd.prog.cellsOf 50 = 3 := by kernel_rfl
theorem readable_ops14 : Tryd.prog.readableRec 43 = true := by kernel_rfl
theorem row_ops14 : 43 < Tryd.prog.types.size := of_decide_eq_true (by kernel_rfl)
theorem bytes_byteJ : Tryd.prog.bytesOf 5 = 1 := by kernel_rfl
theorem bytes_bytesJ : Tryd.prog.bytesOf 22 = 24 := by kernel_rfl
theorem bytes_op14 : Tryd.prog.bytesOf 50 = 56 := by kernel_rfl
theorem weightsAll_memJ {H : Type} {P : Program} {e : TypeId} {q : Nat → Bool} : ∀ (l : List (DataW H)), (DataW.weightsAll P e l).all q = true → ∀ d ∈ l, (d.weights P e).all q = true
  | [], _, _, h => by cases h
  | x :: r, hl, d, h => by
    rw [DataW.weightsAll, List.all_append, Bool.and_eq_true] at hl
    rcases List.mem_cons.1 h with rfl | h
    · exact hl.1
    · exact weightsAll_memJ r hl.2 d h
theorem reads_sizedJ {H : Type} {enc : TypeId × Value → H} {W : World} {v : Value} {d : DataW H} {p : List MemPlace} {fuel : Nat} (hf : DataW.trod enc Tryd.prog W 0 (fun _ => true) true fuel 22 [v] = some (d, p)) :
    ∃ bs, Reads W v bs ∧ (∀ N, (d.weights Tryd.prog 22).all (· ≤ N) = true → bs.length ≤ N) := by
  rcases open_ints Tryd.underlying22 Tryd.underlying5 cells_byte hf with ⟨hcs, hx⟩ | ⟨a, len, cap, zs, hcs, _, hl, hm, hz, hx, hcell, hwz⟩
  · simp only [List.cons.injEq, and_true] at hcs
    subst hcs
    exact ⟨[], ⟨none, 0, rfl, Nat.le_refl _, fun _ => rfl, fun h => by cases h⟩, fun _ _ => Nat.zero_le _⟩
  · simp only [List.cons.injEq, and_true] at hcs
    subst hcs
    simp only [Prod.mk.injEq] at hx
    obtain ⟨rfl, rfl⟩ := hx
    simp only [if_true] at hz
    have hlen : ((zs.take len).map fun n => BitVec.ofInt 8 n).length = len := by simp; omega
    obtain ⟨ab, ao, spot⟩ := a
    refine ⟨(zs.take len).map fun n => BitVec.ofInt 8 n, ⟨some ⟨ab, ao, spot⟩, cap, by rw [hlen], by rw [hlen]; exact hl, (fun h => by cases h), fun hp => ?_⟩, ?_⟩
    · rw [hlen] at hp ⊢
      have hspot : spot = none := by simpa [Addr.add] using World.cell?_spot (hcell 0 (by omega))
      subst hspot
      refine ⟨ab, ao, rfl, fun j hj => ?_⟩
      have hcj := hcell j (by omega)
      rw [Addr.add_lit] at hcj
      rw [hcj]
      have hb := byte_range hwz j
      have e : ((zs.take len).map fun n => BitVec.ofInt 8 n).getD j 0 = BitVec.ofInt 8 (zs.getD j 0) := by
        rw [List.getD_eq_getElem?_getD, List.getElem?_map, List.getElem?_take_of_lt hj, List.getD_eq_getElem?_getD, List.getElem?_eq_getElem (show j < zs.length by omega)]
        rfl
      rw [e, BitVec.toNat_ofInt]
      congr 2
      omega
    · intro N hN
      rw [hlen]
      rw [DataW.weights] at hN
      simp only [Tryd.underlying22, bytes_byteJ, Nat.mul_one, List.all_cons, Bool.and_eq_true, decide_eq_true_eq] at hN
      have h3 : (lits (H := H) .u8 (zs.take len)).length = len := by simp [lits]; omega
      have := hN.1
      omega
theorem readsL_sizedJ {H : Type} {enc : TypeId × Value → H} {W : World} {v : Value} {d : DataW H} {p : List MemPlace} {fuel : Nat} (hf : DataW.trod enc Tryd.prog W 0 (fun _ => true) true fuel 25 [v] = some (d, p)) :
    ∃ ls, ReadsL W v ls ∧ (∀ N, (d.weights Tryd.prog 25).all (· ≤ N) = true → ls.length ≤ N ∧ ∀ t ∈ ls, t.length ≤ N) := by
  rcases Go.Deep.open_slice1 Tryd.underlying25 cells_bytesJ hf with ⟨hcs, hx⟩ | ⟨a, len', cap', m, n, V, D, Pl, hcs, _, hl, hm, hmm, hx, hV⟩
  · simp only [List.cons.injEq, and_true] at hcs
    subst hcs
    exact ⟨[], ⟨none, 0, rfl, Nat.le_refl _, fun _ => rfl, fun h => by cases h⟩, fun _ _ => ⟨Nat.zero_le _, fun _ h => by cases h⟩⟩
  · simp only [List.cons.injEq, and_true] at hcs
    subst hcs
    simp only [Prod.mk.injEq] at hx
    obtain ⟨rfl, rfl⟩ := hx
    simp only [if_true] at hmm
    subst hmm
    obtain ⟨B, hB⟩ := Go.Deep.choose_lt (α := List (BitVec 8)) (p := fun i bs => Reads W (V i) bs ∧ (∀ N, ((D i).weights Tryd.prog 22).all (· ≤ N) = true → bs.length ≤ N)) (fun i hi => reads_sizedJ (hV i hi).2)
    have hlen : ((List.range len').map B).length = len' := by simp
    obtain ⟨ab, ao, spot⟩ := a
    refine ⟨(List.range len').map B, ⟨some ⟨ab, ao, spot⟩, m, by rw [hlen], by rw [hlen]; exact hl, (fun h => by cases h), fun hp => ?_⟩, ?_⟩
    · rw [hlen] at hp ⊢
      have hspot : spot = none := by simpa [Addr.add] using World.cell?_spot (hV 0 (by omega)).1
      subst hspot
      refine ⟨ab, ao, rfl, fun j hj => ⟨V j, ?_, ?_⟩⟩
      · have hcj := (hV j (by omega)).1
        rw [Addr.add_lit] at hcj
        exact hcj
      · have e : ((List.range len').map B).getD j [] = B j := by simp [hj]
        rw [e]; exact (hB j (by omega)).1
    · intro N hN
      rw [DataW.weights] at hN
      simp only [Tryd.underlying25, bytes_bytesJ, List.all_cons, List.all_append, Bool.and_eq_true, decide_eq_true_eq, List.length_map, List.length_range] at hN
      refine ⟨by rw [hlen]; have := hN.1; omega, fun t ht => ?_⟩
      obtain ⟨i, hi, rfl⟩ := List.mem_map.1 ht
      have hi2 := List.mem_range.1 hi
      exact (hB i (by omega)).2 N (weightsAll_memJ _ hN.2.1 _ (List.mem_map_of_mem hi))
/-- an act's cells -/
def opC14 (o : OpT) (vB vL : Value) : List Value := [.bool o.ag, vB, vL]
theorem act_sized {H : Type} {enc : TypeId × Value → H} {W : World} {l : List Value} {d : DataW H} {p : List MemPlace} {fuel : Nat} (hf : DataW.trod enc Tryd.prog W 0 (fun _ => true) true fuel 50 l = some (d, p)) :
    ∃ (o : OpT) (vB vL : Value), l = opC14 o vB vL ∧ Reads W vB o.b ∧ ReadsL W vL o.l ∧ (∀ N, (d.weights Tryd.prog 50).all (· ≤ N) = true → o.b.length ≤ N ∧ o.l.length ≤ N ∧ ∀ t ∈ o.l, t.length ≤ N) := by
  obtain ⟨y0, y1, y2, n, hx, hl, h0, h1, h2⟩ := Go.Deep.trod_struct3 Tryd.underlying50 hf
  rw [cells_op14] at hl
  rw [cells_boolJ] at h0
  rw [cells_bytesJ] at h1
  rw [cells_bytessJ] at h2
  match l, hl with
  | [c0, c1, c2], _ =>
    obtain ⟨b, e0, _⟩ := DataW.trod_bool Tryd.underlying4 h0
    obtain ⟨bs, hr, hbl⟩ := reads_sizedJ (v := c1) h1
    obtain ⟨ls, hrl, hll⟩ := readsL_sizedJ (v := c2) h2
    simp at e0
    subst e0
    refine ⟨⟨b, bs, ls⟩, c1, c2, rfl, hr, hrl, fun N hN => ?_⟩
    simp only [Prod.mk.injEq] at hx
    rw [hx.1, DataW.weights] at hN
    simp only [Tryd.underlying50, List.map_cons, List.map_nil, DataW.weightsEach, List.all_append, Bool.and_eq_true] at hN
    exact ⟨hbl N hN.2.1, hll N hN.2.2.1⟩
theorem acts_sized {H : Type} {enc : TypeId × Value → H} {W : World} {base : Nat} {v : Value} {d : DataW H} {p : List MemPlace} (hval : Value.okWide Tryd.prog W .any base 43 v)
    (h : DataW.Trod enc Tryd.prog W 0 (fun _ => true) true 43 v d p) :
    ∃ os, ROps W v os ∧ (∀ N, (d.weights Tryd.prog 43).all (· ≤ N) = true → ∀ o ∈ os, o.b.length ≤ N ∧ o.l.length ≤ N ∧ ∀ t ∈ o.l, t.length ≤ N) ∧ ∀ x ∈ p, x.block < W.heap.size := by
  obtain ⟨a1, len, cap, rfl⟩ := okWide_slice Tryd.underlying43 hval
  obtain ⟨fuel, hf⟩ := h
  have hp0 := DataW.trod_lt _ _ _ _ hf
  rcases Go.Deep.open_slice Tryd.underlying43 hf with ⟨hcs, hx⟩ | ⟨a, len', cap', m, n, D, Pl, hcs, _, hl, hm, hmm, hx, hV⟩
  · simp [Value.cells] at hcs
    obtain ⟨rfl, rfl, rfl⟩ := hcs
    exact ⟨[], ⟨none, 0, rfl, Nat.le_refl _, fun h => by cases h⟩, (fun _ _ _ h => by cases h), hp0⟩
  · simp [Value.cells] at hcs
    obtain ⟨rfl, rfl, rfl⟩ := hcs
    simp only [Prod.mk.injEq] at hx
    obtain ⟨rfl, rfl⟩ := hx
    simp only [if_true] at hmm
    subst hmm
    rw [cells_op14] at hV
    have : Inhabited (OpT × Value × Value) := ⟨(⟨false, [], []⟩, .int .i64 0, .int .i64 0)⟩
    obtain ⟨B, hB⟩ := Go.Deep.choose_lt (α := OpT × Value × Value) (p := fun i q => W.cells? 0 (a.add (i * 3)) 3 = some (opC14 q.1 q.2.1 q.2.2) ∧ Reads W q.2.1 q.1.b ∧ ReadsL W q.2.2 q.1.l ∧ (∀ N, ((D i).weights Tryd.prog 50).all (· ≤ N) = true → q.1.b.length ≤ N ∧ q.1.l.length ≤ N ∧ ∀ t ∈ q.1.l, t.length ≤ N)) (fun i hi => by
      obtain ⟨cs', h1, h2⟩ := hV i hi
      obtain ⟨o, vB, vL, rfl, h3, h4, h5⟩ := act_sized h2
      exact ⟨(o, vB, vL), h1, h3, h4, h5⟩)
    have hlen : ((List.range len).map fun i => (B i).1).length = len := by simp
    obtain ⟨ab, ao, spot⟩ := a
    have cell : ∀ i, i < m → ∀ j, j < 3 → W.cell? ((⟨ab, ao, spot⟩ : Addr).add (i * 3 + j)) = (opC14 (B i).1 (B i).2.1 (B i).2.2)[j]? := by
      intro i hi j hj
      obtain ⟨h1, _⟩ := hB i hi
      obtain ⟨_, _, h4⟩ := World.cells?_some h1
      have := h4 j hj
      rw [Go.Deep.add_add] at this
      exact this
    have hspot : 0 < m → spot = none := fun hp => by
      have h := cell 0 hp 0 (by omega)
      rw [show (opC14 (B 0).1 (B 0).2.1 (B 0).2.2)[0]? = some (.bool (B 0).1.ag) from rfl] at h
      simpa [Addr.add] using World.cell?_spot h
    refine ⟨(List.range len).map fun i => (B i).1, ⟨some ⟨ab, ao, spot⟩, m, by rw [hlen], by rw [hlen]; exact hl, fun hp => ?_⟩, ?_, hp0⟩
    · rw [hlen] at hp ⊢
      have hs := hspot (by omega)
      subst hs
      refine ⟨ab, ao, rfl, fun j hj => ?_⟩
      have e : ((List.range len).map fun i => (B i).1).getD j ⟨false, [], []⟩ = (B j).1 := by simp [hj]
      rw [e]
      have h0 := cell j (by omega) 0 (by omega)
      have h1 := cell j (by omega) 1 (by omega)
      have h2 := cell j (by omega) 2 (by omega)
      rw [Addr.add_lit] at h0 h1 h2
      exact ⟨(B j).2.1, (B j).2.2, h0, by rw [Nat.add_assoc]; exact h1, by rw [Nat.add_assoc]; exact h2, (hB j (by omega)).2.1, (hB j (by omega)).2.2.1⟩
    · intro N hN o ho
      rw [DataW.weights] at hN
      simp only [Tryd.underlying43, bytes_op14, List.all_cons, List.all_append, Bool.and_eq_true, decide_eq_true_eq, List.length_map, List.length_range] at hN
      obtain ⟨i, hi, rfl⟩ := List.mem_map.1 ho
      have hi2 := List.mem_range.1 hi
      exact (hB i (by omega)).2.2.2 N (weightsAll_memJ _ hN.2.1 _ (List.mem_map_of_mem hi))
end Go.Proofs.YtfleaipdoiiiiaaDoor
/- What a slice of ints and a slice of acts that came in give (layer 13). -/
namespace Go.Proofs.YtfleaipdoiiiiaaDoor
open Go.ChangeShapes Go.WideShapes Go.ChangeAt Go.WideMaps Go.WideElems Go.RowKit
set_option maxRecDepth 100000
set_option maxRecDepth 100000 in
theorem cells_int13 : Tryd.prog.cellsOf 3 = 1 := by kernel_rfl
set_option maxRecDepth 100000 in
theorem readable_ints : Tryd.prog.readableRec 56 = true := by kernel_rfl
set_option maxRecDepth 100000 in
theorem row_ints : 56 < Tryd.prog.types.size := of_decide_eq_true (by kernel_rfl)
theorem readsI_of_cells {H : Type} {enc : TypeId × Value → H} {W : World} {v : Value} {y : DataW H × List MemPlace} {fuel : Nat} (hf : DataW.trod enc Tryd.prog W 0 (fun _ => true) true fuel 56 [v] = some y) :
    ∃ ns, ReadsI W v ns := by
  rcases open_ints Tryd.underlying56 Tryd.underlying3 cells_int13 hf with ⟨hcs, hx⟩ | ⟨a, len, cap, zs, hcs, _, hl, hm, hz, hx, hcell, hwz⟩
  · simp only [List.cons.injEq, and_true] at hcs
    subst hcs
    exact ⟨[], none, 0, rfl, Nat.le_refl _, fun h => by cases h⟩
  · simp only [List.cons.injEq, and_true] at hcs
    subst hcs
    simp only [if_true] at hz
    have hlen : (zs.take len).length = len := by simp; omega
    obtain ⟨ab, ao, spot⟩ := a
    refine ⟨zs.take len, some ⟨ab, ao, spot⟩, cap, by rw [hlen], by rw [hlen]; exact hl, fun hp => ?_⟩
    rw [hlen] at hp ⊢
    have hspot : spot = none := by simpa [Addr.add] using World.cell?_spot (hcell 0 (by omega))
    subst hspot
    refine ⟨ab, ao, rfl, fun j hj => ?_⟩
    have hcj := hcell j (by omega)
    rw [Addr.add_lit] at hcj
    rw [hcj]
    have e : (zs.take len).getD j 0 = zs.getD j 0 := by
      rw [List.getD_eq_getElem?_getD, List.getElem?_take_of_lt hj, List.getD_eq_getElem?_getD]
    rw [e]
theorem readsI_of_trod {H : Type} {enc : TypeId × Value → H} {W : World} {base : Nat} {v : Value} {d : DataW H} {p : List MemPlace} (hval : Value.okWide Tryd.prog W .any base 56 v)
    (h : DataW.Trod enc Tryd.prog W 0 (fun _ => true) true 56 v d p) :
    ∃ ns, ReadsI W v ns ∧ ∀ x ∈ p, x.block < W.heap.size := by
  obtain ⟨a1, len, cap, rfl⟩ := okWide_slice Tryd.underlying56 hval
  obtain ⟨fuel, hf⟩ := h
  have hp0 := DataW.trod_lt _ _ _ _ hf
  obtain ⟨ns, h1⟩ := readsI_of_cells (v := .slice a1 len cap) hf
  exact ⟨ns, h1, hp0⟩
end Go.Proofs.YtfleaipdoiiiiaaDoor
/- What an act that came in gives, with its sizes; six arguments opened and shut (layer 14). -/
namespace Go.Proofs.YtfleaipdoiiiiaaDoor
open Go.ChangeShapes Go.WideShapes Go.ChangeAt Go.WideMaps Go.WideElems Go.RowKit
set_option maxRecDepth 100000
theorem readable_op14 : Tryd.prog.readableRec 50 = true := by kernel_rfl
theorem row_op14 : 50 < Tryd.prog.types.size := of_decide_eq_true (by kernel_rfl)
theorem act_of_trod {H : Type} {enc : TypeId × Value → H} {W : World} {base : Nat} {v : Value} {d : DataW H} {p : List MemPlace} (hval : Value.okWide Tryd.prog W .any base 50 v)
    (h : DataW.Trod enc Tryd.prog W 0 (fun _ => true) true 50 v d p) :
    ∃ (o : OpT) (vB vL : Value), v = .agg [.bool o.ag, vB, vL].toArray ∧ Reads W vB o.b ∧ ReadsL W vL o.l ∧ (∀ N, (d.weights Tryd.prog 50).all (· ≤ N) = true → o.b.length ≤ N ∧ o.l.length ≤ N ∧ ∀ t ∈ o.l, t.length ≤ N) ∧ ∀ x ∈ p, x.block < W.heap.size := by
  simp only [Value.okWide, Tryd.underlying50] at hval
  obtain ⟨cs, rfl, hcs, _⟩ := hval
  obtain ⟨fuel, hf⟩ := h
  have hp := DataW.trod_lt _ _ _ _ hf
  simp only [Value.cells] at hf
  obtain ⟨o, vB, vL, h1, h2, h3, h4⟩ := act_sized hf
  obtain ⟨l⟩ := cs
  replace h1 : l = opC14 o vB vL := by simpa using h1
  subst h1
  exact ⟨o, vB, vL, rfl, h2, h3, h4, hp⟩
theorem reads_sized14 {H : Type} {enc : TypeId × Value → H} {W : World} {base : Nat} {v : Value} {d : DataW H} {p : List MemPlace} (hval : Value.okWide Tryd.prog W .any base 22 v)
    (h : DataW.Trod enc Tryd.prog W 0 (fun _ => true) true 22 v d p) :
    ∃ bs, Reads W v bs ∧ (∀ N, (d.weights Tryd.prog 22).all (· ≤ N) = true → bs.length ≤ N) ∧ ∀ x ∈ p, x.block < W.heap.size := by
  obtain ⟨a1, len, cap, rfl⟩ := okWide_slice Tryd.underlying22 hval
  obtain ⟨fuel, hf⟩ := h
  have hp0 := DataW.trod_lt _ _ _ _ hf
  obtain ⟨bs, h1, h2⟩ := reads_sizedJ (v := .slice a1 len cap) hf
  exact ⟨bs, h1, h2, hp0⟩
theorem trodAll_six {H : Type} {enc : TypeId × Value → H} {P : Program} {w : World} {base : Nat} {spare : Nat → Bool} {held : Bool} {t0 t1 t2 t3 t4 t5 : TypeId} {args : Array Value} {ds : List (DataW H)} {ps : List MemPlace} (h : DataW.TrodAll enc P w base spare held [t0, t1, t2, t3, t4, t5] args.toList ds ps) :
    ∃ v0 v1 v2 v3 v4 v5 d0 d1 d2 d3 d4 d5 p0 p1 p2 p3 p4 p5, args = #[v0, v1, v2, v3, v4, v5] ∧ ds = [d0, d1, d2, d3, d4, d5] ∧ ps = p0 ++ p1 ++ p2 ++ p3 ++ p4 ++ p5 ∧ DataW.Trod enc P w base spare held t0 v0 d0 p0 ∧ DataW.Trod enc P w base spare held t1 v1 d1 p1 ∧ DataW.Trod enc P w base spare held t2 v2 d2 p2 ∧ DataW.Trod enc P w base spare held t3 v3 d3 p3 ∧ DataW.Trod enc P w base spare held t4 v4 d4 p4 ∧ DataW.Trod enc P w base spare held t5 v5 d5 p5 := by
  obtain ⟨v0, vs0, d0, ds0, p0, q0, hargs, rfl, rfl, h0, r0⟩ := trodAll_cons h
  obtain ⟨v1, vs1, d1, ds1, p1, q1, rfl, rfl, rfl, h1, r1⟩ := trodAll_cons r0
  obtain ⟨v2, vs2, d2, ds2, p2, q2, rfl, rfl, rfl, h2, r2⟩ := trodAll_cons r1
  obtain ⟨v3, vs3, d3, ds3, p3, q3, rfl, rfl, rfl, h3, r3⟩ := trodAll_cons r2
  obtain ⟨v4, vs4, d4, ds4, p4, q4, rfl, rfl, rfl, h4, r4⟩ := trodAll_cons r3
  obtain ⟨v5, vs5, d5, ds5, p5, q5, rfl, rfl, rfl, h5, r5⟩ := trodAll_cons r4
  obtain ⟨rfl, rfl, rfl⟩ := trodAll_nil r5
  exact ⟨v0, v1, v2, v3, v4, v5, d0, d1, d2, d3, d4, d5, p0, p1, p2, p3, p4, p5, by cases args; simp_all, rfl, by simp, h0, h1, h2, h3, h4, h5⟩
theorem trodAll_mk6 {H : Type} {enc : TypeId × Value → H} {P : Program} {w : World} {base : Nat} {spare : Nat → Bool} {held : Bool} {t0 t1 t2 t3 t4 t5 : TypeId} {v0 v1 v2 v3 v4 v5 : Value} {d0 d1 d2 d3 d4 d5 : DataW H} {p0 p1 p2 p3 p4 p5 : List MemPlace} (h0 : DataW.Trod enc P w base spare held t0 v0 d0 p0) (h1 : DataW.Trod enc P w base spare held t1 v1 d1 p1) (h2 : DataW.Trod enc P w base spare held t2 v2 d2 p2) (h3 : DataW.Trod enc P w base spare held t3 v3 d3 p3) (h4 : DataW.Trod enc P w base spare held t4 v4 d4 p4) (h5 : DataW.Trod enc P w base spare held t5 v5 d5 p5) : DataW.TrodAll enc P w base spare held [t0, t1, t2, t3, t4, t5] [v0, v1, v2, v3, v4, v5] [d0, d1, d2, d3, d4, d5] (p0 ++ (p1 ++ (p2 ++ (p3 ++ (p4 ++ p5))))) :=
  ⟨p0, _, h0, ⟨p1, _, h1, trodAll_mk4 h2 h3 h4 h5, rfl⟩, rfl⟩
end Go.Proofs.YtfleaipdoiiiiaaDoor

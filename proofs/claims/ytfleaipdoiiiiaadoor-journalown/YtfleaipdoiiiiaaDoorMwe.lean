/- Texts that the proof leans on, one behind the other: JournalOwn, over what journal's functions do (layer 14). What the listed variable gives: the rounds' words lie where the walks look for them. What a slice of bytes that came in gives: the bytes that it reads as; and that it reads so still behind a call that changed no old block. .. -/
import Derived.Test.YtfleaipdoiiiiaaDoorMwd
import Derived.Test.YtfleaipdoiiiiaaDoorRows
import Derived.Test.YtfleaipdoiiiiaaDoorMwa
import Derived.ProofKit
import Derived.LaidMore
import Derived.OpenShut
import Derived.Stop.Joined
import Derived.Lib.LaidTab
import Derived.Carry
import Derived.ChangeSlices
import Derived.Deep.Slices
import Derived.Deep.Strs
import Derived.Lib.SmallJoins
/- JournalOwn, over what journal's functions do (layer 14). -/
namespace Go.Proofs.YtfleaipdoiiiiaaDoor
open Go.RowKit
set_option maxRecDepth 100000
theorem wpOp_law {P : Program} {ops : Array Oper} {Q : Exit → Act → World → Prop} {K : Act → World → Prop} {a : Act} {w : World} (i : Nat) {oi : Oper} (hi : ops[i]? = some oi) (hw : Region.wanted oi (yielded ops a.tmps) = true) (h : Oper.wp P oi a w K Q) : wpOp P ops Q i K a w := by
  unfold wpOp
  rw [hi]
  simp only [hw, if_true]
  exact Or.inl h
theorem build_b0 (f : Operand → Value) (o : Oper) (ho : o.op = .buildSlice 22 0 #[]) (w : World) : (execOp f o).run Tryd.prog w = .ok (.value (.slice (some ⟨w.heap.size, 0, none⟩) 0 0)) (w.alloc (.cells ([] : List Value).toArray 5)) := by
  unfold execOp
  rw [ho]
  kernel_rfl
theorem wpSeq_buildB0 {ops : Array Oper} {Q : Exit → Act → World → Prop} {rest : List Oper} {o : Oper} {a : Act} {w : World} (ho : o.op = .buildSlice 22 0 #[]) (hw : Region.wanted o (yielded ops a.tmps) = true)
    (h : ∀ g w', NewR [] 5 w g w' → wpList Tryd.prog ops Q rest (a.put o.dst (.slice (some ⟨g, 0, none⟩) 0 0)) w') : wpList Tryd.prog ops Q (o :: rest) a w :=
  wpSeq_val _ _ hw (build_b0 _ _ ho _) (h _ _ (NewR.of _ _ w))
/-- bytes of the law's own that are being turned -/
structure TuB (y : World) (gb base : Nat) (v : Value) (n : Nat) (W : World) : Prop where
  mu : Mut (fun k => k = gb) y W
  own : ∃ l : Bs, l.length = n ∧ OwnB W base v l
/-- texts of the asker's own that are being turned -/
structure TuX (base : Nat) (v : Value) (us : List Value) (xs : List Bs) (y W : World) : Prop where
  own : OwnX W base v us
  len : us.length = xs.length
  good : ∀ j u, us[j]? = some u → ∃ l : Bs, l.length = (xs.getD j []).length ∧ OwnB W base u l
  bel : Below base y W
  ge : base ≤ y.heap.size
theorem TuX.poke {base : Nat} {v : Value} {us : List Value} {xs : List Bs} {y W W' : World} (h : TuX base v us xs y W) {u : Value} {l : Bs} (hu : OwnB W base u l) {g k : Nat} (hg : u.ownBlock = some g) {cs : List Value} {x : BitVec 8} (hb : Blk W g cs 5) (hb' : Blk W' g (cs.set k (.int .u8 (x.toNat : Int))) 5) (ho : Only g W W') : TuX base v us xs y W' :=
  ⟨h.own.same (fun k2 hk2 => ho.block k2 (fun e => by subst e; exact hu.apartJ h.own k2 hg (by rw [hk2])) (h.own.lt k2 hk2).2), h.len, fun j2 u2 hj2 => by
    obtain ⟨l2, hl2, ho2⟩ := h.good j2 u2 hj2
    obtain ⟨l3, hl3, ho3⟩ := ho2.poke hb hb' ho
    exact ⟨l3, by rw [hl3, hl2], ho3⟩, h.bel.trans (ho.below (hu.ltJ g hg).1 (Nat.le_trans h.ge h.bel.size)), h.ge⟩
theorem OwnX.cellAt {W : World} {base : Nat} {a : Option Addr} {n c : Nat} {us : List Value} (h : OwnX W base (.slice a n c) us) {j : Nat} {u : Value} (hj : us[j]? = some u) : ∃ g, a = some ⟨g, 0, none⟩ ∧ n = us.length ∧ W.cell? ⟨g, j, none⟩ = some u := by
  obtain ⟨h1, h2⟩ := id h
  have hj2 := (List.getElem?_eq_some_iff.1 hj).1
  rcases h2 with ⟨_, h0⟩ | ⟨g, cap, cur, hv, hg, hh, hc, hm, hs, ht⟩
  · omega
  · simp only [Value.slice.injEq] at hv
    obtain ⟨rfl, rfl, rfl⟩ := hv
    refine ⟨g, rfl, rfl, ?_⟩
    rw [cell_of_row W g j cur _ (0, 0) hh]
    rw [Nat.mul_one] at ht
    conv at hj => lhs; rw [← ht]
    rw [List.getElem?_take_of_lt hj2] at hj
    simpa using hj
theorem inc8 (x : BitVec 8) : IntKind.u8.wrap ((x.toNat : Int) + 1) = ((x + 1 : BitVec 8).toNat : Int) := by
  have := x.isLt
  rw [IntKind.wrap_u8, BitVec.toNat_add]
  simp
set_option maxRecDepth 100000 in
set_option maxHeartbeats 20000000 in
theorem journalOwn_law {Lg : World → Nat → (Nat → Prop) → Nat → Nat → JnT → Prop} (OPS : JnOps Lg) (x0 : Int) (v1 : Value) (os : List OpT) (hs : ∀ o ∈ os, szO o) (w : World) (hK : KOk w) (hr : ROps w v1 os) : Calls Tryd.prog 7 #[.int .i64 x0, v1] w fun e w' => e = .returned (.bool true) ∧ Below w.heap.size w w' := by
  have HR : Hid (ROps w v1 os) := hr
  have HSZ : Hid (∀ o ∈ os, szO o) := hs
  have HK0 : Hid (KOk w) := hK
  obtain ⟨ad, c, hv, _⟩ := hr
  obtain ⟨n, HN⟩ : ∃ n, Hid (n = os.length) := ⟨_, rfl⟩
  rw [← HN.out] at hv
  subst hv
  obtain ⟨N, HNN⟩ : ∃ m, Hid (m = nSec x0) := ⟨_, rfl⟩
  have HNB : Hid (8 ≤ N ∧ N ≤ 47) := by rw [HNN.out]; exact nSec_le x0
  have hz := open_zero (m := N) HNB.out.1 (Nat.le_trans HNB.out.2 (by decide))
  obtain ⟨D0, HD0⟩ : ∃ D, Hid (D = openD (zeroD N)) := ⟨_, rfl⟩
  rw [← HD0.out] at hz
  have HLG0 : Hid (Log D0 ⟨0, 1, []⟩ ∧ sizeD D0 = N) := ⟨hz.2.2.1, hz.2.2.2⟩
  have HWK : Hid (∀ W, KOk W → Calls Tryd.prog 9 #[] W fun e w' => e = .returned (.bool true) ∧ Below W.heap.size W w') := fun W h => works14_any OPS W h
  have HFR : Hid (Calls Tryd.prog 26 #[.int .i64 x0] w fun e w' => ∃ gd lg P Q, e = .returned (.tuple #[.pointer (some ⟨gd, 0, none⟩), .pointer (some ⟨lg, 0, none⟩)]) ∧ Pk Lg w' gd lg P Q D0 ⟨0, 1, []⟩ ∧ Below w.heap.size w w' ∧ (∀ k, Un P Q k → w.heap.size ≤ k)) := by rw [HD0.out, HNN.out]; exact fresh14_any OPS x0 w hK
  have HFW : Hid (∀ W, ROps W (.slice ad n c) os → Calls Tryd.prog 27 #[.slice ad n c] W fun e w' => FewR os e ∧ Below W.heap.size W w') := fun W h => few14_any _ os W h HSZ.out
  clear hs hK hz
  go_enter Tryd.func7, Tryd.ntmps7
  have tk0 : Hid True := trivial
  have tk1 : Hid True := trivial
  have tk2 : Hid True := trivial
  go_wp2_with (first
    | (clear tk0; go_at_call 26; refine (HFR.out).mono ?_; rintro e0 y1 ⟨gd, lg, P, Q, rfl, hp, hb, hu⟩
       have HPK : Hid (Pk Lg y1 gd lg P Q D0 ⟨0, 1, []⟩) := hp
       have HBW : Hid (Below w.heap.size w y1) := hb
       have HUN : Hid (∀ k, Un P Q k → w.heap.size ≤ k) := hu
       clear hp hb hu HFR)
    | (clear tk1; go_at_call 27; refine (HFW.out _ (HR.out.below HBW.out)).mono ?_; rintro e0 y2 ⟨⟨ok, rfl, hf⟩, hz⟩
       replace HPK : Hid (Pk Lg y2 gd lg P Q D0 ⟨0, 1, []⟩) := HPK.out.below OPS hz
       replace HBW : Hid (Below w.heap.size w y2) := HBW.out.trans (hz.mono HBW.out.size)
       have HFE : Hid (FewJ os ok) := hf
       clear hf hz
       cases ok)
    | (clear tk2; go_at_call 9; refine (HWK.out _ (HK0.out.below HBW.out HK0.out.lt)).mono ?_; rintro e0 y3 ⟨rfl, hz⟩
       replace HBW : Hid (Below w.heap.size w y3) := HBW.out.trans (hz.mono HBW.out.size)
       clear hz))
  · go_ret
    exact ⟨rfl, HBW.out⟩
  have HFO : Hid (n ≤ 20 ∧ ∀ o ∈ os, okO o) := by
    have h1 := HFE.out rfl
    exact ⟨by rw [HN.out]; exact h1.1, few_ok h1.2⟩
  have HI0 : Hid (DoI Lg w gd lg N 0 (.slice none 0 0) P Q D0 ⟨0, 1, []⟩ y2) := ⟨HPK.out, HLG0.out.1, HLG0.out.2, Nat.le_refl _, StaL.nil _ _, HBW.out, HUN.out⟩
  go_loopw [7, 8] (fun wv i9 wr => ∃ (wa : Option Addr) (wn wc i : Nat) (P Q : Nat → Prop) (D : DkT) (J : JnT), wv = .slice wa wn wc ∧ i9 = .int .i64 (i : Int) ∧ i ≤ n ∧ Hid (DoI Lg w gd lg N i (.slice wa wn wc) P Q D J wr)) (fun _ i9 _ => n - (intOf i9).toNat)
  case atStart => exact ⟨none, 0, 0, 0, P, Q, D0, ⟨0, 1, []⟩, rfl, rfl, Nat.zero_le _, HI0⟩
  case round =>
    clear HI0 HPK HBW HUN HLG0
    obtain ⟨wa, wn, wc, i, P, Q, D, J, rfl, rfl, hi, HI⟩ := hrel
    obtain ⟨jg, HJG⟩ : ∃ g, Hid (g = J.gen) := ⟨_, rfl⟩
    by_cases hin : i < n
    case pos =>
      have hlk : (i : Int) < (n : Int) := by omega
      have f1 : IntKind.i64.wrap ((i : Int) + 1) = (i : Int) + 1 := by rw [IntKind.wrap_i64]; have := HFO.out.1; omega
      have HIN : Hid (i < n) := hin
      have hio : i < os.length := by rw [← HN.out]; exact hin
      have hbw := HI.out.bel
      obtain ⟨b, off, vB, vL, rfl, c0, c1, c2, rB, rL⟩ := HR.out.at hio
      obtain ⟨o, HO⟩ : ∃ o, Hid (o = os.getD i ⟨false, [], []⟩) := ⟨_, rfl⟩
      rw [← HO.out] at c0 rB rL
      have hoo : okO o := HFO.out.2 o (by rw [HO.out, List.getD_eq_getElem?_getD, List.getElem?_eq_getElem hio]; exact List.getElem_mem hio)
      have hjn : jg + 1 < 18446744073709551616 := by rw [HJG.out]; have h1 := HI.out.gen; have h2 := HFO.out.1; omega
      have hlog := HI.out.log
      have h8 : 8 ≤ sizeD D ∧ sizeD D ≤ 100 := by rw [HI.out.size]; have := HNB.out; exact ⟨by omega, by omega⟩
      have hok : okJ D J := hlog.okJ h8.1 h8.2 (by rw [← HJG.out]; have h1 := HI.out.gen; have h2 := HFO.out.1; have h3 := HJG.out; omega)
      have hdr := do_ref hlog (by rw [← HJG.out]; exact hjn) o
      obtain ⟨ag, HAG⟩ : ∃ a, Hid (a = o.ag) := ⟨_, rfl⟩
      obtain ⟨aB, nB, cB, hvB⟩ := rB.form
      obtain ⟨aL, nL, cL, hvL⟩ : ∃ a n c, vL = .slice a n c := by obtain ⟨a, c, hv, _⟩ := rL; exact ⟨_, _, _, hv⟩
      subst hvB hvL
      rw [← HAG.out] at c0
      have hbl : b < w.heap.size := block_lt_of_cell c0
      have hnu : ¬ Un P Q b := fun h => absurd (HI.out.own b h) (by omega)
      have hrw : w.rangeAt b (off + i * 3) [.bool ag, .slice aB nB cB, .slice aL nL cL] := fun j u hj => by
        match j with
        | 0 => simp only [List.getElem?_cons_zero, Option.some.injEq] at hj; subst hj; exact c0
        | 1 => simp only [List.getElem?_cons_succ, List.getElem?_cons_zero, Option.some.injEq] at hj; subst hj; exact c1
        | 2 => simp only [List.getElem?_cons_succ, List.getElem?_cons_zero, Option.some.injEq] at hj; subst hj; exact c2
        | j + 3 => simp at hj
      have HRW : Hid (∀ W, Below w.heap.size w W → W.rangeAt b (off + i * 3) [.bool ag, .slice aB nB cB, .slice aL nL cL]) := fun W hb j u hj => by rw [hb.cell (p := ⟨b, off + i * 3 + j, none⟩) hbl]; exact hrw j u hj
      obtain ⟨D2, HD2⟩ : ∃ x, Hid (x = doD J D o) := ⟨_, rfl⟩
      obtain ⟨J2, HJ2⟩ : ∃ x, Hid (x = doJ J D o) := ⟨_, rfl⟩
      obtain ⟨X, HXX⟩ : ∃ x, Hid (x = doX J D o) := ⟨_, rfl⟩
      rw [← HD2.out, ← HJ2.out, ← HXX.out] at hdr
      obtain ⟨d1, d2, d3, d4, d5, d6⟩ := hdr
      rw [HI.out.size] at d1 d3 d4
      have HRB : Hid (∀ W, Below w.heap.size w W → Reads W (.slice aB nB cB) o.b) := fun W hb => rB.below hb
      have HSLw : Hid (∀ (R : Nat → Prop) (W : World), Below w.heap.size w W → (∀ k, R k → w.heap.size ≤ k) → StaL R W (.slice aL nL cL) o.l) := fun R W hb hR => by
        obtain ⟨a, cc, hv, h2, h3, h4⟩ := rL
        refine ⟨a, cc, hv, h2, h3, fun hp => ?_⟩
        obtain ⟨b9, o9, h5, h6⟩ := h4 hp
        obtain ⟨_, h0, _⟩ := h6 0 hp
        have hb9 : b9 < w.heap.size := block_lt_of_cell h0
        refine ⟨b9, o9, h5, fun h => absurd (hR b9 h) (by omega), fun j hj => ?_⟩
        obtain ⟨vj, h7, h8⟩ := h6 j hj
        exact ⟨vj, by rw [hb.cell (p := ⟨b9, o9 + j, none⟩) hb9]; exact h7, fun W' m => h8.below (hb.trans (m.below hb.size hR))⟩
      have HSD : Hid (sizeD D = N) := HI.out.size
      have HDO : Hid (∀ (W : World) (gb : Nat) (a9 : Option Addr) (n9 c9 : Nat), KOk W → Pk Lg W gd lg P Q D J → gb < W.heap.size → ¬ Un P Q gb → StaL (UnG P Q gb) W (.slice wa wn wc) J.l → Sta (Un P Q) W (fun X => Reads X (.slice a9 n9 c9) o.b) → StaL (UnG P Q gb) W (.slice aL nL cL) o.l → Calls Tryd.prog 28 #[.pointer (some ⟨lg, 0, none⟩), .slice wa wn wc, .agg [.bool ag, .slice a9 n9 c9, .slice aL nL cL].toArray, .int .i64 (N : Int)] W fun e w' => ∃ am nm cm P' Q', e = .returned (.tuple #[.slice am nm cm, .int .i64 X, .int .i64 X]) ∧ (¬ (ag = false ∧ X = 0) → StaL (UnG P' Q' gb) w' (.slice am nm cm) J2.l) ∧ (ag = false ∧ X = 0 → StaP (UnG P' Q' gb) w' (.slice am nm cm) J.l) ∧ Pk Lg w' gd lg P' Q' D2 J2 ∧ Mut (Un P Q) W w' ∧ Grew W (Un P Q) (Un P' Q')) := fun W gb a9 n9 c9 hk hp hg hgu h1 h2 h3 => by
        have h := do14_own OPS gb (.slice wa wn wc) (.slice a9 n9 c9) (.slice aL nL cL) o W hg hgu hk hp hok hoo (hlog.len h8.2).1 h1 h2 h3
        rw [HI.out.size, ← HAG.out, ← HXX.out, ← d1, ← HD2.out, ← HJ2.out, ← d3] at h
        refine h.mono (fun e w' hh => ?_)
        obtain ⟨mv, P', Q', e1, e2, e3, e4, e5, e6, e7⟩ := hh
        obtain ⟨am, nm, cm, hmv⟩ : ∃ a n c, mv = .slice a n c := by
          by_cases hq : ag = false ∧ X = 0
          · obtain ⟨_, _, _, hv, _⟩ := e3 hq; exact ⟨_, _, _, hv⟩
          · obtain ⟨a, c, hv, _⟩ := e2 hq; exact ⟨_, _, _, hv⟩
        subst hmv
        exact ⟨am, nm, cm, P', Q', e1, e2, e3, e5 d5, e6, e7⟩
      have HSE : Hid (∀ W, DkIs W gd P D → Calls Tryd.prog 29 #[.pointer (some ⟨gd, 0, none⟩)] W fun r w' => r = .returned (.int .i64 (N : Int)) ∧ w' = W) := fun W hW => by
        have h := dkSize_pure hW
        rw [HSD.out] at h
        exact h
      have HLG2 : Hid (Log D2 J2 ∧ sizeD D2 = N) := ⟨d2, d4⟩
      have HGEN : Hid (J2.gen = if X = 0 ∧ ag = true then J.gen + 1 else J.gen) := by rw [HAG.out]; exact d6
      have HIX : Hid (J2.gen ≤ i + 1 + 1) := by show _ ≤ _; rw [HGEN.out]; have := HI.out.gen; split <;> omega
      have HJ2L : Hid (J2.l = doL J.l o N) := d3
      have HXF : Hid (X = doF J.l o N) := d1
      have HBWr : Hid (Below w.heap.size w wr) := hbw
      have HLEN : Hid (J.l.length ≤ 1000) := (hlog.len h8.2).1
      have HOB : Hid (o.b.length ≤ 100000) := hoo.b
      have HC1 : Hid (w.cell? ⟨b, off + i * 3 + 1, none⟩ = some (.slice aB nB cB) ∧ b < w.heap.size) := ⟨c1, hbl⟩
      obtain ⟨base, HBASE0⟩ : ∃ z, Hid (z = wr.heap.size) := ⟨_, rfl⟩
      clear d1 d2 d3 d4 d5 d6 hrw hnu hbl rB rL c0 c1 c2 hok hlog h8 hoo hjn hbw
      have tk0 : Hid True := trivial
      have tk1 : Hid True := trivial
      have tk2 : Hid True := trivial
      go_wp2_with (first
        | (clear tk0; with_reducible refine wpSeq_buildB0 ?_ ?_ ?_
           · rfl
           · rfl
           intro g0 y1 nn
           have HZ1 : Hid (OwnB y1 base (.slice (some ⟨g0, 0, none⟩) 0 0) []) := OwnB.zero9 _ _ _ (by rw [HBASE0.out]; exact nn.ge) nn.blk
           have HY1 : Hid (Below wr.heap.size wr y1 ∧ wr.heap.size < y1.heap.size) := ⟨nn.below, Nat.lt_of_le_of_lt nn.ge nn.blk.lt⟩
           have HW1 : Hid (Below w.heap.size w y1) := HBWr.out.trans (nn.below.mono HBWr.out.size)
           have q1 : y1.cell? ⟨b, off + i * 3 + 1, none⟩ = some (.slice aB nB cB) := by rw [HW1.out.cell (p := ⟨b, off + i * 3 + 1, none⟩) HC1.out.2]; exact HC1.out.1
           clear nn)
        | (clear tk1; with_reducible refine wpSeq_idxOp (.tmp 40) (.tmp 41) b off n c i HIN.out ?_ ?_ ?_ ?_ ?_
           · rfl
           · rfl
           · rfl
           · rfl)
        | (clear tk2; at_builtin; refine wpList_appendB rfl (.tmp 39) (.tmp 44) rfl base _ [] rfl HZ1.out _ o.b rfl (HRB.out _ HW1.out) (by have := HOB.out; simp; omega) (by rw [HBASE0.out]; exact HY1.out.1.size) ?_
           intro v9 y2 hown9 hb9 _
           rw [List.nil_append] at hown9
           have HO9 : Hid (OwnB y2 base v9 o.b) := hown9
           have HY2 : Hid (Below base wr y2 ∧ wr.heap.size < y2.heap.size) := ⟨by rw [HBASE0.out] at hb9 ⊢; exact HY1.out.1.trans hb9, Nat.lt_of_lt_of_le HY1.out.2 hb9.size⟩
           obtain ⟨n9, HN9⟩ : ∃ n, Hid (n = o.b.length) := ⟨_, rfl⟩
           obtain ⟨a9, c9, hv9⟩ : ∃ a c, v9 = .slice a n9 c := by obtain ⟨a, c, hv, _⟩ := hown9.reads; exact ⟨a, c, by rw [HN9.out]; exact hv⟩
           subst hv9
           clear hown9 hb9 q1))
      obtain ⟨gb, HGB⟩ : ∃ gb, Hid (wr.heap.size ≤ gb ∧ gb < y2.heap.size ∧ ∀ g, (Value.slice a9 n9 c9).ownBlock = some g → g = gb) := by
        cases h9 : (Value.slice a9 n9 c9).ownBlock with
        | none => exact ⟨wr.heap.size, Nat.le_refl _, HY2.out.2, fun g hg => by cases hg⟩
        | some g9 => exact ⟨g9, by rw [← HBASE0.out]; exact (HO9.out.ltJ g9 h9).1, (HO9.out.ltJ g9 h9).2, fun g hg => by cases hg; rfl⟩
      have HWw2 : Hid (Below w.heap.size w y2) := HBWr.out.trans (HY2.out.1.mono (by rw [HBASE0.out]; exact HBWr.out.size))
      go_wp2_with fail
      refine wp_region_held_drew (S := fun wx => Below w.heap.size w wx) (by kernel_rfl) HWw2.out.drew ?_
      intro hS
      have HO3 : Hid (OwnB (World.drew y2) base (.slice a9 n9 c9) o.b) := HO9.out
      have HY3 : Hid (Below y2.heap.size y2 (World.drew y2)) := (Below.refl _ _).drew
      change wpAnyH _ _ _ _ _ _ _ _ (World.drew y2)
      generalize World.drew y2 = y3 at *
      refine wpAnyH_take (i := 0) (v := .slice (some ⟨b, off, none⟩) n c) rfl (by kernel_rfl) (by kernel_rfl) (by kernel_rfl) (fun _ _ _ h => h) (Or.inl ⟨by rfl, fun wx hx => by simp [go_sem]⟩) hS ?_
      simp only [Act.put, List.getElem_toArray, List.getElem_cons_zero, List.setIfInBounds_toArray, List.set_cons_zero, List.set_cons_succ]
      refine wpAnyH_take (i := 1) (v := .int .i64 (i : Int)) rfl (by kernel_rfl) (by kernel_rfl) (by kernel_rfl) (fun _ _ _ h => h) (Or.inl ⟨by rfl, fun wx hx => by simp [go_sem]⟩) hS ?_
      simp only [Act.put, List.getElem_toArray, List.getElem_cons_succ, List.getElem_cons_zero, List.setIfInBounds_toArray, List.set_cons_zero, List.set_cons_succ]
      refine wpAnyH_take (i := 2) (v := .pointer (some ⟨b, off + i * 3, none⟩)) rfl (by kernel_rfl) (by kernel_rfl) (by kernel_rfl) (fun _ _ _ h => h) (Or.inl ⟨by rfl, fun wx hx => by exact idxOp b off n c i HIN.out _ _ _ _ rfl rfl rfl _⟩) hS ?_
      simp only [Act.put, List.getElem_toArray, List.getElem_cons_succ, List.getElem_cons_zero, List.setIfInBounds_toArray, List.set_cons_zero, List.set_cons_succ]
      refine wpAnyH_take (i := 3) (v := .pointer (some ⟨b, off + i * 3, none⟩)) rfl (by kernel_rfl) (by kernel_rfl) (by kernel_rfl) (fun _ _ _ h => h) (Or.inl ⟨by rfl, fun wx hx => by simp [go_sem]⟩) hS ?_
      simp only [Act.put, List.getElem_toArray, List.getElem_cons_succ, List.getElem_cons_zero, List.setIfInBounds_toArray, List.set_cons_zero, List.set_cons_succ]
      refine wpAnyH_take (i := 4) (v := .bool ag) rfl (by kernel_rfl) (by kernel_rfl) (by kernel_rfl) (fun _ _ _ h => h) (Or.inl ⟨by rfl, fun wx hx => by (have hc := range_head (HRW.out wx hx); simp [go_sem, hc])⟩) hS ?_
      simp only [Act.put, List.getElem_toArray, List.getElem_cons_succ, List.getElem_cons_zero, List.setIfInBounds_toArray, List.set_cons_zero, List.set_cons_succ]
      refine wpAnyH_take (i := 5) (v := .slice a9 n9 c9) rfl (by kernel_rfl) (by kernel_rfl) (by kernel_rfl) (fun _ _ _ h => h) (Or.inl ⟨by rfl, fun wx hx => by simp [go_sem]⟩) hS ?_
      simp only [Act.put, List.getElem_toArray, List.getElem_cons_succ, List.getElem_cons_zero, List.setIfInBounds_toArray, List.set_cons_zero, List.set_cons_succ]
      refine wpAnyH_take (i := 6) (v := .slice (some ⟨b, off, none⟩) n c) rfl (by kernel_rfl) (by kernel_rfl) (by kernel_rfl) (fun _ _ _ h => h) (Or.inl ⟨by rfl, fun wx hx => by simp [go_sem]⟩) hS ?_
      simp only [Act.put, List.getElem_toArray, List.getElem_cons_succ, List.getElem_cons_zero, List.setIfInBounds_toArray, List.set_cons_zero, List.set_cons_succ]
      refine wpAnyH_take (i := 7) (v := .int .i64 (i : Int)) rfl (by kernel_rfl) (by kernel_rfl) (by kernel_rfl) (fun _ _ _ h => h) (Or.inl ⟨by rfl, fun wx hx => by simp [go_sem]⟩) hS ?_
      simp only [Act.put, List.getElem_toArray, List.getElem_cons_succ, List.getElem_cons_zero, List.setIfInBounds_toArray, List.set_cons_zero, List.set_cons_succ]
      refine wpAnyH_take (i := 8) (v := .pointer (some ⟨b, off + i * 3, none⟩)) rfl (by kernel_rfl) (by kernel_rfl) (by kernel_rfl) (fun _ _ _ h => h) (Or.inl ⟨by rfl, fun wx hx => by exact idxOp b off n c i HIN.out _ _ _ _ rfl rfl rfl _⟩) hS ?_
      simp only [Act.put, List.getElem_toArray, List.getElem_cons_succ, List.getElem_cons_zero, List.setIfInBounds_toArray, List.set_cons_zero, List.set_cons_succ]
      refine wpAnyH_take (i := 9) (v := .pointer (some ⟨b, off + i * 3 + 2, none⟩)) rfl (by kernel_rfl) (by kernel_rfl) (by kernel_rfl) (fun _ _ _ h => h) (Or.inl ⟨by rfl, fun wx hx => by simp [go_sem]⟩) hS ?_
      simp only [Act.put, List.getElem_toArray, List.getElem_cons_succ, List.getElem_cons_zero, List.setIfInBounds_toArray, List.set_cons_zero, List.set_cons_succ]
      refine wpAnyH_take (i := 10) (v := .slice aL nL cL) rfl (by kernel_rfl) (by kernel_rfl) (by kernel_rfl) (fun _ _ _ h => h) (Or.inl ⟨by rfl, fun wx hx => by (have hc := HRW.out wx hx 2 (.slice aL nL cL) rfl; simp [go_sem, hc])⟩) hS ?_
      simp only [Act.put, List.getElem_toArray, List.getElem_cons_succ, List.getElem_cons_zero, List.setIfInBounds_toArray, List.set_cons_zero, List.set_cons_succ]
      refine wpAnyH_take (i := 11) (v := .agg [.bool ag, .slice a9 n9 c9, .slice aL nL cL].toArray) rfl (by kernel_rfl) (by kernel_rfl) (by kernel_rfl) (fun _ _ _ h => h) (Or.inl ⟨by rfl, fun wx hx => by exact build_op _ _ 50 [(0, .tmp 50), (1, .tmp 51), (2, .tmp 56)] rfl _ (built_op3 _ _ _ _ _ _ _ _ rfl) _⟩) hS ?_
      simp only [Act.put, List.getElem_toArray, List.getElem_cons_succ, List.getElem_cons_zero, List.setIfInBounds_toArray, List.set_cons_zero, List.set_cons_succ]
      refine wpAnyH_step 12 _ _ (by kernel_rfl) rfl (by rfl) (alloc_op14 _ _ rfl _) (hS.trans ((below_alloc _ _).mono hS.size)) ?_
      obtain ⟨g10, y4, e10, e10w, n10⟩ : ∃ g y, g = y3.heap.size ∧ y = y3.alloc (.cells [.bool false, .slice none 0 0, .slice none 0 0].toArray 50) ∧ NewR [.bool false, .slice none 0 0, .slice none 0 0] 50 y3 g y := ⟨_, _, rfl, rfl, NewR.of _ _ _⟩
      rw [← e10w, ← e10]
      clear e10 e10w
      simp only [Act.put, List.getElem_toArray, List.getElem_cons_succ, List.getElem_cons_zero, List.setIfInBounds_toArray, List.set_cons_zero, List.set_cons_succ]
      refine wpAnyH_storeRow 13 50 (.tmp 10) (.tmp 57) g10 _ [.bool ag, .slice a9 n9 c9, .slice aL nL cL] n10.blk rfl (info_op14 _ _ _) (one_op14 _ _ _ _ _ _ _) (by kernel_rfl) rfl (by rfl) rfl rfl rfl ?_
      intro y5 hset
      have hb5 : Below y3.heap.size y3 y5 := n10.below.trans (hset.only.below n10.ge n10.below.size)
      have HY5 : Hid (Below wr.heap.size wr y5) := by
        have h1 : Below wr.heap.size wr y2 := by have := HY2.out.1; rw [HBASE0.out] at this; exact this
        exact (h1.trans (HY3.out.mono h1.size)).trans (hb5.mono (Nat.le_trans h1.size HY3.out.size))
      have HW5 : Hid (Below w.heap.size w y5) := HBWr.out.trans (HY5.out.mono HBWr.out.size)
      refine ⟨HW5.out, ?_⟩
      have HG10 : Hid (Blk y5 g10 [.bool ag, .slice a9 n9 c9, .slice aL nL cL] 50) := hset.blk
      have HO5 : Hid (OwnB y5 base (.slice a9 n9 c9) o.b) := HO3.out.sameJ (fun k hk => hb5.block k (HO3.out.ltJ k hk).2)
      have HGG : Hid (gb < g10 ∧ gb < y5.heap.size) := by
        have h1 := HGB.out.2.1
        have h2 := HY3.out.size
        have h3 := n10.ge
        exact ⟨by omega, by have := hset.blk.lt; omega⟩
      clear hset n10 hb5 hS HO3 HY3
      simp only [Act.put, List.getElem_toArray, List.getElem_cons_succ, List.getElem_cons_zero]
      refine wpAnyH_done (by kernel_rfl) ?_ _
      go_wp2_with fail
      refine wp_region_held_drew (S := fun wx => wx.rangeAt g10 0 [.bool ag, .slice a9 n9 c9, .slice aL nL cL]) (by kernel_rfl) (Blk.range HG10.out.drew) ?_
      intro hS
      have HBY : Hid (Below y5.heap.size y5 (World.drew y5)) := (Below.refl _ _).drew
      change wpAnyH _ _ _ _ _ _ _ _ (World.drew y5)
      generalize World.drew y5 = y5' at *
      have HP5 : Hid (Pk Lg y5' gd lg P Q D J) := HI.out.pk.below OPS (HY5.out.trans (HBY.out.mono HY5.out.size))
      have HU5 : Hid (∀ k, Un P Q k → w.heap.size ≤ k ∧ k < wr.heap.size) := fun k hk => ⟨HI.out.own k hk, HI.out.pk.lt OPS k hk⟩
      have HGU : Hid (¬ Un P Q gb) := fun h => by have h1 := (HU5.out gb h).2; have h2 := HGB.out.1; omega
      have HWT5 : Hid (StaL (UnG P Q gb) y5' (.slice wa wn wc) J.l) := HI.out.want.go (mut_below (HY5.out.trans (HBY.out.mono HY5.out.size)) _) (fun k hk h => h.elim id (fun e => by have h2 := HGB.out.1; omega))
      have HW5' : Hid (Below w.heap.size w y5') := HW5.out.trans (HBY.out.mono HW5.out.size)
      have HO5' : Hid (OwnB y5' base (.slice a9 n9 c9) o.b) := HO5.out.sameJ (fun k hk => HBY.out.block k (HO5.out.ltJ k hk).2)
      have HUG : Hid (∀ k, UnG P Q gb k → w.heap.size ≤ k) := fun k hk => hk.elim (fun h => (HU5.out k h).1) (fun e => by rw [e]; exact Nat.le_trans HBWr.out.size HGB.out.1)
      refine wpAnyH_take (i := 0) (v := .pointer (some ⟨lg, 0, none⟩)) rfl (by kernel_rfl) (by kernel_rfl) (by kernel_rfl) (fun _ _ _ h => h) (Or.inl ⟨by rfl, fun wx hx => by simp [go_sem]⟩) hS ?_
      simp only [Act.put, List.getElem_toArray, List.getElem_cons_zero, List.setIfInBounds_toArray, List.set_cons_zero, List.set_cons_succ]
      refine wpAnyH_take (i := 1) (v := .slice wa wn wc) rfl (by kernel_rfl) (by kernel_rfl) (by kernel_rfl) (fun _ _ _ h => h) (Or.inl ⟨by rfl, fun wx hx => by simp [go_sem]⟩) hS ?_
      simp only [Act.put, List.getElem_toArray, List.getElem_cons_succ, List.getElem_cons_zero, List.setIfInBounds_toArray, List.set_cons_zero, List.set_cons_succ]
      refine wpAnyH_take (i := 2) (v := .agg [.bool ag, .slice a9 n9 c9, .slice aL nL cL].toArray) rfl (by kernel_rfl) (by kernel_rfl) (by kernel_rfl) (fun _ _ _ h => h) (Or.inl ⟨by rfl, fun wx hx => by exact load_run 50 _ rfl _ _ rfl _ _ hx Tryd.underlying50 rfl (info_op14 _ _ _)⟩) hS ?_
      simp only [Act.put, List.getElem_toArray, List.getElem_cons_succ, List.getElem_cons_zero, List.setIfInBounds_toArray, List.set_cons_zero, List.set_cons_succ]
      refine wpAnyH_take (i := 3) (v := .pointer (some ⟨gd, 0, none⟩)) rfl (by kernel_rfl) (by kernel_rfl) (by kernel_rfl) (fun _ _ _ h => h) (Or.inl ⟨by rfl, fun wx hx => by simp [go_sem]⟩) hS ?_
      simp only [Act.put, List.getElem_toArray, List.getElem_cons_succ, List.getElem_cons_zero, List.setIfInBounds_toArray, List.set_cons_zero, List.set_cons_succ]
      refine wpAnyH_enter 4 (by kernel_rfl) rfl (by rfl) (f := 29) (args := #[.pointer (some ⟨gd, 0, none⟩)]) (by simp [go_sem]) (HSE.out _ HP5.out.dk) ?_
      rintro e y6 ⟨rfl, hy6⟩
      subst hy6
      refine ⟨_, rfl, hS, ?_⟩
      simp only [Act.put, List.getElem_toArray, List.getElem_cons_succ, List.getElem_cons_zero, List.setIfInBounds_toArray, List.set_cons_zero, List.set_cons_succ]
      have hcc := HDO.out y6 gb a9 n9 c9 (HK0.out.below HW5'.out HK0.out.lt) HP5.out (Nat.lt_of_lt_of_le HGG.out.2 HBY.out.size) HGU.out HWT5.out (HO5'.out.st (fun k hk => by rw [HBASE0.out]; exact (HU5.out k hk).2)) (HSLw.out _ _ HW5'.out HUG.out)
      generalize hA : #[Value.pointer (some ⟨lg, 0, none⟩), .slice wa wn wc, .agg [.bool ag, .slice a9 n9 c9, .slice aL nL cL].toArray, .int .i64 (N : Int)] = AA at hcc
      refine wpAnyH_enter 5 (by kernel_rfl) rfl (by rfl) (f := 28) (args := AA) ?_ hcc ?_
      · subst hA
        simp [go_sem]
      clear hcc hA
      rintro e z6 ⟨am, nm, cm, P2, Q2, rfl, hmv, hmp, hpk, hmu, hgw⟩
      have HG6 : Hid (Blk z6 g10 [.bool ag, .slice a9 n9 c9, .slice aL nL cL] 50) := hmu.blk (HG10.out.below HBY.out HG10.out.lt) (fun h => by have h1 := (HU5.out g10 h).2; have h2 := HGG.out.1; have h3 := HGB.out.1; omega)
      have hS6 : z6.rangeAt g10 0 [.bool ag, .slice a9 n9 c9, .slice aL nL cL] := Blk.range HG6.out
      refine ⟨_, rfl, hS6, ?_⟩
      have HMV : Hid (¬ (ag = false ∧ X = 0) → StaL (UnG P2 Q2 gb) z6 (.slice am nm cm) J2.l) := hmv
      have HMP : Hid (ag = false ∧ X = 0 → StaP (UnG P2 Q2 gb) z6 (.slice am nm cm) J.l) := hmp
      have HPK : Hid (Pk Lg z6 gd lg P2 Q2 D2 J2) := hpk
      have HBW : Hid (Below w.heap.size w z6) := HW5'.out.trans (hmu.below HW5'.out.size (fun k hk => (HU5.out k hk).1))
      have HUN : Hid (∀ k, Un P2 Q2 k → w.heap.size ≤ k) := fun k hk => (hgw k hk).elim (fun h => (HU5.out k h).1) (fun h => Nat.le_trans HW5'.out.size h)
      have HGU2 : Hid (¬ Un P2 Q2 gb) := fun h => (hgw gb h).elim HGU.out (fun h => by have h1 := HGG.out.2; have h2 := HBY.out.size; omega)
      have HO6 : Hid (OwnB z6 base (.slice a9 n9 c9) o.b) := HO5'.out.sameJ (fun k hk => hmu.block k (HO5'.out.ltJ k hk).2 (fun h => by rw [HGB.out.2.2 k hk] at h; exact HGU.out h))
      have HGW : Hid (w.heap.size ≤ gb ∧ g10 ≠ gb) := ⟨Nat.le_trans HBWr.out.size HGB.out.1, by have := HGG.out.1; omega⟩
      have HGO : Hid (∀ g, (Value.slice a9 n9 c9).ownBlock = some g → g = gb) := HGB.out.2.2
      clear hmv hmp hpk hmu hgw hS HDO HSE HI HBY HP5 HWT5 HO5 HO5' HW5 HW5' HY5 HG10 HO9 HGG HUG HGU HU5
      simp only [Act.put, List.getElem_toArray, List.getElem_cons_succ, List.getElem_cons_zero, List.setIfInBounds_toArray, List.set_cons_zero, List.set_cons_succ]
      refine wpAnyH_take (i := 6) (v := .tuple #[.slice am nm cm, .int .i64 X, .int .i64 X]) rfl (by kernel_rfl) (by kernel_rfl) (by kernel_rfl) (fun _ _ _ h => h) (Or.inl ⟨by rfl, fun wx hx => by simp [go_sem]⟩) hS6 ?_
      simp only [Act.put, List.getElem_toArray, List.getElem_cons_succ, List.getElem_cons_zero, List.setIfInBounds_toArray, List.set_cons_zero, List.set_cons_succ]
      refine wpAnyH_take (i := 7) (v := .slice am nm cm) rfl (by kernel_rfl) (by kernel_rfl) (by kernel_rfl) (fun _ _ _ h => h) (Or.inl ⟨by rfl, fun wx hx => by simp [go_sem]⟩) hS6 ?_
      simp only [Act.put, List.getElem_toArray, List.getElem_cons_succ, List.getElem_cons_zero, List.setIfInBounds_toArray, List.set_cons_zero, List.set_cons_succ]
      refine wpAnyH_take (i := 8) (v := .int .i64 X) rfl (by kernel_rfl) (by kernel_rfl) (by kernel_rfl) (fun _ _ _ h => h) (Or.inl ⟨by rfl, fun wx hx => by simp [go_sem]⟩) hS6 ?_
      simp only [Act.put, List.getElem_toArray, List.getElem_cons_succ, List.getElem_cons_zero, List.setIfInBounds_toArray, List.set_cons_zero, List.set_cons_succ]
      refine wpAnyH_take (i := 9) (v := .int .i64 X) rfl (by kernel_rfl) (by kernel_rfl) (by kernel_rfl) (fun _ _ _ h => h) (Or.inl ⟨by rfl, fun wx hx => by simp [go_sem]⟩) hS6 ?_
      simp only [Act.put, List.getElem_toArray, List.getElem_cons_succ, List.getElem_cons_zero, List.setIfInBounds_toArray, List.set_cons_zero, List.set_cons_succ]
      refine wpAnyH_take (i := 10) (v := .slice am nm cm) rfl (by kernel_rfl) (by kernel_rfl) (by kernel_rfl) (fun _ _ _ h => h) (Or.inl ⟨by rfl, fun wx hx => by simp [go_sem]⟩) hS6 ?_
      simp only [Act.put, List.getElem_toArray, List.getElem_cons_succ, List.getElem_cons_zero, List.setIfInBounds_toArray, List.set_cons_zero, List.set_cons_succ]
      refine wpAnyH_take (i := 11) (v := .int .i64 X) rfl (by kernel_rfl) (by kernel_rfl) (by kernel_rfl) (fun _ _ _ h => h) (Or.inl ⟨by rfl, fun wx hx => by simp [go_sem]⟩) hS6 ?_
      simp only [Act.put, List.getElem_toArray, List.getElem_cons_succ, List.getElem_cons_zero, List.setIfInBounds_toArray, List.set_cons_zero, List.set_cons_succ]
      refine wpAnyH_take (i := 12) (v := .int .i64 X) rfl (by kernel_rfl) (by kernel_rfl) (by kernel_rfl) (fun _ _ _ h => h) (Or.inl ⟨by rfl, fun wx hx => by simp [go_sem]⟩) hS6 ?_
      simp only [Act.put, List.getElem_toArray, List.getElem_cons_succ, List.getElem_cons_zero, List.setIfInBounds_toArray, List.set_cons_zero, List.set_cons_succ]
      refine wpAnyH_done (by kernel_rfl) ?_ _
      clear hS6
      have HT6 : Hid (TuB z6 gb base (.slice a9 n9 c9) n9 z6) := ⟨Mut.refl _ _, o.b, HN9.out.symm, HO6.out⟩
      go_wp2
      go_loopw [14] (fun kv W => ∃ k : Nat, k ≤ n9 ∧ kv = .int .i64 (k : Int) ∧ Hid (TuB z6 gb base (.slice a9 n9 c9) n9 W)) (fun kv _ => n9 - (intOf kv).toNat)
      case atStart => exact ⟨0, Nat.zero_le _, rfl, HT6⟩
      case round =>
        clear HT6
        obtain ⟨k, hk, rfl, HT⟩ := hrel
        by_cases hkn : k < n9
        case pos =>
          have hl2 : (k : Int) < (n9 : Int) := by omega
          have f5 : IntKind.i64.wrap ((k : Int) + 1) = (k : Int) + 1 := by rw [IntKind.wrap_i64]; have h1 := HN9.out; have h2 := HOB.out; omega
          obtain ⟨l9, hl9, ho9⟩ := HT.out.own
          obtain ⟨g9, cs9, rfl, hge9, hlt9, hbk9, hne9, hcs9, hce9⟩ := ho9.blk (by omega)
          clear hne9
          obtain rfl : g9 = gb := HGO.out g9 rfl
          obtain ⟨xk, HXK⟩ : ∃ x : Nat, Hid (x = (l9.getD k 0).toNat) := ⟨_, rfl⟩
          have q1 : wr.cell? ⟨g9, k, none⟩ = some (.int .u8 (xk : Int)) := by rw [HXK.out]; exact hce9 k (by omega)
          obtain ⟨x1, HX1⟩ : ∃ x : BitVec 8, Hid (x = l9.getD k 0 + 1) := ⟨_, rfl⟩
          have f6 : IntKind.u8.wrap ((xk : Int) + 1) = (x1.toNat : Int) := by rw [HXK.out, HX1.out]; exact inc8 _
          have HBK : Hid (Blk wr g9 cs9 5) := hbk9
          have HKC : Hid (k < cs9.length) := by show _ < _; omega
          have HKN : Hid (k < n9) := hkn
          have HO9 : Hid (OwnB wr base (.slice (some ⟨g9, 0, none⟩) n9 c9) l9 ∧ l9.length = n9) := ⟨ho9, hl9⟩
          clear hge9 hlt9 hbk9 hcs9 hce9 ho9 hl9
          have tk0 : Hid True := trivial
          have tk1 : Hid True := trivial
          have tk2 : Hid True := trivial
          go_wp2_with (first
            | (clear tk0; with_reducible refine wpSeq_idxB14 (.tmp 74) (.tmp 75) g9 n9 c9 k HKN.out ?_ ?_ ?_ ?_ ?_
               · rfl
               · rfl
               · rfl
               · rfl)
            | (clear tk1; with_reducible refine wpSeq_idxB14 (.tmp 74) (.tmp 75) g9 n9 c9 k HKN.out ?_ ?_ ?_ ?_ ?_
               · rfl
               · rfl
               · rfl
               · rfl)
            | (clear tk2; with_reducible refine wpSeq_cellU (.tmp 79) (.tmp 78) g9 k cs9 (x1.toNat : Int) 5 HKC.out HBK.out ?_ ?_ ?_ ?_ ?_
               · rfl
               · rfl
               · rfl
               · rfl
               intro z7 hb7 ho7
               have HT7 : Hid (TuB z6 g9 base (.slice (some ⟨g9, 0, none⟩) n9 c9) n9 z7) := ⟨HT.out.mu.trans (fun _ _ h => h) (ho7.mut rfl), by obtain ⟨l7, e7, o7⟩ := HO9.out.1.poke HBK.out hb7 ho7; exact ⟨l7, by rw [e7]; exact HO9.out.2, o7⟩⟩
               clear hb7 ho7 q1))
          go_roundw
          case rel => exact ⟨k + 1, by omega, by simp, HT7⟩
          case measure => simp [intOf]; omega
        case neg =>
          have hl2 : ¬ ((k : Int) < (n9 : Int)) := by omega
          have HMT : Hid (Mut (fun k => k = gb) z6 wr) := HT.out.mu
          have HP7 : Hid (Pk Lg wr gd lg P2 Q2 D2 J2) := HPK.out.same14 OPS HMT.out.size (fun k hk => HMT.out.block k (HPK.out.lt OPS k hk) (fun e => HGU2.out (e ▸ hk)))
          have HB7 : Hid (Below w.heap.size w wr) := HBW.out.trans (HMT.out.below HBW.out.size (fun k e => by rw [e]; exact HGW.out.1))
          have q10 : wr.cell? ⟨g10, 0, none⟩ = some (.bool ag) := (HMT.out.blk HG6.out HGW.out.2).cell 0
          replace HMV : Hid (¬ (ag = false ∧ X = 0) → StaL (Un P2 Q2) wr (.slice am nm cm) J2.l) := fun hq => ((HMV.out hq).go (HMT.out.wide (fun k e => Or.inr e)) (fun _ _ h => h)).sub (fun k hk => Or.inl hk)
          replace HMP : Hid (ag = false ∧ X = 0 → StaP (UnG P2 Q2 gb) wr (.slice am nm cm) J.l) := fun hq => (HMP.out hq).go (HMT.out.wide (fun k e => Or.inr e)) (fun _ _ h => h)
          clear HT hk hkn HPK HBW HMT HG6 HO6
          by_cases hX : X = 0
          · cases ag with
            | true =>
              have HWT : Hid (StaL (Un P2 Q2) wr (.slice am nm cm) J2.l) := HMV.out (fun h => by cases h.1)
              subst hX
              go_wp2
              go_roundw
              case rel => exact ⟨am, nm, cm, i + 1, P2, Q2, D2, J2, rfl, by simp, by omega, ⟨HP7.out, HLG2.out.1, HLG2.out.2, HIX.out, HWT.out, HB7.out, HUN.out⟩⟩
              case measure => simp [intOf]; omega
            | false =>
              have hsp := HMP.out ⟨rfl, hX⟩
              have hj2 : J2.l = J.l ++ [o.b] := by
                have h1 := HXF.out
                rw [hX, doF, ← HAG.out, if_neg Bool.false_ne_true] at h1
                rw [HJ2L.out, doL, ← HAG.out, if_neg Bool.false_ne_true, apL, if_pos h1.symm]
              replace HJ2L : Hid (J2.l = J.l ++ [o.b]) := hj2
              subst hX
              obtain ⟨nl, HNL⟩ : ∃ n, Hid (n = J.l.length) := ⟨_, rfl⟩
              obtain ⟨b7, off7, c7, hv7, hc7, _⟩ := id hsp
              rw [← HNL.out] at hv7 hc7
              simp only [Value.slice.injEq] at hv7
              obtain ⟨rfl, rfl, e7⟩ := hv7
              have e8 := e7.symm
              clear e7
              subst e8
              rw [HNL.out] at hsp
              have hcut := hsp.cut
              rw [← HNL.out] at hcut
              obtain ⟨ad', cp', hv8, _, _, hat8⟩ := id hcut
              simp only [Value.slice.injEq] at hv8
              obtain ⟨us, hul, hus⟩ := rowsXs (UnG P2 Q2 gb) wr b7 J.l off7 (fun j hj => by
                obtain ⟨b8, o8, h1, _, h2⟩ := hat8 (by omega)
                rw [← hv8.1] at h1
                simp only [Option.some.injEq, Addr.mk.injEq] at h1
                obtain ⟨rfl, rfl, _⟩ := h1
                exact h2 j hj)
              have HUSL : Hid (us.length = J.l.length) := hul
              have HUS0 : Hid (∀ j u, us[j]? = some u → wr.cell? ⟨b7, off7 + j, none⟩ = some u ∧ Sta (UnG P2 Q2 gb) wr (fun W => Reads W u (J.l.getD j []))) := hus
              have HUL1 : Hid (us.length + 1 < 1000000) := by show _ < _; rw [hul]; have := HLEN.out; omega
              have HC7 : Hid (nl ≤ nl + 1 ∧ nl + 1 ≤ c7) := ⟨by omega, hc7⟩
              obtain ⟨nm, HNM⟩ : ∃ n, Hid (n = nl + 1) := ⟨_, rfl⟩
              rw [← HNM.out] at HC7 ⊢
              have f7 : IntKind.i64.wrap ((nm : Int) - 1) = (nl : Int) := by rw [IntKind.wrap_i64]; have h1 := HNM.out; have h2 := HNL.out; have h3 := HLEN.out; omega
              clear hsp hcut hat8 hus hul hv8 hc7 HMP HMV
              go_wp2_with fail
              clear q10
              refine wp_region_held_drew (S := fun wx => Below w.heap.size w wx) (by kernel_rfl) HB7.out.drew ?_
              intro hS
              have HBY : Hid (Below wr.heap.size wr (World.drew wr)) := (Below.refl _ _).drew
              change wpAnyH _ _ _ _ _ _ _ _ (World.drew wr)
              generalize World.drew wr = y8 at *
              have HUS : Hid (∀ j u, us[j]? = some u → y8.cell? ⟨b7, off7 + j, none⟩ = some u ∧ Sta (UnG P2 Q2 gb) y8 (fun W => Reads W u (J.l.getD j []))) := fun j u hj => by
                obtain ⟨h1, h2⟩ := HUS0.out j u hj
                exact ⟨by rw [HBY.out.cell (p := ⟨b7, off7 + j, none⟩) (block_lt_of_cell h1)]; exact h1, h2.below HBY.out⟩
              have HP8 : Hid (Pk Lg y8 gd lg P2 Q2 D2 J2) := HP7.out.below OPS HBY.out
              have HB8 : Hid (Below w.heap.size w y8) := hS
              obtain ⟨base7, HBASE⟩ : ∃ z, Hid (z = y8.heap.size) := ⟨_, rfl⟩
              have HPLT : Hid (∀ k, Un P2 Q2 k → k < base7) := fun k hk => by rw [HBASE.out]; exact HP8.out.lt OPS k hk
              have HB78 : Hid (w.heap.size ≤ base7) := by show _ ≤ _; rw [HBASE.out]; exact hS.size
              have HUC : Hid (∀ W, Below base7 y8 W → ∀ j u, us[j]? = some u → W.cell? ((⟨b7, off7, none⟩ : Addr).add j) = some u) := fun W hb j u hj => by
                have h1 := (HUS.out j u hj).1
                rw [Addr.add_mid, hb.cell (p := ⟨b7, off7 + j, none⟩) (by rw [HBASE.out]; exact block_lt_of_cell h1)]
                exact h1
              have HU1 : Hid (∀ u ∈ us, u.oneCell' = true) := fun u hu => by
                obtain ⟨j, hj, rfl⟩ := List.getElem_of_mem hu
                obtain ⟨a, n, c, hv⟩ := ((HUS.out j _ (List.getElem?_eq_getElem hj)).2).now.form
                rw [hv]; rfl
              have HUN7 : Hid (us.length = nl) := by show _ = _; rw [HUSL.out, HNL.out]
              clear HUS0 HP7 HB7
              refine wpAnyH_take (i := 1) (v := .slice (some ⟨b7, off7, none⟩) nm c7) rfl (by kernel_rfl) (by kernel_rfl) (by kernel_rfl) (fun _ _ _ h => h) (Or.inl ⟨by rfl, fun wx hx => by simp [go_sem]⟩) hS ?_
              simp only [Act.put, List.getElem_toArray, List.getElem_cons_succ, List.getElem_cons_zero, List.setIfInBounds_toArray, List.set_cons_zero, List.set_cons_succ]
              refine wpAnyH_take (i := 2) (v := .slice (some ⟨b7, off7, none⟩) nm c7) rfl (by kernel_rfl) (by kernel_rfl) (by kernel_rfl) (fun _ _ _ h => h) (Or.inl ⟨by rfl, fun wx hx => by simp [go_sem]⟩) hS ?_
              simp only [Act.put, List.getElem_toArray, List.getElem_cons_succ, List.getElem_cons_zero, List.setIfInBounds_toArray, List.set_cons_zero, List.set_cons_succ]
              refine wpAnyH_take (i := 3) (v := .int .i64 (nm : Int)) rfl (by kernel_rfl) (by kernel_rfl) (by kernel_rfl) (fun _ _ _ h => h) (Or.inl ⟨by rfl, fun wx hx => by simp [go_sem]⟩) hS ?_
              simp only [Act.put, List.getElem_toArray, List.getElem_cons_succ, List.getElem_cons_zero, List.setIfInBounds_toArray, List.set_cons_zero, List.set_cons_succ]
              refine wpAnyH_take (i := 4) (v := .int .i64 (nl : Int)) rfl (by kernel_rfl) (by kernel_rfl) (by kernel_rfl) (fun _ _ _ h => h) (Or.inl ⟨by rfl, fun wx hx => by simp [go_sem, f7]⟩) hS ?_
              simp only [Act.put, List.getElem_toArray, List.getElem_cons_succ, List.getElem_cons_zero, List.setIfInBounds_toArray, List.set_cons_zero, List.set_cons_succ]
              refine wpAnyH_take (i := 5) (v := .slice (some ⟨b7, off7, none⟩) nl c7) rfl (by kernel_rfl) (by kernel_rfl) (by kernel_rfl) (fun _ _ _ h => h) (Or.inl ⟨by rfl, fun wx hx => by exact cutX b7 off7 nm c7 nl HC7.out.1 HC7.out.2 _ _ _ _ rfl rfl rfl _⟩) hS ?_
              simp only [Act.put, List.getElem_toArray, List.getElem_cons_succ, List.getElem_cons_zero, List.setIfInBounds_toArray, List.set_cons_zero, List.set_cons_succ]
              refine wpAnyH_take (i := 7) (v := .slice (some ⟨b, off, none⟩) n c) rfl (by kernel_rfl) (by kernel_rfl) (by kernel_rfl) (fun _ _ _ h => h) (Or.inl ⟨by rfl, fun wx hx => by simp [go_sem]⟩) hS ?_
              simp only [Act.put, List.getElem_toArray, List.getElem_cons_succ, List.getElem_cons_zero, List.setIfInBounds_toArray, List.set_cons_zero, List.set_cons_succ]
              refine wpAnyH_take (i := 8) (v := .int .i64 (i : Int)) rfl (by kernel_rfl) (by kernel_rfl) (by kernel_rfl) (fun _ _ _ h => h) (Or.inl ⟨by rfl, fun wx hx => by simp [go_sem]⟩) hS ?_
              simp only [Act.put, List.getElem_toArray, List.getElem_cons_succ, List.getElem_cons_zero, List.setIfInBounds_toArray, List.set_cons_zero, List.set_cons_succ]
              refine wpAnyH_take (i := 9) (v := .pointer (some ⟨b, off + i * 3, none⟩)) rfl (by kernel_rfl) (by kernel_rfl) (by kernel_rfl) (fun _ _ _ h => h) (Or.inl ⟨by rfl, fun wx hx => by exact idxOp b off n c i HIN.out _ _ _ _ rfl rfl rfl _⟩) hS ?_
              simp only [Act.put, List.getElem_toArray, List.getElem_cons_succ, List.getElem_cons_zero, List.setIfInBounds_toArray, List.set_cons_zero, List.set_cons_succ]
              refine wpAnyH_take (i := 10) (v := .pointer (some ⟨b, off + i * 3 + 1, none⟩)) rfl (by kernel_rfl) (by kernel_rfl) (by kernel_rfl) (fun _ _ _ h => h) (Or.inl ⟨by rfl, fun wx hx => by simp [go_sem]⟩) hS ?_
              simp only [Act.put, List.getElem_toArray, List.getElem_cons_succ, List.getElem_cons_zero, List.setIfInBounds_toArray, List.set_cons_zero, List.set_cons_succ]
              refine wpAnyH_take (i := 11) (v := .slice aB nB cB) rfl (by kernel_rfl) (by kernel_rfl) (by kernel_rfl) (fun _ _ _ h => h) (Or.inl ⟨by rfl, fun wx hx => by (have hc := HRW.out wx hx 1 (.slice aB nB cB) rfl; simp [go_sem, hc])⟩) hS ?_
              simp only [Act.put, List.getElem_toArray, List.getElem_cons_succ, List.getElem_cons_zero, List.setIfInBounds_toArray, List.set_cons_zero, List.set_cons_succ]
              refine wpAnyH_pair 0 12 (by kernel_rfl) ?_ ?_
              · refine wpOp_vl 0 _ _ rfl (by rfl) (build_x0 _ _ rfl _) ⟨hS.trans ((below_alloc _ _).mono hS.size), ?_⟩
                obtain ⟨g0, y9, e0, e0w, n0⟩ : ∃ g y, g = y8.heap.size ∧ y = y8.alloc (.cells #[] 22) ∧ NewR [] 22 y8 g y := ⟨_, _, rfl, rfl, NewR.of _ _ _⟩
                rw [← e0w, ← e0]
                clear e0 e0w
                have HBS : Hid (Below base7 y8 y9) := by rw [HBASE.out]; exact n0.below
                have HX0 : Hid (OwnX y9 base7 (.slice (some ⟨g0, 0, none⟩) 0 0) []) := OwnX.zero _ _ _ (by rw [HBASE.out]; exact n0.ge) n0.blk
                have HG0 : Hid (g0 < y9.heap.size) := n0.blk.lt
                have hS9 : Below w.heap.size w y9 := hS.trans (n0.below.mono hS.size)
                clear n0
                simp only [Act.put, List.getElem_toArray, List.getElem_cons_zero, List.setIfInBounds_toArray, List.set_cons_zero, List.set_cons_succ]
                refine wpAnyH_pair 6 12 (by kernel_rfl) ?_ ?_
                · refine wpOp_law 6 rfl (by rfl) (wp_appendX (.tmp 88) (.tmp 93) base7 (.slice (some ⟨g0, 0, none⟩) 0 0) [] us ⟨b7, off7, none⟩ nl c7 HX0.out HUN7.out (HUC.out _ HBS.out) HU1.out (by have := HUL1.out; simp; omega) (by rw [HBASE.out]; exact HBS.out.size) rfl rfl rfl ?_)
                  intro v6 y10 hown6 hgr6 hbl6
                  rw [List.nil_append] at hown6
                  have HBT : Hid (Below base7 y8 y10) := HBS.out.trans hbl6
                  have hS10 : Below w.heap.size w y10 := HB8.out.trans (HBT.out.mono HB78.out)
                  refine ⟨hS10, ?_⟩
                  obtain ⟨a6, c6, hv6⟩ := hown6.form
                  rw [HUN7.out] at hv6
                  subst hv6
                  simp only [Act.put, List.getElem_toArray, List.getElem_cons_succ, List.getElem_cons_zero, List.setIfInBounds_toArray, List.set_cons_zero, List.set_cons_succ]
                  refine wpAnyH_step 12 _ _ (by kernel_rfl) rfl (by rfl) (build_x1 _ _ (.tmp 99) aB nB cB rfl rfl _) (hS10.trans ((below_alloc _ _).mono hS10.size)) ?_
                  obtain ⟨g12, y11, e12, e12w, n12⟩ : ∃ g y, g = y10.heap.size ∧ y = y10.alloc (.cells #[Value.slice aB nB cB] 22) ∧ NewR [.slice aB nB cB] 22 y10 g y := ⟨_, _, rfl, rfl, NewR.of _ _ _⟩
                  rw [← e12w, ← e12]
                  clear e12 e12w
                  replace HBS : Hid (Below base7 y8 y11) := HBT.out.trans (n12.below.mono (by rw [HBASE.out]; exact HBT.out.size))
                  obtain ⟨v6, HV6⟩ : ∃ v, Hid (v = Value.slice a6 nl c6) := ⟨_, rfl⟩
                  rw [← HV6.out] at hown6 ⊢
                  have HO6 : Hid (OwnX y11 base7 v6 us) := hown6.same (fun k hk => n12.below.block k (hown6.lt k hk).2)
                  have HC12 : Hid (y11.cell? ⟨g12, 0, none⟩ = some (.slice aB nB cB)) := n12.blk.cell 0
                  clear hown6 hgr6 hbl6 n12 hS10 HBT
                  simp only [Act.put, List.getElem_toArray, List.getElem_cons_succ, List.getElem_cons_zero, List.setIfInBounds_toArray, List.set_cons_zero, List.set_cons_succ]
                  refine wpAnyH_law 13 (by kernel_rfl) rfl (by rfl) (wp_appendX (.tmp 94) (.tmp 100) base7 v6 us [.slice aB nB cB] ⟨g12, 0, none⟩ 1 1 HO6.out rfl (fun j u hj => by match j, hj with | 0, hj => simp at hj; subst hj; simpa [Addr.add] using HC12.out) (fun u hu => by simp at hu; subst hu; rfl) HUL1.out (by rw [HBASE.out]; exact HBS.out.size) rfl rfl rfl ?_)
                  intro v13 y13 hown13 hgr13 hbl13
                  have HB13 : Hid (Below base7 y8 y13) := HBS.out.trans (hbl13)
                  have HW13 : Hid (Below w.heap.size w y13) := HB8.out.trans (HB13.out.mono HB78.out)
                  refine ⟨HW13.out, ?_⟩
                  have HWT : Hid (StaL (Un P2 Q2) y13 v13 J2.l) := by
                    rw [HJ2L.out]
                    refine hown13.staL HPLT.out (by rw [List.length_append, List.length_append, HUSL.out]; rfl) (fun j u hj => ?_)
                    by_cases hjl : j < us.length
                    · rw [List.getElem?_append_left hjl] at hj
                      rw [List.getD_eq_getElem?_getD, List.getElem?_append_left (by rw [← HUSL.out]; exact hjl), ← List.getD_eq_getElem?_getD]
                      exact (((HUS.out j u hj).2).below (by rw [← HBASE.out]; exact HB13.out)).sub (fun k hk => Or.inl hk)
                    · rw [List.getElem?_append_right (by omega)] at hj
                      have hj0 : j = us.length := by have := (List.getElem?_eq_some_iff.1 hj).1; simp at this; omega
                      subst hj0
                      simp at hj
                      subst hj
                      rw [List.getD_eq_getElem?_getD, HUSL.out, List.getElem?_append_right (Nat.le_refl _), Nat.sub_self]
                      exact fun W' m => HRB.out W' (HW13.out.trans (m.below HW13.out.size HUN.out))
                  obtain ⟨a13, c13, hv13⟩ := hown13.form
                  obtain ⟨n13, HN13⟩ : ∃ n, Hid (n = (us ++ [Value.slice aB nB cB]).length) := ⟨_, rfl⟩
                  rw [← HN13.out] at hv13
                  subst hv13
                  have HP13 : Hid (Pk Lg y13 gd lg P2 Q2 D2 J2) := HP8.out.below OPS (by rw [← HBASE.out]; exact HB13.out)
                  clear hown13 hgr13 hbl13
                  simp only [Act.put, List.getElem_toArray, List.getElem_cons_succ, List.getElem_cons_zero, List.setIfInBounds_toArray, List.set_cons_zero, List.set_cons_succ]
                  refine wpAnyH_take (i := 14) (v := .slice a13 n13 c13) rfl (by kernel_rfl) (by kernel_rfl) (by kernel_rfl) (fun _ _ _ h => h) (Or.inl ⟨by rfl, fun wx hx => by simp [go_sem]⟩) HW13.out ?_
                  simp only [Act.put, List.getElem_toArray, List.getElem_cons_succ, List.getElem_cons_zero, List.setIfInBounds_toArray, List.set_cons_zero, List.set_cons_succ]
                  refine wpAnyH_done (by kernel_rfl) ?_ _
                  clear HO6 HC12 HBS
                  go_wp2
                  go_roundw
                  case rel => exact ⟨a13, n13, c13, i + 1, P2, Q2, D2, J2, rfl, by simp, by omega, ⟨HP13.out, HLG2.out.1, HLG2.out.2, HIX.out, HWT.out, HW13.out, HUN.out⟩⟩
                  case measure => simp [intOf]; omega
                · refine wpOp_vl 12 _ _ rfl (by rfl) (build_x1 _ _ (.tmp 99) aB nB cB rfl rfl _) ⟨hS9.trans ((below_alloc _ _).mono hS9.size), ?_⟩
                  obtain ⟨g12, y10, e12, e12w, n12⟩ : ∃ g y, g = y9.heap.size ∧ y = y9.alloc (.cells #[Value.slice aB nB cB] 22) ∧ NewR [.slice aB nB cB] 22 y9 g y := ⟨_, _, rfl, rfl, NewR.of _ _ _⟩
                  rw [← e12w, ← e12]
                  clear e12 e12w
                  have HNE : Hid (g12 ≠ g0 ∧ g12 < y10.heap.size) := ⟨by have h1 := n12.ge; have h2 := HG0.out; omega, n12.blk.lt⟩
                  have HB12 : Hid (Blk y10 g12 [.slice aB nB cB] 22) := n12.blk
                  replace HX0 : Hid (OwnX y10 base7 (.slice (some ⟨g0, 0, none⟩) 0 0) []) := HX0.out.same (fun k hk => n12.below.block k (HX0.out.lt k hk).2)
                  replace HBS : Hid (Below base7 y8 y10) := HBS.out.trans (n12.below.mono (by rw [HBASE.out]; exact HBS.out.size))
                  clear n12
                  simp only [Act.put, List.getElem_toArray, List.getElem_cons_succ, List.getElem_cons_zero, List.setIfInBounds_toArray, List.set_cons_zero, List.set_cons_succ]
                  refine wpAnyH_law 6 (by kernel_rfl) rfl (by rfl) (wp_appendX (.tmp 88) (.tmp 93) base7 (.slice (some ⟨g0, 0, none⟩) 0 0) [] us ⟨b7, off7, none⟩ nl c7 HX0.out HUN7.out (HUC.out _ HBS.out) HU1.out (by have := HUL1.out; simp; omega) (by rw [HBASE.out]; exact HBS.out.size) rfl rfl rfl ?_)
                  intro v6 y11 hown6 hgr6 hbl6
                  rw [List.nil_append] at hown6
                  have HBT : Hid (Below base7 y8 y11) := HBS.out.trans hbl6
                  refine ⟨HB8.out.trans (HBT.out.mono HB78.out), ?_⟩
                  replace HBS : Hid (Below base7 y8 y11) := HBT.out
                  obtain ⟨a6, c6, hv6⟩ := hown6.form
                  rw [HUN7.out] at hv6
                  obtain ⟨v6', HV6⟩ : ∃ v, Hid (v = v6) := ⟨_, rfl⟩
                  have HO6 : Hid (OwnX y11 base7 v6 us) := hown6
                  have HC12 : Hid (y11.cell? ⟨g12, 0, none⟩ = some (.slice aB nB cB)) := (blk_same HB12.out (hgr6.block g12 HNE.out.2 (by simp [Value.ownBlock]; exact HNE.out.1))).cell 0
                  clear hown6 hgr6 hbl6 HBT HB12
                  simp only [Act.put, List.getElem_toArray, List.getElem_cons_succ, List.getElem_cons_zero, List.setIfInBounds_toArray, List.set_cons_zero, List.set_cons_succ]
                  refine wpAnyH_law 13 (by kernel_rfl) rfl (by rfl) (wp_appendX (.tmp 94) (.tmp 100) base7 v6 us [.slice aB nB cB] ⟨g12, 0, none⟩ 1 1 HO6.out rfl (fun j u hj => by match j, hj with | 0, hj => simp at hj; subst hj; simpa [Addr.add] using HC12.out) (fun u hu => by simp at hu; subst hu; rfl) HUL1.out (by rw [HBASE.out]; exact HBS.out.size) rfl rfl rfl ?_)
                  intro v13 y13 hown13 hgr13 hbl13
                  have HB13 : Hid (Below base7 y8 y13) := HBS.out.trans (hbl13)
                  have HW13 : Hid (Below w.heap.size w y13) := HB8.out.trans (HB13.out.mono HB78.out)
                  refine ⟨HW13.out, ?_⟩
                  have HWT : Hid (StaL (Un P2 Q2) y13 v13 J2.l) := by
                    rw [HJ2L.out]
                    refine hown13.staL HPLT.out (by rw [List.length_append, List.length_append, HUSL.out]; rfl) (fun j u hj => ?_)
                    by_cases hjl : j < us.length
                    · rw [List.getElem?_append_left hjl] at hj
                      rw [List.getD_eq_getElem?_getD, List.getElem?_append_left (by rw [← HUSL.out]; exact hjl), ← List.getD_eq_getElem?_getD]
                      exact (((HUS.out j u hj).2).below (by rw [← HBASE.out]; exact HB13.out)).sub (fun k hk => Or.inl hk)
                    · rw [List.getElem?_append_right (by omega)] at hj
                      have hj0 : j = us.length := by have := (List.getElem?_eq_some_iff.1 hj).1; simp at this; omega
                      subst hj0
                      simp at hj
                      subst hj
                      rw [List.getD_eq_getElem?_getD, HUSL.out, List.getElem?_append_right (Nat.le_refl _), Nat.sub_self]
                      exact fun W' m => HRB.out W' (HW13.out.trans (m.below HW13.out.size HUN.out))
                  obtain ⟨a13, c13, hv13⟩ := hown13.form
                  obtain ⟨n13, HN13⟩ : ∃ n, Hid (n = (us ++ [Value.slice aB nB cB]).length) := ⟨_, rfl⟩
                  rw [← HN13.out] at hv13
                  subst hv13
                  have HP13 : Hid (Pk Lg y13 gd lg P2 Q2 D2 J2) := HP8.out.below OPS (by rw [← HBASE.out]; exact HB13.out)
                  clear hown13 hgr13 hbl13
                  simp only [Act.put, List.getElem_toArray, List.getElem_cons_succ, List.getElem_cons_zero, List.setIfInBounds_toArray, List.set_cons_zero, List.set_cons_succ]
                  refine wpAnyH_take (i := 14) (v := .slice a13 n13 c13) rfl (by kernel_rfl) (by kernel_rfl) (by kernel_rfl) (fun _ _ _ h => h) (Or.inl ⟨by rfl, fun wx hx => by simp [go_sem]⟩) HW13.out ?_
                  simp only [Act.put, List.getElem_toArray, List.getElem_cons_succ, List.getElem_cons_zero, List.setIfInBounds_toArray, List.set_cons_zero, List.set_cons_succ]
                  refine wpAnyH_done (by kernel_rfl) ?_ _
                  clear HO6 HC12 HBS
                  go_wp2
                  go_roundw
                  case rel => exact ⟨a13, n13, c13, i + 1, P2, Q2, D2, J2, rfl, by simp, by omega, ⟨HP13.out, HLG2.out.1, HLG2.out.2, HIX.out, HWT.out, HW13.out, HUN.out⟩⟩
                  case measure => simp [intOf]; omega
              · refine wpOp_vl 12 _ _ rfl (by rfl) (build_x1 _ _ (.tmp 99) aB nB cB rfl rfl _) ⟨hS.trans ((below_alloc _ _).mono hS.size), ?_⟩
                obtain ⟨g12, y9, e12, e12w, n12⟩ : ∃ g y, g = y8.heap.size ∧ y = y8.alloc (.cells #[Value.slice aB nB cB] 22) ∧ NewR [.slice aB nB cB] 22 y8 g y := ⟨_, _, rfl, rfl, NewR.of _ _ _⟩
                rw [← e12w, ← e12]
                clear e12 e12w
                have HBS : Hid (Below base7 y8 y9) := by rw [HBASE.out]; exact n12.below
                have HB12 : Hid (Blk y9 g12 [.slice aB nB cB] 22) := n12.blk
                have hS9 : Below w.heap.size w y9 := hS.trans (n12.below.mono hS.size)
                clear n12
                simp only [Act.put, List.getElem_toArray, List.getElem_cons_succ, List.getElem_cons_zero, List.setIfInBounds_toArray, List.set_cons_zero, List.set_cons_succ]
                refine wpAnyH_step 0 _ _ (by kernel_rfl) rfl (by rfl) (build_x0 _ _ rfl _) (hS9.trans ((below_alloc _ _).mono hS9.size)) ?_
                obtain ⟨g0, y10, e0, e0w, n0⟩ : ∃ g y, g = y9.heap.size ∧ y = y9.alloc (.cells #[] 22) ∧ NewR [] 22 y9 g y := ⟨_, _, rfl, rfl, NewR.of _ _ _⟩
                rw [← e0w, ← e0]
                clear e0 e0w
                have HNE : Hid (g12 ≠ g0 ∧ g12 < y10.heap.size) := ⟨by have h1 := n0.ge; have h2 := HB12.out.lt; omega, Nat.lt_of_lt_of_le HB12.out.lt n0.below.size⟩
                replace HB12 : Hid (Blk y10 g12 [.slice aB nB cB] 22) := HB12.out.below n0.below HB12.out.lt
                have HX0 : Hid (OwnX y10 base7 (.slice (some ⟨g0, 0, none⟩) 0 0) []) := OwnX.zero _ _ _ (Nat.le_trans HBS.out.size n0.ge |> fun h => by have := HBASE.out; have h2 := HBS.out.size; omega) n0.blk
                replace HBS : Hid (Below base7 y8 y10) := HBS.out.trans (n0.below.mono (by rw [HBASE.out]; exact HBS.out.size))
                clear n0 hS9
                simp only [Act.put, List.getElem_toArray, List.getElem_cons_zero, List.setIfInBounds_toArray, List.set_cons_zero, List.set_cons_succ]
                refine wpAnyH_law 6 (by kernel_rfl) rfl (by rfl) (wp_appendX (.tmp 88) (.tmp 93) base7 (.slice (some ⟨g0, 0, none⟩) 0 0) [] us ⟨b7, off7, none⟩ nl c7 HX0.out HUN7.out (HUC.out _ HBS.out) HU1.out (by have := HUL1.out; simp; omega) (by rw [HBASE.out]; exact HBS.out.size) rfl rfl rfl ?_)
                intro v6 y11 hown6 hgr6 hbl6
                rw [List.nil_append] at hown6
                have HBT : Hid (Below base7 y8 y11) := HBS.out.trans hbl6
                refine ⟨HB8.out.trans (HBT.out.mono HB78.out), ?_⟩
                replace HBS : Hid (Below base7 y8 y11) := HBT.out
                have HO6 : Hid (OwnX y11 base7 v6 us) := hown6
                have HC12 : Hid (y11.cell? ⟨g12, 0, none⟩ = some (.slice aB nB cB)) := (blk_same HB12.out (hgr6.block g12 HNE.out.2 (by simp [Value.ownBlock]; exact HNE.out.1))).cell 0
                clear hown6 hgr6 hbl6 HBT HB12
                simp only [Act.put, List.getElem_toArray, List.getElem_cons_succ, List.getElem_cons_zero, List.setIfInBounds_toArray, List.set_cons_zero, List.set_cons_succ]
                refine wpAnyH_law 13 (by kernel_rfl) rfl (by rfl) (wp_appendX (.tmp 94) (.tmp 100) base7 v6 us [.slice aB nB cB] ⟨g12, 0, none⟩ 1 1 HO6.out rfl (fun j u hj => by match j, hj with | 0, hj => simp at hj; subst hj; simpa [Addr.add] using HC12.out) (fun u hu => by simp at hu; subst hu; rfl) HUL1.out (by rw [HBASE.out]; exact HBS.out.size) rfl rfl rfl ?_)
                intro v13 y13 hown13 hgr13 hbl13
                have HB13 : Hid (Below base7 y8 y13) := HBS.out.trans (hbl13)
                have HW13 : Hid (Below w.heap.size w y13) := HB8.out.trans (HB13.out.mono HB78.out)
                refine ⟨HW13.out, ?_⟩
                have HWT : Hid (StaL (Un P2 Q2) y13 v13 J2.l) := by
                  rw [HJ2L.out]
                  refine hown13.staL HPLT.out (by rw [List.length_append, List.length_append, HUSL.out]; rfl) (fun j u hj => ?_)
                  by_cases hjl : j < us.length
                  · rw [List.getElem?_append_left hjl] at hj
                    rw [List.getD_eq_getElem?_getD, List.getElem?_append_left (by rw [← HUSL.out]; exact hjl), ← List.getD_eq_getElem?_getD]
                    exact (((HUS.out j u hj).2).below (by rw [← HBASE.out]; exact HB13.out)).sub (fun k hk => Or.inl hk)
                  · rw [List.getElem?_append_right (by omega)] at hj
                    have hj0 : j = us.length := by have := (List.getElem?_eq_some_iff.1 hj).1; simp at this; omega
                    subst hj0
                    simp at hj
                    subst hj
                    rw [List.getD_eq_getElem?_getD, HUSL.out, List.getElem?_append_right (Nat.le_refl _), Nat.sub_self]
                    exact fun W' m => HRB.out W' (HW13.out.trans (m.below HW13.out.size HUN.out))
                obtain ⟨a13, c13, hv13⟩ := hown13.form
                obtain ⟨n13, HN13⟩ : ∃ n, Hid (n = (us ++ [Value.slice aB nB cB]).length) := ⟨_, rfl⟩
                rw [← HN13.out] at hv13
                subst hv13
                have HP13 : Hid (Pk Lg y13 gd lg P2 Q2 D2 J2) := HP8.out.below OPS (by rw [← HBASE.out]; exact HB13.out)
                clear hown13 hgr13 hbl13
                simp only [Act.put, List.getElem_toArray, List.getElem_cons_succ, List.getElem_cons_zero, List.setIfInBounds_toArray, List.set_cons_zero, List.set_cons_succ]
                refine wpAnyH_take (i := 14) (v := .slice a13 n13 c13) rfl (by kernel_rfl) (by kernel_rfl) (by kernel_rfl) (fun _ _ _ h => h) (Or.inl ⟨by rfl, fun wx hx => by simp [go_sem]⟩) HW13.out ?_
                simp only [Act.put, List.getElem_toArray, List.getElem_cons_succ, List.getElem_cons_zero, List.setIfInBounds_toArray, List.set_cons_zero, List.set_cons_succ]
                refine wpAnyH_done (by kernel_rfl) ?_ _
                clear HO6 HC12 HBS
                go_wp2
                go_roundw
                case rel => exact ⟨a13, n13, c13, i + 1, P2, Q2, D2, J2, rfl, by simp, by omega, ⟨HP13.out, HLG2.out.1, HLG2.out.2, HIX.out, HWT.out, HW13.out, HUN.out⟩⟩
                case measure => simp [intOf]; omega
          · have q5 : (X == 0) = false := by rw [beq_eq_false_iff_ne]; exact hX
            have HWT : Hid (StaL (Un P2 Q2) wr (.slice am nm cm) J2.l) := HMV.out (fun h => hX h.2)
            go_wp2
            go_roundw
            case rel => exact ⟨am, nm, cm, i + 1, P2, Q2, D2, J2, rfl, by simp, by omega, ⟨HP7.out, HLG2.out.1, HLG2.out.2, HIX.out, HWT.out, HB7.out, HUN.out⟩⟩
            case measure => simp [intOf]; omega
    case neg =>
      rename World => wo
      have hlk : ¬ ((i : Int) < (n : Int)) := by omega
      have hszN := HI.out.size
      have h8 : 8 ≤ sizeD D ∧ sizeD D ≤ 100 := by rw [hszN]; have := HNB.out; exact ⟨by omega, by omega⟩
      have hlen := HI.out.log.len h8.2
      have HAL : Hid (∀ W, Below wo.heap.size wo W → Calls Tryd.prog 24 #[.pointer (some ⟨lg, 0, none⟩)] W fun e w' => ∃ v us, e = .returned v ∧ TxJ W.heap.size v us J.l w' ∧ Below W.heap.size W w') := fun W hW => OPS.all (HI.out.pk.below OPS hW).lg hlen.1 (Nat.le_trans hlen.2 (by decide))
      have HSM : Hid (∀ (W : World) (va vb : Value), ReadsL W va J.l → ReadsL W vb J.l → Calls Tryd.prog 12 #[va, vb] W fun e w' => e = .returned (.bool true) ∧ Below W.heap.size W w') := fun W va vb h1 h2 => by
        have h := nSame_any va vb J.l J.l W h1 h2 (by have := hlen.1; omega)
        rw [decide_eq_true rfl] at h
        exact h
      have HWT : Hid (StaL (Un P Q) wo (.slice wa wn wc) J.l) := HI.out.want
      have HBW : Hid (Below w.heap.size w wo) := HI.out.bel
      have HLB : Hid (J.l.length ≤ 1000 ∧ ∀ j, (J.l.getD j []).length ≤ 6400) := ⟨hlen.1, fun j => by
        by_cases hj : j < J.l.length
        · have h1 := sizeL_mono J.l (j + 1)
          rw [sizeL_take hj] at h1
          have h2 := secR_ge (J.l.getD j []).length
          have h3 := hlen.2
          omega
        · rw [List.getD_eq_getElem?_getD, List.getElem?_eq_none (by omega)]
          exact Nat.zero_le _⟩
      clear hszN h8 hlen HI hi
      have tk0 : Hid True := trivial
      go_wp2_with (first
        | (clear tk0; go_at_call 24; refine (HAL.out _ (Below.refl _ _)).mono ?_; rintro e0 y1 ⟨v15, us, rfl, ht, hb⟩
           have HTX : Hid (TuX wo.heap.size v15 us J.l wo y1) := ⟨ht.own, ht.len, fun j u hj => ⟨J.l.getD j [], rfl, ht.good j u hj⟩, hb, Nat.le_refl _⟩
           obtain ⟨n15, HN15⟩ : ∃ n, Hid (n = us.length) := ⟨_, rfl⟩
           obtain ⟨a15, c15, hv15⟩ := ht.own.form
           rw [← HN15.out] at hv15
           subst hv15
           have HNL : Hid (us.length = J.l.length) := ht.len
           clear ht hb))
      go_loopw [16] (fun iv W => ∃ j : Nat, j ≤ n15 ∧ iv = .int .i64 (j : Int) ∧ Hid (TuX wo.heap.size (.slice a15 n15 c15) us J.l wo W)) (fun iv _ => n15 - (intOf iv).toNat)
      case atStart => exact ⟨0, Nat.zero_le _, rfl, HTX⟩
      case round =>
        clear HTX
        obtain ⟨j, hj, rfl, HT⟩ := hrel
        rename World => wj
        by_cases hjn : j < n15
        case pos =>
          have hl3 : (j : Int) < (n15 : Int) := by omega
          have k3 : (0 : Int) ≤ (j : Int) := by omega
          have f8 : IntKind.i64.wrap ((j : Int) + 1) = (j : Int) + 1 := by rw [IntKind.wrap_i64]; have h1 := HN15.out; have h2 := HNL.out; have h3 := HLB.out.1; omega
          have hju : j < us.length := by rw [← HN15.out]; exact hjn
          obtain ⟨u, HU⟩ : ∃ u, Hid (us[j]? = some u) := ⟨us[j], List.getElem?_eq_getElem hju⟩
          obtain ⟨l0, hl0, ho0⟩ := HT.out.good j u HU.out
          obtain ⟨nj, HNJ⟩ : ∃ n, Hid (n = (J.l.getD j []).length) := ⟨_, rfl⟩
          obtain ⟨aj, cj, hvj⟩ : ∃ a c, u = .slice a nj c := by obtain ⟨a, c, hv, _⟩ := ho0.reads; exact ⟨a, c, by rw [HNJ.out, ← hl0]; exact hv⟩
          subst hvj
          obtain ⟨g15, rfl, hn15e, hc15e⟩ := HT.out.own.cellAt HU.out
          clear hn15e hc15e hju
          have HCE : Hid (∀ W, TuX wo.heap.size (.slice (some ⟨g15, 0, none⟩) n15 c15) us J.l wo W → W.cell? ⟨g15, j, none⟩ = some (.slice aj nj cj)) := fun W h => by
            obtain ⟨g, hg, _, hc⟩ := h.own.cellAt HU.out
            simp only [Option.some.injEq, Addr.mk.injEq] at hg
            obtain ⟨rfl, _⟩ := hg
            exact hc
          clear hl0 ho0
          go_wp2
          go_loopw [17] (fun kv W => ∃ k : Nat, k ≤ nj ∧ kv = .int .i64 (k : Int) ∧ Hid (TuX wo.heap.size (.slice (some ⟨g15, 0, none⟩) n15 c15) us J.l wo W)) (fun kv _ => nj - (intOf kv).toNat)
          case atStart => exact ⟨0, Nat.zero_le _, rfl, HT⟩
          case round =>
            clear HT
            obtain ⟨k, hk, rfl, HT⟩ := hrel
            rename World => wk
            have q2 : wk.cell? ⟨g15, j, none⟩ = some (.slice aj nj cj) := HCE.out wk HT.out
            by_cases hkn : k < nj
            case neg =>
              have hl4 : ¬ ((k : Int) < (nj : Int)) := by omega
              go_wp2
              go_roundw
              case rel => exact ⟨j + 1, by omega, by simp, HT⟩
              case measure => simp [intOf]; omega
            case pos =>
              have hl4 : (k : Int) < (nj : Int) := by omega
              have f5 : IntKind.i64.wrap ((k : Int) + 1) = (k : Int) + 1 := by rw [IntKind.wrap_i64]; have h1 := HNJ.out; have h2 := HLB.out.2 j; omega
              obtain ⟨l9, hl9, ho9⟩ := HT.out.good j _ HU.out
              rw [← HNJ.out] at hl9
              obtain ⟨g9, cs9, rfl, hge9, hlt9, hbk9, hne9, hcs9, hce9⟩ := ho9.blk (by omega)
              clear hge9 hlt9 hne9
              obtain ⟨xk, HXK⟩ : ∃ x : Nat, Hid (x = (l9.getD k 0).toNat) := ⟨_, rfl⟩
              have q1 : wk.cell? ⟨g9, k, none⟩ = some (.int .u8 (xk : Int)) := by rw [HXK.out]; exact hce9 k (by omega)
              obtain ⟨x1, HX1⟩ : ∃ x : BitVec 8, Hid (x = l9.getD k 0 + 1) := ⟨_, rfl⟩
              have f6 : IntKind.u8.wrap ((xk : Int) + 1) = (x1.toNat : Int) := by rw [HXK.out, HX1.out]; exact inc8 _
              have HBK : Hid (Blk wk g9 cs9 5) := hbk9
              have HKC : Hid (k < cs9.length) := by show _ < _; omega
              have HKN : Hid (k < nj) := hkn
              have HO9 : Hid (OwnB wk wo.heap.size (.slice (some ⟨g9, 0, none⟩) nj cj) l9) := ho9
              clear hbk9 hcs9 hce9 ho9 hl9
              have tk1 : Hid True := trivial
              have tk2 : Hid True := trivial
              have tk3 : Hid True := trivial
              go_wp2_with (first
                | (clear tk1; with_reducible refine wpSeq_idxB14 (.tmp 122) (.tmp 123) g9 nj cj k HKN.out ?_ ?_ ?_ ?_ ?_
                   · rfl
                   · rfl
                   · rfl
                   · rfl)
                | (clear tk2; with_reducible refine wpSeq_idxB14 (.tmp 122) (.tmp 123) g9 nj cj k HKN.out ?_ ?_ ?_ ?_ ?_
                   · rfl
                   · rfl
                   · rfl
                   · rfl)
                | (clear tk3; with_reducible refine wpSeq_cellU (.tmp 127) (.tmp 126) g9 k cs9 (x1.toNat : Int) 5 HKC.out HBK.out ?_ ?_ ?_ ?_ ?_
                   · rfl
                   · rfl
                   · rfl
                   · rfl
                   intro z7 hb7 ho7
                   have HT7 : Hid (TuX wo.heap.size (.slice (some ⟨g15, 0, none⟩) n15 c15) us J.l wo z7) := HT.out.poke HO9.out rfl HBK.out hb7 ho7
                   clear hb7 ho7 q1 q2))
              go_roundw
              case rel => exact ⟨k + 1, by omega, by simp, HT7⟩
              case measure => simp [intOf]; omega
        case neg =>
          have hl3 : ¬ ((j : Int) < (n15 : Int)) := by omega
          have HBJ : Hid (Below wo.heap.size wo wj) := HT.out.bel
          have tk1 : Hid True := trivial
          have tk2 : Hid True := trivial
          have tk3 : Hid True := trivial
          go_wp2_with (first
            | (clear tk1; go_at_call 24; refine (HAL.out _ HBJ.out).mono ?_; rintro e0 y2 ⟨v2, us2, rfl, ht, hb⟩
               have HR2 : Hid (ReadsL y2 v2 J.l) := ht.readsL
               replace HBJ : Hid (Below wo.heap.size wo y2) := HBJ.out.trans (hb.mono HBJ.out.size)
               clear ht hb)
            | (clear tk2; go_at_call 12; refine (HSM.out _ _ _ HR2.out (HWT.out.now.below HBJ.out)).mono ?_; rintro e0 y3 ⟨rfl, hz⟩
               replace HBJ : Hid (Below wo.heap.size wo y3) := HBJ.out.trans (hz.mono HBJ.out.size)
               clear hz HR2)
            | (clear tk3; go_at_call 9; refine (HWK.out _ (HK0.out.below (HBW.out.trans (HBJ.out.mono HBW.out.size)) HK0.out.lt)).mono ?_; rintro e0 y4 ⟨rfl, hz⟩
               replace HBJ : Hid (Below wo.heap.size wo y4) := HBJ.out.trans (hz.mono HBJ.out.size)
               clear hz))
          go_ret
          exact ⟨rfl, HBW.out.trans (HBJ.out.mono HBW.out.size)⟩
end Go.Proofs.YtfleaipdoiiiiaaDoor
/- What the listed variable gives: the rounds' words lie where the walks look for them. -/
namespace Go.Proofs.YtfleaipdoiiiiaaDoor
open Go.ChangeShapes Go.WideShapes Go.ChangeAt Go.WideMaps Go.WideElems Go.RowKit
set_option maxRecDepth 100000
theorem own : ownKnob Tryd.prog.godebug = none := by kernel_rfl
theorem gKw : Tryd.prog.globalNamed "blazon/sha.roundWords" = some 0 := by kernel_rfl
theorem tKw : (Tryd.prog.globals[0]?).map (·.type) = some 125 := by kernel_rfl
def laidK : List (String × DataW Unit) := [("blazon/sha.roundWords", Rows.laid_blazon_sha_roundWords)]
def kzs : List Int := kw.map fun x => (x.toNat : Int)
theorem laid_tab : (Rows.laid_blazon_sha_roundWords : DataW Unit) = Lib.tabData .u32 kzs := by kernel_rfl
theorem door_met (os : Os) (args : Array Value) : laidMetH Tryd.prog laidK ((World.doorLaid Tryd.prog 400 os).forCall (fun _ _ => 0) ⟨#[], args, []⟩).memory :=
  laidMetH_of_parts3 (fuel := 8) (laidMet_of_run' 8 (by kernel_rfl) (by kernel_rfl)) (by kernel_rfl) (by kernel_rfl)
theorem getD_toNat (l : List (BitVec 32)) (j : Nat) : (l.map fun x => (x.toNat : Int)).getD j 0 = ((l.getD j 0).toNat : Int) := by
  rw [List.getD_eq_getElem?_getD, List.getD_eq_getElem?_getD, List.getElem?_map]
  cases l[j]? <;> rfl
theorem kok_of_laid {W : World} (h : laidMetH Tryd.prog laidK W) : KOk W := by
  rw [MakeChecks.laidMetH_plain _ _ _ (by kernel_rfl)] at h
  unfold laidK at h
  rw [laid_tab] at h
  have hT := Lib.tabIs_of_head gKw tKw Tryd.underlying125 Tryd.underlying116 (by kernel_rfl) (by kernel_rfl) h
  intro j hj
  rw [hT.cell gKw j (by simpa [kzs, kw] using hj), kzs, getD_toNat]
end Go.Proofs.YtfleaipdoiiiiaaDoor
/- What a slice of bytes that came in gives: the bytes that it reads as; and that it reads so still behind a call that changed no old block. -/
namespace Go.Proofs.YtfleaipdoiiiiaaDoor
open Go.ChangeShapes Go.WideShapes Go.ChangeAt Go.WideMaps Go.WideElems Go.RowKit
set_option maxRecDepth 100000
theorem cells_byte : Tryd.prog.cellsOf 5 = 1 := by kernel_rfl
theorem laid_out : laidOutB Tryd.prog = true := by kernel_rfl
theorem byte_range {zs : List Int} (h : ∀ n ∈ zs, (Lit.int .u8 n).wf = true) (j : Nat) : 0 ≤ zs.getD j 0 ∧ zs.getD j 0 < 256 := by
  rw [List.getD_eq_getElem?_getD]
  cases hj : zs[j]? with
  | none => simp
  | some n =>
    have := h n (List.mem_of_getElem? hj)
    have := bounds_u8 this
    simp
    omega
end Go.Proofs.YtfleaipdoiiiiaaDoor
/- What a digest that came in gives: its 32 bytes. -/
namespace Go.Proofs.YtfleaipdoiiiiaaDoor
open Go.ChangeShapes Go.WideShapes Go.ChangeAt Go.WideMaps Go.WideElems Go.RowKit
set_option maxRecDepth 100000
end Go.Proofs.YtfleaipdoiiiiaaDoor
/- What a slice of acts that came in gives, with its sizes (layer 14). -/
namespace Go.Proofs.YtfleaipdoiiiiaaDoor
open Go.ChangeShapes Go.WideShapes Go.ChangeAt Go.WideMaps Go.WideElems Go.RowKit
set_option maxRecDepth 100000
theorem cells_bytesJ : Tryd.prog.cellsOf 22 = 1 := by kernel_rfl
theorem cells_bytessJ : Tryd.prog.cellsOf 25 = 1 := by kernel_rfl
theorem cells_boolJ : Tryd.prog.cellsOf 4 = 1 := by kernel_rfl
theorem cells_op14 : Tryd.prog.cellsOf 50 = 3 := by kernel_rfl
theorem readable_ops14 : Tryd.prog.readableRec 43 = true := by kernel_rfl
theorem row_ops14 : 43 < Tryd.prog.types.size := of_decide_eq_true (by kernel_rfl)
theorem bytes_byteJ : Tryd.prog.bytesOf 5 = 1 := by kernel_rfl
theorem bytes_bytesJ : Tryd.prog.bytesOf 22 = 24 := by kernel_rfl
theorem bytes_op14 : Tryd.prog.bytesOf 50 = 56 := by kernel_rfl
theorem weightsAll_memJ {H : Type} {P : Program} {e : TypeId} {q : Nat → Bool} : ∀ (l : List (DataW H)), (DataW.weightsAll P e l).all q = true → ∀ d ∈ l, (d.weights P e).all q = true
  | [], _, _, h => by cases h
  | x :: r, hl, d, h => by
    rw [DataW.weightsAll, List.all_append, Bool.and_eq_true] at hl
    rcases List.mem_cons.1 h with rfl | h
    · exact hl.1
    · exact weightsAll_memJ r hl.2 d h
theorem reads_sizedJ {H : Type} {enc : TypeId × Value → H} {W : World} {v : Value} {d : DataW H} {p : List MemPlace} {fuel : Nat} (hf : DataW.trod enc Tryd.prog W 0 (fun _ => true) true fuel 22 [v] = some (d, p)) :
    ∃ bs, Reads W v bs ∧ (∀ N, (d.weights Tryd.prog 22).all (· ≤ N) = true → bs.length ≤ N) := by
  rcases open_ints Tryd.underlying22 Tryd.underlying5 cells_byte hf with ⟨hcs, hx⟩ | ⟨a, len, cap, zs, hcs, _, hl, hm, hz, hx, hcell, hwz⟩
  · simp only [List.cons.injEq, and_true] at hcs
    subst hcs
    exact ⟨[], ⟨none, 0, rfl, Nat.le_refl _, fun _ => rfl, fun h => by cases h⟩, fun _ _ => Nat.zero_le _⟩
  · simp only [List.cons.injEq, and_true] at hcs
    subst hcs
    simp only [Prod.mk.injEq] at hx
    obtain ⟨rfl, rfl⟩ := hx
    simp only [if_true] at hz
    have hlen : ((zs.take len).map fun n => BitVec.ofInt 8 n).length = len := by simp; omega
    obtain ⟨ab, ao, spot⟩ := a
    refine ⟨(zs.take len).map fun n => BitVec.ofInt 8 n, ⟨some ⟨ab, ao, spot⟩, cap, by rw [hlen], by rw [hlen]; exact hl, (fun h => by cases h), fun hp => ?_⟩, ?_⟩
    · rw [hlen] at hp ⊢
      have hspot : spot = none := by simpa [Addr.add] using World.cell?_spot (hcell 0 (by omega))
      subst hspot
      refine ⟨ab, ao, rfl, fun j hj => ?_⟩
      have hcj := hcell j (by omega)
      rw [Addr.add_lit] at hcj
      rw [hcj]
      have hb := byte_range hwz j
      have e : ((zs.take len).map fun n => BitVec.ofInt 8 n).getD j 0 = BitVec.ofInt 8 (zs.getD j 0) := by
        rw [List.getD_eq_getElem?_getD, List.getElem?_map, List.getElem?_take_of_lt hj, List.getD_eq_getElem?_getD, List.getElem?_eq_getElem (show j < zs.length by omega)]
        rfl
      rw [e, BitVec.toNat_ofInt]
      congr 2
      omega
    · intro N hN
      rw [hlen]
      rw [DataW.weights] at hN
      simp only [Tryd.underlying22, bytes_byteJ, Nat.mul_one, List.all_cons, Bool.and_eq_true, decide_eq_true_eq] at hN
      have h3 : (lits (H := H) .u8 (zs.take len)).length = len := by simp [lits]; omega
      have := hN.1
      omega
theorem readsL_sizedJ {H : Type} {enc : TypeId × Value → H} {W : World} {v : Value} {d : DataW H} {p : List MemPlace} {fuel : Nat} (hf : DataW.trod enc Tryd.prog W 0 (fun _ => true) true fuel 25 [v] = some (d, p)) :
    ∃ ls, ReadsL W v ls ∧ (∀ N, (d.weights Tryd.prog 25).all (· ≤ N) = true → ls.length ≤ N ∧ ∀ t ∈ ls, t.length ≤ N) := by
  rcases Go.Deep.open_slice1 Tryd.underlying25 cells_bytesJ hf with ⟨hcs, hx⟩ | ⟨a, len', cap', m, n, V, D, Pl, hcs, _, hl, hm, hmm, hx, hV⟩
  · simp only [List.cons.injEq, and_true] at hcs
    subst hcs
    exact ⟨[], ⟨none, 0, rfl, Nat.le_refl _, fun _ => rfl, fun h => by cases h⟩, fun _ _ => ⟨Nat.zero_le _, fun _ h => by cases h⟩⟩
  · simp only [List.cons.injEq, and_true] at hcs
    subst hcs
    simp only [Prod.mk.injEq] at hx
    obtain ⟨rfl, rfl⟩ := hx
    simp only [if_true] at hmm
    subst hmm
    obtain ⟨B, hB⟩ := Go.Deep.choose_lt (α := List (BitVec 8)) (p := fun i bs => Reads W (V i) bs ∧ (∀ N, ((D i).weights Tryd.prog 22).all (· ≤ N) = true → bs.length ≤ N)) (fun i hi => reads_sizedJ (hV i hi).2)
    have hlen : ((List.range len').map B).length = len' := by simp
    obtain ⟨ab, ao, spot⟩ := a
    refine ⟨(List.range len').map B, ⟨some ⟨ab, ao, spot⟩, m, by rw [hlen], by rw [hlen]; exact hl, (fun h => by cases h), fun hp => ?_⟩, ?_⟩
    · rw [hlen] at hp ⊢
      have hspot : spot = none := by simpa [Addr.add] using World.cell?_spot (hV 0 (by omega)).1
      subst hspot
      refine ⟨ab, ao, rfl, fun j hj => ⟨V j, ?_, ?_⟩⟩
      · have hcj := (hV j (by omega)).1
        rw [Addr.add_lit] at hcj
        exact hcj
      · have e : ((List.range len').map B).getD j [] = B j := by simp [hj]
        rw [e]; exact (hB j (by omega)).1
    · intro N hN
      rw [DataW.weights] at hN
      simp only [Tryd.underlying25, bytes_bytesJ, List.all_cons, List.all_append, Bool.and_eq_true, decide_eq_true_eq, List.length_map, List.length_range] at hN
      refine ⟨by rw [hlen]; have := hN.1; omega, fun t ht => ?_⟩
      obtain ⟨i, hi, rfl⟩ := List.mem_map.1 ht
      have hi2 := List.mem_range.1 hi
      exact (hB i (by omega)).2 N (weightsAll_memJ _ hN.2.1 _ (List.mem_map_of_mem hi))
/-- an act's cells -/
def opC14 (o : OpT) (vB vL : Value) : List Value := [.bool o.ag, vB, vL]
theorem act_sized {H : Type} {enc : TypeId × Value → H} {W : World} {l : List Value} {d : DataW H} {p : List MemPlace} {fuel : Nat} (hf : DataW.trod enc Tryd.prog W 0 (fun _ => true) true fuel 50 l = some (d, p)) :
    ∃ (o : OpT) (vB vL : Value), l = opC14 o vB vL ∧ Reads W vB o.b ∧ ReadsL W vL o.l ∧ (∀ N, (d.weights Tryd.prog 50).all (· ≤ N) = true → o.b.length ≤ N ∧ o.l.length ≤ N ∧ ∀ t ∈ o.l, t.length ≤ N) := by
  obtain ⟨y0, y1, y2, n, hx, hl, h0, h1, h2⟩ := Go.Deep.trod_struct3 Tryd.underlying50 hf
  rw [cells_op14] at hl
  rw [cells_boolJ] at h0
  rw [cells_bytesJ] at h1
  rw [cells_bytessJ] at h2
  match l, hl with
  | [c0, c1, c2], _ =>
    obtain ⟨b, e0, _⟩ := DataW.trod_bool Tryd.underlying4 h0
    obtain ⟨bs, hr, hbl⟩ := reads_sizedJ (v := c1) h1
    obtain ⟨ls, hrl, hll⟩ := readsL_sizedJ (v := c2) h2
    simp at e0
    subst e0
    refine ⟨⟨b, bs, ls⟩, c1, c2, rfl, hr, hrl, fun N hN => ?_⟩
    simp only [Prod.mk.injEq] at hx
    rw [hx.1, DataW.weights] at hN
    simp only [Tryd.underlying50, List.map_cons, List.map_nil, DataW.weightsEach, List.all_append, Bool.and_eq_true] at hN
    exact ⟨hbl N hN.2.1, hll N hN.2.2.1⟩
theorem acts_sized {H : Type} {enc : TypeId × Value → H} {W : World} {base : Nat} {v : Value} {d : DataW H} {p : List MemPlace} (hval : Value.okWide Tryd.prog W .any base 43 v)
    (h : DataW.Trod enc Tryd.prog W 0 (fun _ => true) true 43 v d p) :
    ∃ os, ROps W v os ∧ (∀ N, (d.weights Tryd.prog 43).all (· ≤ N) = true → ∀ o ∈ os, o.b.length ≤ N ∧ o.l.length ≤ N ∧ ∀ t ∈ o.l, t.length ≤ N) ∧ ∀ x ∈ p, x.block < W.heap.size := by
  obtain ⟨a1, len, cap, rfl⟩ := okWide_slice Tryd.underlying43 hval
  obtain ⟨fuel, hf⟩ := h
  have hp0 := DataW.trod_lt _ _ _ _ hf
  rcases Go.Deep.open_slice Tryd.underlying43 hf with ⟨hcs, hx⟩ | ⟨a, len', cap', m, n, D, Pl, hcs, _, hl, hm, hmm, hx, hV⟩
  · simp [Value.cells] at hcs
    obtain ⟨rfl, rfl, rfl⟩ := hcs
    exact ⟨[], ⟨none, 0, rfl, Nat.le_refl _, fun h => by cases h⟩, (fun _ _ _ h => by cases h), hp0⟩
  · simp [Value.cells] at hcs
    obtain ⟨rfl, rfl, rfl⟩ := hcs
    simp only [Prod.mk.injEq] at hx
    obtain ⟨rfl, rfl⟩ := hx
    simp only [if_true] at hmm
    subst hmm
    rw [cells_op14] at hV
    have : Inhabited (OpT × Value × Value) := ⟨(⟨false, [], []⟩, .int .i64 0, .int .i64 0)⟩
    obtain ⟨B, hB⟩ := Go.Deep.choose_lt (α := OpT × Value × Value) (p := fun i q => W.cells? 0 (a.add (i * 3)) 3 = some (opC14 q.1 q.2.1 q.2.2) ∧ Reads W q.2.1 q.1.b ∧ ReadsL W q.2.2 q.1.l ∧ (∀ N, ((D i).weights Tryd.prog 50).all (· ≤ N) = true → q.1.b.length ≤ N ∧ q.1.l.length ≤ N ∧ ∀ t ∈ q.1.l, t.length ≤ N)) (fun i hi => by
      obtain ⟨cs', h1, h2⟩ := hV i hi
      obtain ⟨o, vB, vL, rfl, h3, h4, h5⟩ := act_sized h2
      exact ⟨(o, vB, vL), h1, h3, h4, h5⟩)
    have hlen : ((List.range len).map fun i => (B i).1).length = len := by simp
    obtain ⟨ab, ao, spot⟩ := a
    have cell : ∀ i, i < m → ∀ j, j < 3 → W.cell? ((⟨ab, ao, spot⟩ : Addr).add (i * 3 + j)) = (opC14 (B i).1 (B i).2.1 (B i).2.2)[j]? := by
      intro i hi j hj
      obtain ⟨h1, _⟩ := hB i hi
      obtain ⟨_, _, h4⟩ := World.cells?_some h1
      have := h4 j hj
      rw [Go.Deep.add_add] at this
      exact this
    have hspot : 0 < m → spot = none := fun hp => by
      have h := cell 0 hp 0 (by omega)
      rw [show (opC14 (B 0).1 (B 0).2.1 (B 0).2.2)[0]? = some (.bool (B 0).1.ag) from rfl] at h
      simpa [Addr.add] using World.cell?_spot h
    refine ⟨(List.range len).map fun i => (B i).1, ⟨some ⟨ab, ao, spot⟩, m, by rw [hlen], by rw [hlen]; exact hl, fun hp => ?_⟩, ?_, hp0⟩
    · rw [hlen] at hp ⊢
      have hs := hspot (by omega)
      subst hs
      refine ⟨ab, ao, rfl, fun j hj => ?_⟩
      have e : ((List.range len).map fun i => (B i).1).getD j ⟨false, [], []⟩ = (B j).1 := by simp [hj]
      rw [e]
      have h0 := cell j (by omega) 0 (by omega)
      have h1 := cell j (by omega) 1 (by omega)
      have h2 := cell j (by omega) 2 (by omega)
      rw [Addr.add_lit] at h0 h1 h2
      exact ⟨(B j).2.1, (B j).2.2, h0, by rw [Nat.add_assoc]; exact h1, by rw [Nat.add_assoc]; exact h2, (hB j (by omega)).2.1, (hB j (by omega)).2.2.1⟩
    · intro N hN o ho
      rw [DataW.weights] at hN
      simp only [Tryd.underlying43, bytes_op14, List.all_cons, List.all_append, Bool.and_eq_true, decide_eq_true_eq, List.length_map, List.length_range] at hN
      obtain ⟨i, hi, rfl⟩ := List.mem_map.1 ho
      have hi2 := List.mem_range.1 hi
      exact (hB i (by omega)).2.2.2 N (weightsAll_memJ _ hN.2.1 _ (List.mem_map_of_mem hi))
end Go.Proofs.YtfleaipdoiiiiaaDoor

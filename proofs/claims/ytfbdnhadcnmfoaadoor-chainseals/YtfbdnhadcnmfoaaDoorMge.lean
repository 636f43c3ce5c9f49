/- Texts that the proof leans on, one behind the other: ChainSeals, over what chain's functions do (layer 11). What the listed variable gives: the rounds' words lie where the walks look for them. What a slice of bytes that came in gives: the bytes that it reads as; and that it reads so still behind a call that changed no old block. .. -/
import Derived.Test.YtfbdnhadcnmfoaaDoorMgd
import Derived.Test.YtfbdnhadcnmfoaaDoorRows
import Derived.Test.YtfbdnhadcnmfoaaDoorMga
import Derived.ProofKit
import Derived.LaidMore
import Derived.OpenShut
import Derived.Stop.Joined
import Derived.Lib.LaidTab
import Derived.Carry
import Derived.ChangeSlices
import Derived.Test.YtfbdnhadcnmfoaaDoorMgc
import Derived.Deep.Slices
import Derived.ChangeSame
import Derived.Deep.Strs
import Derived.Lib.SmallJoins
/- ChainSeals, over what chain's functions do (layer 11). -/
namespace Go.Proofs.YtfbdnhadcnmfoaaDoor
open Go.RowKit Go.Shelf
set_option maxRecDepth 100000
theorem eq_rt (s t : SgT) (os : okS s) (ot : okS t) (w : World) : (Op.equalIn 10000 28 (.agg (rtC s).toArray) (.agg (rtC t).toArray)).run Tryd.prog w = .ok (decide (s.1 = t.1)) w := by
  have h := eq_root s.1.1 t.1.1 s.1.2.1 s.1.2.2.1 s.1.2.2.2 t.1.2.1 t.1.2.2.1 t.1.2.2.2 os.1 os.2.1 os.2.2.1 ot.1 ot.2.1 ot.2.2.1 w
  have e : decide (s.1 = t.1) = decide (s.1.1 = t.1.1 ∧ s.1.2.1 = t.1.2.1 ∧ s.1.2.2.1 = t.1.2.2.1 ∧ s.1.2.2.2 = t.1.2.2.2) := by
    obtain ⟨⟨n, x, y, z⟩, g⟩ := s
    obtain ⟨⟨m, a, b, c⟩, g'⟩ := t
    simp
  rw [e]
  exact h
theorem wpSeq_eqR {ops : Array Oper} {Q : Exit → Act → World → Prop} {rest : List Oper} {o : Oper} {a : Act} {w : World} (x y : Operand) (s t : SgT) (os : okS s) (ot : okS t) (b : Bool) (hb : b = decide (s.1 = t.1)) (ho : o.op = .binOp .eql 28 x y 28) (hx : a.eval x = .agg (rtC s).toArray) (hy : a.eval y = .agg (rtC t).toArray) (hw : Region.wanted o (yielded ops a.tmps) = true)
    (hh : wpList Tryd.prog ops Q rest (a.put o.dst (.bool b)) w) : wpList Tryd.prog ops Q (o :: rest) a w := by
  refine wpSeq_val _ _ hw ?_ hh
  have he := eq_rt s t os ot w
  have hg := run_eqGuard_agg (P := Tryd.prog) (w := w) .eql 28 x y (rtC s).toArray (rtC t).toArray (by kernel_rfl)
  unfold execOp
  rw [ho]
  simp only [hx, hy, Sem.run_bind, hg, run_eql_struct, he, Result.andThen_ok, hb, Sem.run_pure]
set_option maxRecDepth 100000 in
set_option maxHeartbeats 8000000 in
theorem sameS_any (s : SgT) (va vb : Value) (w : World) (os : okS s) (ha : Reads w va s.2) (hb : Reads w vb s.2) :
    Calls Tryd.prog 11 #[.agg (sgC s va).toArray, .agg (sgC s vb).toArray] w fun e w' => e = .returned (.bool true) ∧ Below w.heap.size w w' := by
  obtain ⟨aa, na, ca, hva⟩ := ha.form
  obtain ⟨ab, nb, cbb, hvb⟩ := hb.form
  subst hva hvb
  have HRA : Hid (Reads w (.slice aa na ca) s.2) := ha
  have HRB : Hid (Reads w (.slice ab nb cbb) s.2) := hb
  have HOS : Hid (okS s) := os
  have HBW : Hid (Below w.heap.size w w) := Below.refl _ _
  clear ha hb os
  go_enter Tryd.func11, Tryd.ntmps11
  have tk0 : Hid True := trivial
  have tk1 : Hid True := trivial
  have tk2 : Hid True := trivial
  have tk3 : Hid True := trivial
  have tk4 : Hid True := trivial
  go_wp2_with (first
    | (clear tk0; with_reducible refine wpSeq_boxW 31 (.tmp 0) (sgC s (.slice aa na ca)) ?_ ?_ ?_ ?_
       · rfl
       · rfl
       · rfl
       intro g2 y1 nn
       replace HRA : Hid (Reads y1 (.slice aa na ca) s.2) := HRA.out.below nn.below
       replace HRB : Hid (Reads y1 (.slice ab nb cbb) s.2) := HRB.out.below nn.below
       replace HBW : Hid (Below w.heap.size w y1) := HBW.out.trans (nn.below.mono HBW.out.size)
       have HG2 : Hid (Blk y1 g2 (sgC s (.slice aa na ca)) 31) := nn.blk
       clear nn)
    | (clear tk1; with_reducible refine wpSeq_boxW 31 (.tmp 1) (sgC s (.slice ab nb cbb)) ?_ ?_ ?_ ?_
       · rfl
       · rfl
       · rfl
       intro g3 y2 nn
       replace HG2 : Hid (Blk y2 g2 (sgC s (.slice aa na ca)) 31) := HG2.out.below nn.below HG2.out.lt
       replace HRA : Hid (Reads y2 (.slice aa na ca) s.2) := HRA.out.below nn.below
       replace HRB : Hid (Reads y2 (.slice ab nb cbb) s.2) := HRB.out.below nn.below
       replace HBW : Hid (Below w.heap.size w y2) := HBW.out.trans (nn.below.mono HBW.out.size)
       have HG3 : Hid (Blk y2 g3 (sgC s (.slice ab nb cbb)) 31) := nn.blk
       have c2 : y2.cell? ⟨g2, 97, none⟩ = some (.slice aa na ca) := by have := (HG2.out.sgAt HOS.out).sig; rwa [Nat.zero_add] at this
       have c3 : y2.cell? ⟨g3, 97, none⟩ = some (.slice ab nb cbb) := by have := (HG3.out.sgAt HOS.out).sig; rwa [Nat.zero_add] at this
       have v2 := conv_reads HRA.out
       have v3 := conv_reads HRB.out
       have q2 := strB_inj s.2 s.2
       rw [decide_eq_true rfl] at q2
       clear nn)
    | (clear tk2; with_reducible refine wpSeq_loadW 28 (.tmp 5) g2 0 (rtC s) _ ?_ Tryd.underlying28 rfl ?_ ?_ ?_ ?_ ?_
       · exact (HG2.out.sgAt HOS.out).root
       · exact info_rtC HOS.out
       · rfl
       · rfl
       · rfl)
    | (clear tk3; with_reducible refine wpSeq_loadW 28 (.tmp 7) g3 0 (rtC s) _ ?_ Tryd.underlying28 rfl ?_ ?_ ?_ ?_ ?_
       · exact (HG3.out.sgAt HOS.out).root
       · exact info_rtC HOS.out
       · rfl
       · rfl
       · rfl)
    | (clear tk4; with_reducible refine wpSeq_eqR (.tmp 6) (.tmp 8) s s HOS.out HOS.out true ?_ ?_ ?_ ?_ ?_ ?_
       · exact (decide_eq_true rfl).symm
       · rfl
       · rfl
       · rfl
       · rfl))
  go_ret
  first | exact ⟨rfl, HBW.out⟩ | exact ⟨trivial, HBW.out⟩
theorem hdC_key (n : Nat) (r k : List (BitVec 8)) : hdC (n, r, k) = (Value.int .u64 (n : Int) :: cb r) ++ (cb k ++ []) := by simp [hdC]
theorem wpSeq_storeKey {ops : Array Oper} {Q : Exit → Act → World → Prop} {rest : List Oper} {o : Oper} {a : Act} {w : World} (x y : Operand) (g n : Nat) (r k l : List (BitVec 8)) (hb : Blk w g (hdC (n, r, k)) 26) (hr : r.length = 32) (hk : k.length = 32) (hl : l.length = 32) (ho : o.op = .store 23 x y) (hx : a.eval x = .pointer (some ⟨g, 33, none⟩)) (hy : a.eval y = .agg (cb l).toArray) (hgd : o.guard = none)
    (h : ∀ w', SetR (hdC (n, r, l)) 26 w g w' → wpList Tryd.prog ops Q rest (a.put o.dst undef) w') : wpList Tryd.prog ops Q (o :: rest) a w := by
  rw [hdC_key] at hb h
  exact wpSeq_storeSeg x y g 33 _ (cb k) [] l 26 hb (by rw [List.length_cons, cb_len, hr]) (by rw [cb_len, hk]) hl ho hx hy hgd h
theorem build_zd (f : Operand → Value) (o : Oper) (ho : o.op = .build 23 #[]) (w : World) : (execOp f o).run Tryd.prog w = .ok (.value (.agg (cb zb32).toArray)) w := by
  unfold execOp
  rw [ho]
  kernel_rfl
theorem wpSeq_buildZD {ops : Array Oper} {Q : Exit → Act → World → Prop} {rest : List Oper} {o : Oper} {a : Act} {w : World} (ho : o.op = .build 23 #[]) (hw : Region.wanted o (yielded ops a.tmps) = true)
    (h : wpList Tryd.prog ops Q rest (a.put o.dst (.agg (cb zb32).toArray)) w) : wpList Tryd.prog ops Q (o :: rest) a w :=
  wpSeq_val _ _ hw (build_zd _ _ ho _) h
theorem Reads.apartB {w w' : World} {ad : Option Addr} {n c g : Nat} {l : List (BitVec 8)} (h : Reads w (.slice ad n c) l) (ho : Only g w w') (hne : ∀ k, (Value.slice ad n c).ownBlock = some k → k ≠ g) : Reads w' (.slice ad n c) l := by
  obtain ⟨ad', c', hv, hc, hn, hx⟩ := h
  refine ⟨ad', c', hv, hc, hn, fun hp => ?_⟩
  obtain ⟨b, off, rfl, hy⟩ := hx hp
  simp only [Value.slice.injEq] at hv
  obtain ⟨rfl, _⟩ := hv
  exact ⟨b, off, rfl, fun j hj => ho.cell (p := ⟨b, off + j, none⟩) (hne b rfl) (hy j hj)⟩
set_option maxRecDepth 100000 in
set_option maxHeartbeats 8000000 in
theorem chainSeals_law (hO : ChOps) (seed tree : List (BitVec 8)) (h : HdT) (w : World) (hK : KOk w) (hs : seed.length = 32) (oh : okH h) (ht : tree.length = 32) :
    Calls Tryd.prog 3 #[.agg (cb seed).toArray, .agg (hdC h).toArray, .agg (cb tree).toArray] w fun e w' => e = .returned (.bool true) ∧ Below w.heap.size w w' := by
  obtain ⟨n, rt, ky⟩ := h
  have HCW : Hid (∀ W : World, Below w.heap.size w W → Calls Tryd.prog 12 #[] W fun e w' => e = .returned (.bool true) ∧ Below W.heap.size W w') := fun W hh => works11_any hO W (hK.below hh hK.lt)
  have HOH : Hid (okH (n, rt, ky)) := oh
  have HID : Hid ((Tryd.prog.info? 23).map (·.size) = some (cb seed).length ∧ (Tryd.prog.info? 23).map (·.size) = some (cb tree).length) := by rw [cb_len, hs, cb_len, ht]; exact ⟨info_digest, info_digest⟩
  obtain ⟨s, HS⟩ : ∃ c, Hid (c = (sealR seed (n, rt, ky) tree).1) := ⟨_, rfl⟩
  obtain ⟨es, HES⟩ : ∃ c, Hid (c = (sealR seed (n, rt, ky) tree).2) := ⟨_, rfl⟩
  have HOS : Hid (okS s) := by rw [HS.out]; exact seal_okS seed _ tree oh ht
  have HC1 : Hid (∀ W : World, Below w.heap.size w W → Calls Tryd.prog 9 #[.agg (cb seed).toArray, .agg (hdC (n, rt, ky)).toArray, .agg (cb tree).toArray] W fun e w' => ∃ ad m c, e = .returned (.tuple #[.agg (sgC s (.slice ad m c)).toArray, .int .i64 es]) ∧ Reads w' (.slice ad m c) s.2 ∧ (∀ k, (Value.slice ad m c).ownBlock = some k → W.heap.size ≤ k) ∧ Below W.heap.size W w') := fun W hh => by rw [HS.out, HES.out]; exact hO.seals W seed tree _ (hK.below hh hK.lt) hs oh ht
  have HC2 : Hid (∀ W : World, Below w.heap.size w W → Calls Tryd.prog 10 #[.agg (cb seed).toArray, .agg (hdC (n, rt, ky)).toArray, .agg (cb tree).toArray] W fun e w' => ∃ ad m c, e = .returned (.tuple #[.agg (sgC s (.slice ad m c)).toArray, .int .i64 es]) ∧ Reads w' (.slice ad m c) s.2 ∧ (∀ k, (Value.slice ad m c).ownBlock = some k → W.heap.size ≤ k) ∧ Below W.heap.size W w') := fun W hh => by rw [HS.out, HES.out]; exact qcSeal_fresh seed tree _ W hs oh ht
  obtain ⟨pk, HPK⟩ : ∃ c, Hid (c = pubR seed 1) := ⟨_, rfl⟩
  have HPL : Hid (pk.length = 32) := by show _ = _; rw [HPK.out]; exact len_pubR _ _
  have HC5 : Hid (∀ W : World, Below w.heap.size w W → Calls Tryd.prog 13 #[.agg (cb seed).toArray] W fun e w' => e = .returned (.agg (cb pk).toArray) ∧ Below W.heap.size W w') := fun W hh => by rw [HPK.out]; exact hO.pin W seed (hK.below hh hK.lt) hs
  have HBW : Hid (Below w.heap.size w w) := Below.refl _ _
  have HOP : Hid ChOps := hO
  have HKK : Hid (KOk w) := hK
  clear hO hK oh hs ht
  by_cases h64 : 64 ≤ n
  · have HE : Hid (es = 12) := by show _ = _; rw [HES.out, sealR, if_pos h64]
    have k1 : (es == 0) = false := by rw [HE.out]; rfl
    have k2 : (es != 0) = true := by rw [bne, k1]; rfl
    have k3 : (es == es) = true := by simp
    have k4 : (es != es) = false := by rw [bne, k3]; rfl
    clear HE h64
    go_enter Tryd.func3, Tryd.ntmps3
    have tk0 : Hid True := trivial
    have tk1 : Hid True := trivial
    have tk2 : Hid True := trivial
    have tk3 : Hid True := trivial
    have tk4 : Hid True := trivial
    have tk5 : Hid True := trivial
    have tk6 : Hid True := trivial
    have tk7 : Hid True := trivial
    have tk8 : Hid True := trivial
    have tk9 : Hid True := trivial
    have tk10 : Hid True := trivial
    have tk11 : Hid True := trivial
    have tk12 : Hid True := trivial
    have tk13 : Hid True := trivial
    have tk14 : Hid True := trivial
    have tk15 : Hid True := trivial
    have tk16 : Hid True := trivial
    have tk17 : Hid True := trivial
    have tk18 : Hid True := trivial
    go_wp2_with (first
      | (clear tk0; with_reducible refine wpSeq_boxW 23 (.tmp 0) (cb seed) ?_ ?_ ?_ ?_
         · rfl
         · rfl
         · rfl
         intro g3 y1 nn
         replace HBW : Hid (Below w.heap.size w y1) := HBW.out.trans (nn.below.mono HBW.out.size)
         have HG3 : Hid (Blk y1 g3 (cb seed) 23) := nn.blk
         clear nn)
      | (clear tk1; with_reducible refine wpSeq_boxW 26 (.tmp 1) (hdC (n, rt, ky)) ?_ ?_ ?_ ?_
         · rfl
         · rfl
         · rfl
         intro g4 y2 nn
         have HGE4 : Hid (w.heap.size ≤ g4) := Nat.le_trans HBW.out.size nn.ge
         have HN3 : Hid (g3 < g4) := by have h1 := HG3.out.lt; have h2 := nn.ge; show _ < _; omega
         replace HG3 : Hid (Blk y2 g3 (cb seed) 23) := HG3.out.below nn.below HG3.out.lt
         replace HBW : Hid (Below w.heap.size w y2) := HBW.out.trans (nn.below.mono HBW.out.size)
         have HG4 : Hid (Blk y2 g4 (hdC (n, rt, ky)) 26) := nn.blk
         clear nn)
      | (clear tk2; with_reducible refine wpSeq_boxW 23 (.tmp 2) (cb tree) ?_ ?_ ?_ ?_
         · rfl
         · rfl
         · rfl
         intro g5 y3 nn
         have HLT : Hid (g4 < g5 ∧ w.heap.size ≤ g4) := ⟨by have h1 := HG4.out.lt; have h2 := nn.ge; omega, HGE4.out⟩
         replace HG3 : Hid (Blk y3 g3 (cb seed) 23) := HG3.out.below nn.below HG3.out.lt
         replace HG4 : Hid (Blk y3 g4 (hdC (n, rt, ky)) 26) := HG4.out.below nn.below HG4.out.lt
         replace HBW : Hid (Below w.heap.size w y3) := HBW.out.trans (nn.below.mono HBW.out.size)
         have HG5 : Hid (Blk y3 g5 (cb tree) 23) := nn.blk
         clear nn)
      | (clear tk3; with_reducible refine wpSeq_loadW 23 (.tmp 3) g3 0 (cb seed) _ ?_ Tryd.underlying23 rfl ?_ ?_ ?_ ?_ ?_
         · exact HG3.out.range
         · exact HID.out.1
         · rfl
         · rfl
         · rfl)
      | (clear tk4; with_reducible refine wpSeq_loadW 26 (.tmp 4) g4 0 (hdC (n, rt, ky)) _ ?_ Tryd.underlying26 rfl ?_ ?_ ?_ ?_ ?_
         · exact HG4.out.range
         · exact info_hdC HOH.out
         · rfl
         · rfl
         · rfl)
      | (clear tk5; with_reducible refine wpSeq_loadW 23 (.tmp 5) g5 0 (cb tree) _ ?_ Tryd.underlying23 rfl ?_ ?_ ?_ ?_ ?_
         · exact HG5.out.range
         · exact HID.out.2
         · rfl
         · rfl
         · rfl)
      | (clear tk6; go_at_call 9; refine (HC1.out y3 HBW.out).mono ?_; rintro e y4 ⟨a1, n1, c1, rfl, hrd, hfr, hbz⟩
         have HF1 : Hid (∀ k, (Value.slice a1 n1 c1).ownBlock = some k → k ≠ g4) := fun k hk => by have h1 := hfr k hk; have h2 := HG4.out.lt; omega
         clear hfr
         replace HG3 : Hid (Blk y4 g3 (cb seed) 23) := HG3.out.below hbz HG3.out.lt
         replace HG4 : Hid (Blk y4 g4 (hdC (n, rt, ky)) 26) := HG4.out.below hbz HG4.out.lt
         replace HG5 : Hid (Blk y4 g5 (cb tree) 23) := HG5.out.below hbz HG5.out.lt
         replace HBW : Hid (Below w.heap.size w y4) := HBW.out.trans (hbz.mono HBW.out.size)
         have HR1 : Hid (Reads y4 (.slice a1 n1 c1) s.2) := hrd
         clear hbz hrd)
      | (clear tk7; with_reducible refine wpSeq_allocS ?_ ?_ ?_
         · rfl
         · rfl
         intro g7 y5 nn
         have HN7 : Hid (g4 < g7) := by have h4 := HG4.out.lt; have h5 := nn.ge; show _ < _; omega)
      | (clear tk8; with_reducible refine wpSeq_storeRow 31 (.tmp 7) (.tmp 20) g7 (sgC zeroS (.slice none 0 0)) (sgC s (.slice a1 n1 c1)) ?_ ?_ ?_ ?_ ?_ ?_ ?_ ?_ ?_
         · exact nn.blk
         · first | (with_reducible rfl) | rw [len_sgC HOS.out, len_sgC okS_zero]
         · exact info_sgC HOS.out _
         · exact sgC_one _ _ _ _
         · rfl
         · rfl
         · rfl
         · rfl
         intro y6 hs
         have hbz := nn.below.trans (hs.only.below nn.ge nn.below.size)
         replace HG3 : Hid (Blk y6 g3 (cb seed) 23) := HG3.out.below hbz HG3.out.lt
         replace HG4 : Hid (Blk y6 g4 (hdC (n, rt, ky)) 26) := HG4.out.below hbz HG4.out.lt
         replace HG5 : Hid (Blk y6 g5 (cb tree) 23) := HG5.out.below hbz HG5.out.lt
         replace HR1 : Hid (Reads y6 (.slice a1 n1 c1) s.2) := HR1.out.below hbz
         replace HBW : Hid (Below w.heap.size w y6) := HBW.out.trans (hbz.mono HBW.out.size)
         have HG7 : Hid (Blk y6 g7 (sgC s (.slice a1 n1 c1)) 31) := hs.blk
         clear nn hs hbz)
      | (clear tk9; with_reducible refine wpSeq_loadW 23 (.tmp 3) g3 0 (cb seed) _ ?_ Tryd.underlying23 rfl ?_ ?_ ?_ ?_ ?_
         · exact HG3.out.range
         · exact HID.out.1
         · rfl
         · rfl
         · rfl)
      | (clear tk10; with_reducible refine wpSeq_loadW 26 (.tmp 4) g4 0 (hdC (n, rt, ky)) _ ?_ Tryd.underlying26 rfl ?_ ?_ ?_ ?_ ?_
         · exact HG4.out.range
         · exact info_hdC HOH.out
         · rfl
         · rfl
         · rfl)
      | (clear tk11; with_reducible refine wpSeq_loadW 23 (.tmp 5) g5 0 (cb tree) _ ?_ Tryd.underlying23 rfl ?_ ?_ ?_ ?_ ?_
         · exact HG5.out.range
         · exact HID.out.2
         · rfl
         · rfl
         · rfl)
      | (clear tk12; go_at_call 10; refine (HC2.out y6 HBW.out).mono ?_; rintro e y7 ⟨a2, n2, c2, rfl, hrd, hfr, hbz⟩
         have HF2 : Hid (∀ k, (Value.slice a2 n2 c2).ownBlock = some k → k ≠ g4) := fun k hk => by have h1 := hfr k hk; have h2 := HG4.out.lt; omega
         clear hfr
         replace HG3 : Hid (Blk y7 g3 (cb seed) 23) := HG3.out.below hbz HG3.out.lt
         replace HG4 : Hid (Blk y7 g4 (hdC (n, rt, ky)) 26) := HG4.out.below hbz HG4.out.lt
         replace HG5 : Hid (Blk y7 g5 (cb tree) 23) := HG5.out.below hbz HG5.out.lt
         replace HG7 : Hid (Blk y7 g7 (sgC s (.slice a1 n1 c1)) 31) := HG7.out.below hbz HG7.out.lt
         replace HR1 : Hid (Reads y7 (.slice a1 n1 c1) s.2) := HR1.out.below hbz
         replace HBW : Hid (Below w.heap.size w y7) := HBW.out.trans (hbz.mono HBW.out.size)
         have HR2 : Hid (Reads y7 (.slice a2 n2 c2) s.2) := hrd
         clear hbz hrd)
      | (clear tk13; with_reducible refine wpSeq_allocS ?_ ?_ ?_
         · rfl
         · rfl
         intro g9 y8 nn
         have HN4 : Hid (g3 < g4 ∧ g4 < g5 ∧ g4 < g7 ∧ g4 < g9) := by have h1 := HN3.out; have h2 := HLT.out.1; have h3 := HN7.out; have h4 := HG4.out.lt; have h5 := nn.ge; exact ⟨by omega, by omega, by omega, by omega⟩)
      | (clear tk14; with_reducible refine wpSeq_storeRow 31 (.tmp 9) (.tmp 27) g9 (sgC zeroS (.slice none 0 0)) (sgC s (.slice a2 n2 c2)) ?_ ?_ ?_ ?_ ?_ ?_ ?_ ?_ ?_
         · exact nn.blk
         · first | (with_reducible rfl) | rw [len_sgC HOS.out, len_sgC okS_zero]
         · exact info_sgC HOS.out _
         · exact sgC_one _ _ _ _
         · rfl
         · rfl
         · rfl
         · rfl
         intro y9 hs
         have hbz := nn.below.trans (hs.only.below nn.ge nn.below.size)
         replace HG3 : Hid (Blk y9 g3 (cb seed) 23) := HG3.out.below hbz HG3.out.lt
         replace HG4 : Hid (Blk y9 g4 (hdC (n, rt, ky)) 26) := HG4.out.below hbz HG4.out.lt
         replace HG5 : Hid (Blk y9 g5 (cb tree) 23) := HG5.out.below hbz HG5.out.lt
         replace HG7 : Hid (Blk y9 g7 (sgC s (.slice a1 n1 c1)) 31) := HG7.out.below hbz HG7.out.lt
         replace HR1 : Hid (Reads y9 (.slice a1 n1 c1) s.2) := HR1.out.below hbz
         replace HR2 : Hid (Reads y9 (.slice a2 n2 c2) s.2) := HR2.out.below hbz
         replace HBW : Hid (Below w.heap.size w y9) := HBW.out.trans (hbz.mono HBW.out.size)
         have HG9 : Hid (Blk y9 g9 (sgC s (.slice a2 n2 c2)) 31) := hs.blk
         clear nn hs hbz)
      | (clear tk15; with_reducible refine wpSeq_loadW 31 (.tmp 7) g7 0 (sgC s (.slice a1 n1 c1)) _ ?_ Tryd.underlying31 rfl ?_ ?_ ?_ ?_ ?_
         · exact HG7.out.range
         · exact info_sgC HOS.out _
         · rfl
         · rfl
         · rfl)
      | (clear tk16; with_reducible refine wpSeq_loadW 31 (.tmp 9) g9 0 (sgC s (.slice a2 n2 c2)) _ ?_ Tryd.underlying31 rfl ?_ ?_ ?_ ?_ ?_
         · exact HG9.out.range
         · exact info_sgC HOS.out _
         · rfl
         · rfl
         · rfl)
      | (clear tk17; go_at_call 11; refine (sameS_any s _ _ y9 HOS.out HR1.out HR2.out).mono ?_; rintro e y10 ⟨rfl, hbz⟩
         replace HG3 : Hid (Blk y10 g3 (cb seed) 23) := HG3.out.below hbz HG3.out.lt
         replace HG4 : Hid (Blk y10 g4 (hdC (n, rt, ky)) 26) := HG4.out.below hbz HG4.out.lt
         replace HG5 : Hid (Blk y10 g5 (cb tree) 23) := HG5.out.below hbz HG5.out.lt
         replace HG7 : Hid (Blk y10 g7 (sgC s (.slice a1 n1 c1)) 31) := HG7.out.below hbz HG7.out.lt
         replace HG9 : Hid (Blk y10 g9 (sgC s (.slice a2 n2 c2)) 31) := HG9.out.below hbz HG9.out.lt
         replace HR1 : Hid (Reads y10 (.slice a1 n1 c1) s.2) := HR1.out.below hbz
         replace HR2 : Hid (Reads y10 (.slice a2 n2 c2) s.2) := HR2.out.below hbz
         replace HBW : Hid (Below w.heap.size w y10) := HBW.out.trans (hbz.mono HBW.out.size)
         clear hbz )
      | (clear tk18; go_at_call 12; refine (HCW.out y10 HBW.out).mono ?_; rintro e y11 ⟨rfl, hbz⟩
         replace HG3 : Hid (Blk y11 g3 (cb seed) 23) := HG3.out.below hbz HG3.out.lt
         replace HG4 : Hid (Blk y11 g4 (hdC (n, rt, ky)) 26) := HG4.out.below hbz HG4.out.lt
         replace HG5 : Hid (Blk y11 g5 (cb tree) 23) := HG5.out.below hbz HG5.out.lt
         replace HG7 : Hid (Blk y11 g7 (sgC s (.slice a1 n1 c1)) 31) := HG7.out.below hbz HG7.out.lt
         replace HG9 : Hid (Blk y11 g9 (sgC s (.slice a2 n2 c2)) 31) := HG9.out.below hbz HG9.out.lt
         replace HR1 : Hid (Reads y11 (.slice a1 n1 c1) s.2) := HR1.out.below hbz
         replace HR2 : Hid (Reads y11 (.slice a2 n2 c2) s.2) := HR2.out.below hbz
         replace HBW : Hid (Below w.heap.size w y11) := HBW.out.trans (hbz.mono HBW.out.size)
         clear hbz ))
    go_ret
    first | exact ⟨rfl, HBW.out⟩ | exact ⟨trivial, HBW.out⟩
  have HE : Hid (es = 0) := by show _ = _; rw [HES.out, sealR, if_neg h64]
  have k1 : (es == 0) = true := by rw [HE.out]; rfl
  have k2 : (es != 0) = false := by rw [bne, k1]; rfl
  have k3 : (es == es) = true := by simp
  have k4 : (es != es) = false := by rw [bne, k3]; rfl
  have HL64 : Hid (n < 64) := Nat.lt_of_not_le h64
  clear HE h64
  by_cases hn0 : n = 0
  · have HOK : Hid (okH (n, rt, pk)) := okH_mk HOH.out.1 HPL.out HOH.out.2.2
    obtain ⟨hf, HHF⟩ : ∃ c, Hid (c = (followR (n, rt, pk) s).1) := ⟨_, rfl⟩
    obtain ⟨ef, HEF⟩ : ∃ c, Hid (c = (followR (n, rt, pk) s).2) := ⟨_, rfl⟩
    have HOF : Hid (okH hf) := by rw [HHF.out]; exact follow_okH _ s HOS.out
    have HC3 : Hid (∀ (W : World) (vs : Value), Below w.heap.size w W → Reads W vs s.2 → Calls Tryd.prog 14 #[.agg (hdC (n, rt, pk)).toArray, .agg (sgC s vs).toArray] W fun e w' => e = .returned (.tuple #[.agg (hdC hf).toArray, .int .i64 ef]) ∧ Below W.heap.size W w') := fun W vs hh hr => by rw [HHF.out, HEF.out]; exact HOP.out.follow W _ s vs (HKK.out.below hh HKK.out.lt) HOK.out HOS.out hr
    have HC4 : Hid (∀ (W : World) (vs : Value), Below w.heap.size w W → Reads W vs s.2 → Calls Tryd.prog 15 #[.agg (hdC (n, rt, pk)).toArray, .agg (sgC s vs).toArray] W fun e w' => e = .returned (.tuple #[.agg (hdC hf).toArray, .int .i64 ef]) ∧ Below W.heap.size W w') := fun W vs hh hr => by rw [HHF.out, HEF.out]; exact qcFollow_any _ s vs W HOK.out HOS.out hr
    have HEZ : Hid (ef = 0) := by
      show _ = _
      rw [HEF.out, HS.out]
      have hq := seal_follow seed (n, rt, pk) tree (by show pk = _; rw [HPK.out, hn0]) HL64.out
      have e : sealR seed (n, rt, ky) tree = sealR seed (n, rt, pk) tree := by unfold sealR; rfl
      rw [e, hq]
    have m1 : ((n : Int) == 0) = true := by rw [hn0]; rfl
    have m2 : ((n : Int) != 0) = false := by rw [bne, m1]; rfl
    have m3 : (ef == 0) = true := by rw [HEZ.out]; rfl
    have m4 : (ef == ef) = true := by simp
    clear hn0 HEZ HEF HHF HS HES HPK
    go_enter Tryd.func3, Tryd.ntmps3
    have tk0 : Hid True := trivial
    have tk1 : Hid True := trivial
    have tk2 : Hid True := trivial
    have tk3 : Hid True := trivial
    have tk4 : Hid True := trivial
    have tk5 : Hid True := trivial
    have tk6 : Hid True := trivial
    have tk7 : Hid True := trivial
    have tk8 : Hid True := trivial
    have tk9 : Hid True := trivial
    have tk10 : Hid True := trivial
    have tk11 : Hid True := trivial
    have tk12 : Hid True := trivial
    have tk13 : Hid True := trivial
    have tk14 : Hid True := trivial
    have tk15 : Hid True := trivial
    have tk16 : Hid True := trivial
    have tk17 : Hid True := trivial
    have tk18 : Hid True := trivial
    have tk19 : Hid True := trivial
    have tk20 : Hid True := trivial
    have tk21 : Hid True := trivial
    have tk22 : Hid True := trivial
    have tk23 : Hid True := trivial
    have tk24 : Hid True := trivial
    have tk25 : Hid True := trivial
    have tk26 : Hid True := trivial
    have tk27 : Hid True := trivial
    have tk28 : Hid True := trivial
    have tk29 : Hid True := trivial
    have tk30 : Hid True := trivial
    have tk31 : Hid True := trivial
    have tk32 : Hid True := trivial
    have tk33 : Hid True := trivial
    have tk34 : Hid True := trivial
    go_wp2_with (first
      | (clear tk0; with_reducible refine wpSeq_boxW 23 (.tmp 0) (cb seed) ?_ ?_ ?_ ?_
         · rfl
         · rfl
         · rfl
         intro g3 y1 nn
         replace HBW : Hid (Below w.heap.size w y1) := HBW.out.trans (nn.below.mono HBW.out.size)
         have HG3 : Hid (Blk y1 g3 (cb seed) 23) := nn.blk
         clear nn)
      | (clear tk1; with_reducible refine wpSeq_boxW 26 (.tmp 1) (hdC (n, rt, ky)) ?_ ?_ ?_ ?_
         · rfl
         · rfl
         · rfl
         intro g4 y2 nn
         have HGE4 : Hid (w.heap.size ≤ g4) := Nat.le_trans HBW.out.size nn.ge
         have HN3 : Hid (g3 < g4) := by have h1 := HG3.out.lt; have h2 := nn.ge; show _ < _; omega
         replace HG3 : Hid (Blk y2 g3 (cb seed) 23) := HG3.out.below nn.below HG3.out.lt
         replace HBW : Hid (Below w.heap.size w y2) := HBW.out.trans (nn.below.mono HBW.out.size)
         have HG4 : Hid (Blk y2 g4 (hdC (n, rt, ky)) 26) := nn.blk
         clear nn)
      | (clear tk2; with_reducible refine wpSeq_boxW 23 (.tmp 2) (cb tree) ?_ ?_ ?_ ?_
         · rfl
         · rfl
         · rfl
         intro g5 y3 nn
         have HLT : Hid (g4 < g5 ∧ w.heap.size ≤ g4) := ⟨by have h1 := HG4.out.lt; have h2 := nn.ge; omega, HGE4.out⟩
         replace HG3 : Hid (Blk y3 g3 (cb seed) 23) := HG3.out.below nn.below HG3.out.lt
         replace HG4 : Hid (Blk y3 g4 (hdC (n, rt, ky)) 26) := HG4.out.below nn.below HG4.out.lt
         replace HBW : Hid (Below w.heap.size w y3) := HBW.out.trans (nn.below.mono HBW.out.size)
         have HG5 : Hid (Blk y3 g5 (cb tree) 23) := nn.blk
         clear nn)
      | (clear tk3; with_reducible refine wpSeq_loadW 23 (.tmp 3) g3 0 (cb seed) _ ?_ Tryd.underlying23 rfl ?_ ?_ ?_ ?_ ?_
         · exact HG3.out.range
         · exact HID.out.1
         · rfl
         · rfl
         · rfl)
      | (clear tk4; with_reducible refine wpSeq_loadW 26 (.tmp 4) g4 0 (hdC (n, rt, ky)) _ ?_ Tryd.underlying26 rfl ?_ ?_ ?_ ?_ ?_
         · exact HG4.out.range
         · exact info_hdC HOH.out
         · rfl
         · rfl
         · rfl)
      | (clear tk5; with_reducible refine wpSeq_loadW 23 (.tmp 5) g5 0 (cb tree) _ ?_ Tryd.underlying23 rfl ?_ ?_ ?_ ?_ ?_
         · exact HG5.out.range
         · exact HID.out.2
         · rfl
         · rfl
         · rfl)
      | (clear tk6; go_at_call 9; refine (HC1.out y3 HBW.out).mono ?_; rintro e y4 ⟨a1, n1, c1, rfl, hrd, hfr, hbz⟩
         have HF1 : Hid (∀ k, (Value.slice a1 n1 c1).ownBlock = some k → k ≠ g4) := fun k hk => by have h1 := hfr k hk; have h2 := HG4.out.lt; omega
         clear hfr
         replace HG3 : Hid (Blk y4 g3 (cb seed) 23) := HG3.out.below hbz HG3.out.lt
         replace HG4 : Hid (Blk y4 g4 (hdC (n, rt, ky)) 26) := HG4.out.below hbz HG4.out.lt
         replace HG5 : Hid (Blk y4 g5 (cb tree) 23) := HG5.out.below hbz HG5.out.lt
         replace HBW : Hid (Below w.heap.size w y4) := HBW.out.trans (hbz.mono HBW.out.size)
         have HR1 : Hid (Reads y4 (.slice a1 n1 c1) s.2) := hrd
         clear hbz hrd)
      | (clear tk7; with_reducible refine wpSeq_allocS ?_ ?_ ?_
         · rfl
         · rfl
         intro g7 y5 nn
         have HN7 : Hid (g4 < g7) := by have h4 := HG4.out.lt; have h5 := nn.ge; show _ < _; omega)
      | (clear tk8; with_reducible refine wpSeq_storeRow 31 (.tmp 7) (.tmp 20) g7 (sgC zeroS (.slice none 0 0)) (sgC s (.slice a1 n1 c1)) ?_ ?_ ?_ ?_ ?_ ?_ ?_ ?_ ?_
         · exact nn.blk
         · first | (with_reducible rfl) | rw [len_sgC HOS.out, len_sgC okS_zero]
         · exact info_sgC HOS.out _
         · exact sgC_one _ _ _ _
         · rfl
         · rfl
         · rfl
         · rfl
         intro y6 hs
         have hbz := nn.below.trans (hs.only.below nn.ge nn.below.size)
         replace HG3 : Hid (Blk y6 g3 (cb seed) 23) := HG3.out.below hbz HG3.out.lt
         replace HG4 : Hid (Blk y6 g4 (hdC (n, rt, ky)) 26) := HG4.out.below hbz HG4.out.lt
         replace HG5 : Hid (Blk y6 g5 (cb tree) 23) := HG5.out.below hbz HG5.out.lt
         replace HR1 : Hid (Reads y6 (.slice a1 n1 c1) s.2) := HR1.out.below hbz
         replace HBW : Hid (Below w.heap.size w y6) := HBW.out.trans (hbz.mono HBW.out.size)
         have HG7 : Hid (Blk y6 g7 (sgC s (.slice a1 n1 c1)) 31) := hs.blk
         clear nn hs hbz)
      | (clear tk9; with_reducible refine wpSeq_loadW 23 (.tmp 3) g3 0 (cb seed) _ ?_ Tryd.underlying23 rfl ?_ ?_ ?_ ?_ ?_
         · exact HG3.out.range
         · exact HID.out.1
         · rfl
         · rfl
         · rfl)
      | (clear tk10; with_reducible refine wpSeq_loadW 26 (.tmp 4) g4 0 (hdC (n, rt, ky)) _ ?_ Tryd.underlying26 rfl ?_ ?_ ?_ ?_ ?_
         · exact HG4.out.range
         · exact info_hdC HOH.out
         · rfl
         · rfl
         · rfl)
      | (clear tk11; with_reducible refine wpSeq_loadW 23 (.tmp 5) g5 0 (cb tree) _ ?_ Tryd.underlying23 rfl ?_ ?_ ?_ ?_ ?_
         · exact HG5.out.range
         · exact HID.out.2
         · rfl
         · rfl
         · rfl)
      | (clear tk12; go_at_call 10; refine (HC2.out y6 HBW.out).mono ?_; rintro e y7 ⟨a2, n2, c2, rfl, hrd, hfr, hbz⟩
         have HF2 : Hid (∀ k, (Value.slice a2 n2 c2).ownBlock = some k → k ≠ g4) := fun k hk => by have h1 := hfr k hk; have h2 := HG4.out.lt; omega
         clear hfr
         replace HG3 : Hid (Blk y7 g3 (cb seed) 23) := HG3.out.below hbz HG3.out.lt
         replace HG4 : Hid (Blk y7 g4 (hdC (n, rt, ky)) 26) := HG4.out.below hbz HG4.out.lt
         replace HG5 : Hid (Blk y7 g5 (cb tree) 23) := HG5.out.below hbz HG5.out.lt
         replace HG7 : Hid (Blk y7 g7 (sgC s (.slice a1 n1 c1)) 31) := HG7.out.below hbz HG7.out.lt
         replace HR1 : Hid (Reads y7 (.slice a1 n1 c1) s.2) := HR1.out.below hbz
         replace HBW : Hid (Below w.heap.size w y7) := HBW.out.trans (hbz.mono HBW.out.size)
         have HR2 : Hid (Reads y7 (.slice a2 n2 c2) s.2) := hrd
         clear hbz hrd)
      | (clear tk13; with_reducible refine wpSeq_allocS ?_ ?_ ?_
         · rfl
         · rfl
         intro g9 y8 nn
         have HN4 : Hid (g3 < g4 ∧ g4 < g5 ∧ g4 < g7 ∧ g4 < g9) := by have h1 := HN3.out; have h2 := HLT.out.1; have h3 := HN7.out; have h4 := HG4.out.lt; have h5 := nn.ge; exact ⟨by omega, by omega, by omega, by omega⟩)
      | (clear tk14; with_reducible refine wpSeq_storeRow 31 (.tmp 9) (.tmp 27) g9 (sgC zeroS (.slice none 0 0)) (sgC s (.slice a2 n2 c2)) ?_ ?_ ?_ ?_ ?_ ?_ ?_ ?_ ?_
         · exact nn.blk
         · first | (with_reducible rfl) | rw [len_sgC HOS.out, len_sgC okS_zero]
         · exact info_sgC HOS.out _
         · exact sgC_one _ _ _ _
         · rfl
         · rfl
         · rfl
         · rfl
         intro y9 hs
         have hbz := nn.below.trans (hs.only.below nn.ge nn.below.size)
         replace HG3 : Hid (Blk y9 g3 (cb seed) 23) := HG3.out.below hbz HG3.out.lt
         replace HG4 : Hid (Blk y9 g4 (hdC (n, rt, ky)) 26) := HG4.out.below hbz HG4.out.lt
         replace HG5 : Hid (Blk y9 g5 (cb tree) 23) := HG5.out.below hbz HG5.out.lt
         replace HG7 : Hid (Blk y9 g7 (sgC s (.slice a1 n1 c1)) 31) := HG7.out.below hbz HG7.out.lt
         replace HR1 : Hid (Reads y9 (.slice a1 n1 c1) s.2) := HR1.out.below hbz
         replace HR2 : Hid (Reads y9 (.slice a2 n2 c2) s.2) := HR2.out.below hbz
         replace HBW : Hid (Below w.heap.size w y9) := HBW.out.trans (hbz.mono HBW.out.size)
         have HG9 : Hid (Blk y9 g9 (sgC s (.slice a2 n2 c2)) 31) := hs.blk
         clear nn hs hbz)
      | (clear tk15; with_reducible refine wpSeq_loadW 31 (.tmp 7) g7 0 (sgC s (.slice a1 n1 c1)) _ ?_ Tryd.underlying31 rfl ?_ ?_ ?_ ?_ ?_
         · exact HG7.out.range
         · exact info_sgC HOS.out _
         · rfl
         · rfl
         · rfl)
      | (clear tk16; with_reducible refine wpSeq_loadW 31 (.tmp 9) g9 0 (sgC s (.slice a2 n2 c2)) _ ?_ Tryd.underlying31 rfl ?_ ?_ ?_ ?_ ?_
         · exact HG9.out.range
         · exact info_sgC HOS.out _
         · rfl
         · rfl
         · rfl)
      | (clear tk17; go_at_call 11; refine (sameS_any s _ _ y9 HOS.out HR1.out HR2.out).mono ?_; rintro e y10 ⟨rfl, hbz⟩
         replace HG3 : Hid (Blk y10 g3 (cb seed) 23) := HG3.out.below hbz HG3.out.lt
         replace HG4 : Hid (Blk y10 g4 (hdC (n, rt, ky)) 26) := HG4.out.below hbz HG4.out.lt
         replace HG5 : Hid (Blk y10 g5 (cb tree) 23) := HG5.out.below hbz HG5.out.lt
         replace HG7 : Hid (Blk y10 g7 (sgC s (.slice a1 n1 c1)) 31) := HG7.out.below hbz HG7.out.lt
         replace HG9 : Hid (Blk y10 g9 (sgC s (.slice a2 n2 c2)) 31) := HG9.out.below hbz HG9.out.lt
         replace HR1 : Hid (Reads y10 (.slice a1 n1 c1) s.2) := HR1.out.below hbz
         replace HR2 : Hid (Reads y10 (.slice a2 n2 c2) s.2) := HR2.out.below hbz
         replace HBW : Hid (Below w.heap.size w y10) := HBW.out.trans (hbz.mono HBW.out.size)
         clear hbz )
      | (clear tk18; with_reducible refine wpSeq_loadW 23 (.tmp 3) g3 0 (cb seed) _ ?_ Tryd.underlying23 rfl ?_ ?_ ?_ ?_ ?_
         · exact HG3.out.range
         · exact HID.out.1
         · rfl
         · rfl
         · rfl)
      | (clear tk19; go_at_call 13; refine (HC5.out y10 HBW.out).mono ?_; rintro e y11 ⟨rfl, hbz⟩
         replace HG3 : Hid (Blk y11 g3 (cb seed) 23) := HG3.out.below hbz HG3.out.lt
         replace HG4 : Hid (Blk y11 g4 (hdC (n, rt, ky)) 26) := HG4.out.below hbz HG4.out.lt
         replace HG5 : Hid (Blk y11 g5 (cb tree) 23) := HG5.out.below hbz HG5.out.lt
         replace HG7 : Hid (Blk y11 g7 (sgC s (.slice a1 n1 c1)) 31) := HG7.out.below hbz HG7.out.lt
         replace HG9 : Hid (Blk y11 g9 (sgC s (.slice a2 n2 c2)) 31) := HG9.out.below hbz HG9.out.lt
         replace HR1 : Hid (Reads y11 (.slice a1 n1 c1) s.2) := HR1.out.below hbz
         replace HR2 : Hid (Reads y11 (.slice a2 n2 c2) s.2) := HR2.out.below hbz
         replace HBW : Hid (Below w.heap.size w y11) := HBW.out.trans (hbz.mono HBW.out.size)
         clear hbz )
      | (clear tk20; with_reducible refine wpSeq_storeKey (.tmp 43) (.tmp 42) g4 n rt ky pk ?_ ?_ ?_ ?_ ?_ ?_ ?_ ?_ ?_
         · exact HG4.out
         · exact HOH.out.1
         · exact HOH.out.2.1
         · exact HPL.out
         · rfl
         · rfl
         · rfl
         · rfl
         intro y12 hs
         have HXX : Hid (g4 < g5 ∧ w.heap.size ≤ g4) := HLT.out
         replace HG3 : Hid (Blk y12 g3 (cb seed) 23) := HG3.out.only hs.only (by have := HN4.out; omega)
         replace HG5 : Hid (Blk y12 g5 (cb tree) 23) := HG5.out.only hs.only (by have := HN4.out; omega)
         replace HG7 : Hid (Blk y12 g7 (sgC s (.slice a1 n1 c1)) 31) := HG7.out.only hs.only (by have := HN4.out; omega)
         replace HG9 : Hid (Blk y12 g9 (sgC s (.slice a2 n2 c2)) 31) := HG9.out.only hs.only (by have := HN4.out; omega)
         replace HR1 : Hid (Reads y12 (.slice a1 n1 c1) s.2) := HR1.out.apartB hs.only (HF1.out)
         replace HR2 : Hid (Reads y12 (.slice a2 n2 c2) s.2) := HR2.out.apartB hs.only (HF2.out)
         replace HG4 : Hid (Blk y12 g4 (hdC (n, rt, pk)) 26) := hs.blk
         replace HBW : Hid (Below w.heap.size w y12) := HBW.out.trans (hs.only.below HLT.out.2 HBW.out.size)
         have ce : y12.cell? ⟨g4, 0, none⟩ = some (.int .u64 (n : Int)) := HG4.out.cell 0
         clear hs HXX)
      | (clear tk21; with_reducible refine wpSeq_loadW 26 (.tmp 4) g4 0 (hdC (n, rt, pk)) _ ?_ Tryd.underlying26 rfl ?_ ?_ ?_ ?_ ?_
         · exact HG4.out.range
         · exact info_hdC HOK.out
         · rfl
         · rfl
         · rfl)
      | (clear tk22; with_reducible refine wpSeq_loadW 31 (.tmp 7) g7 0 (sgC s (.slice a1 n1 c1)) _ ?_ Tryd.underlying31 rfl ?_ ?_ ?_ ?_ ?_
         · exact HG7.out.range
         · exact info_sgC HOS.out _
         · rfl
         · rfl
         · rfl)
      | (clear tk23; go_at_call 14; refine (HC3.out y12 _ HBW.out HR1.out).mono ?_; rintro e y13 ⟨rfl, hbz⟩
         clear ce
         replace HG3 : Hid (Blk y13 g3 (cb seed) 23) := HG3.out.below hbz HG3.out.lt
         replace HG4 : Hid (Blk y13 g4 (hdC (n, rt, pk)) 26) := HG4.out.below hbz HG4.out.lt
         replace HG5 : Hid (Blk y13 g5 (cb tree) 23) := HG5.out.below hbz HG5.out.lt
         replace HG7 : Hid (Blk y13 g7 (sgC s (.slice a1 n1 c1)) 31) := HG7.out.below hbz HG7.out.lt
         replace HG9 : Hid (Blk y13 g9 (sgC s (.slice a2 n2 c2)) 31) := HG9.out.below hbz HG9.out.lt
         replace HR1 : Hid (Reads y13 (.slice a1 n1 c1) s.2) := HR1.out.below hbz
         replace HR2 : Hid (Reads y13 (.slice a2 n2 c2) s.2) := HR2.out.below hbz
         replace HBW : Hid (Below w.heap.size w y13) := HBW.out.trans (hbz.mono HBW.out.size)
         clear hbz )
      | (clear tk24; with_reducible refine wpSeq_allocH ?_ ?_ ?_
         · rfl
         · rfl
         intro g11 y14 nn)
      | (clear tk25; with_reducible refine wpSeq_storeRow 26 (.tmp 11) (.tmp 53) g11 (hdC zeroH) (hdC hf) ?_ ?_ ?_ ?_ ?_ ?_ ?_ ?_ ?_
         · exact nn.blk
         · first | (with_reducible rfl) | rw [len_hdC HOF.out, len_hdC okH_zero]
         · exact info_hdC HOF.out
         · exact hdC_one _
         · rfl
         · rfl
         · rfl
         · rfl
         intro y15 hs
         have hbz := nn.below.trans (hs.only.below nn.ge nn.below.size)
         replace HG3 : Hid (Blk y15 g3 (cb seed) 23) := HG3.out.below hbz HG3.out.lt
         replace HG4 : Hid (Blk y15 g4 (hdC (n, rt, pk)) 26) := HG4.out.below hbz HG4.out.lt
         replace HG5 : Hid (Blk y15 g5 (cb tree) 23) := HG5.out.below hbz HG5.out.lt
         replace HG7 : Hid (Blk y15 g7 (sgC s (.slice a1 n1 c1)) 31) := HG7.out.below hbz HG7.out.lt
         replace HG9 : Hid (Blk y15 g9 (sgC s (.slice a2 n2 c2)) 31) := HG9.out.below hbz HG9.out.lt
         replace HR1 : Hid (Reads y15 (.slice a1 n1 c1) s.2) := HR1.out.below hbz
         replace HR2 : Hid (Reads y15 (.slice a2 n2 c2) s.2) := HR2.out.below hbz
         replace HBW : Hid (Below w.heap.size w y15) := HBW.out.trans (hbz.mono HBW.out.size)
         have HG11 : Hid (Blk y15 g11 (hdC hf) 26) := hs.blk
         clear nn hs hbz)
      | (clear tk26; with_reducible refine wpSeq_loadW 26 (.tmp 4) g4 0 (hdC (n, rt, pk)) _ ?_ Tryd.underlying26 rfl ?_ ?_ ?_ ?_ ?_
         · exact HG4.out.range
         · exact info_hdC HOK.out
         · rfl
         · rfl
         · rfl)
      | (clear tk27; with_reducible refine wpSeq_loadW 31 (.tmp 9) g9 0 (sgC s (.slice a2 n2 c2)) _ ?_ Tryd.underlying31 rfl ?_ ?_ ?_ ?_ ?_
         · exact HG9.out.range
         · exact info_sgC HOS.out _
         · rfl
         · rfl
         · rfl)
      | (clear tk28; go_at_call 15; refine (HC4.out y15 _ HBW.out HR2.out).mono ?_; rintro e y16 ⟨rfl, hbz⟩
         replace HG3 : Hid (Blk y16 g3 (cb seed) 23) := HG3.out.below hbz HG3.out.lt
         replace HG4 : Hid (Blk y16 g4 (hdC (n, rt, pk)) 26) := HG4.out.below hbz HG4.out.lt
         replace HG5 : Hid (Blk y16 g5 (cb tree) 23) := HG5.out.below hbz HG5.out.lt
         replace HG7 : Hid (Blk y16 g7 (sgC s (.slice a1 n1 c1)) 31) := HG7.out.below hbz HG7.out.lt
         replace HG9 : Hid (Blk y16 g9 (sgC s (.slice a2 n2 c2)) 31) := HG9.out.below hbz HG9.out.lt
         replace HG11 : Hid (Blk y16 g11 (hdC hf) 26) := HG11.out.below hbz HG11.out.lt
         replace HR1 : Hid (Reads y16 (.slice a1 n1 c1) s.2) := HR1.out.below hbz
         replace HR2 : Hid (Reads y16 (.slice a2 n2 c2) s.2) := HR2.out.below hbz
         replace HBW : Hid (Below w.heap.size w y16) := HBW.out.trans (hbz.mono HBW.out.size)
         clear hbz )
      | (clear tk29; with_reducible refine wpSeq_allocH ?_ ?_ ?_
         · rfl
         · rfl
         intro g13 y17 nn)
      | (clear tk30; with_reducible refine wpSeq_storeRow 26 (.tmp 13) (.tmp 59) g13 (hdC zeroH) (hdC hf) ?_ ?_ ?_ ?_ ?_ ?_ ?_ ?_ ?_
         · exact nn.blk
         · first | (with_reducible rfl) | rw [len_hdC HOF.out, len_hdC okH_zero]
         · exact info_hdC HOF.out
         · exact hdC_one _
         · rfl
         · rfl
         · rfl
         · rfl
         intro y18 hs
         have hbz := nn.below.trans (hs.only.below nn.ge nn.below.size)
         replace HG3 : Hid (Blk y18 g3 (cb seed) 23) := HG3.out.below hbz HG3.out.lt
         replace HG4 : Hid (Blk y18 g4 (hdC (n, rt, pk)) 26) := HG4.out.below hbz HG4.out.lt
         replace HG5 : Hid (Blk y18 g5 (cb tree) 23) := HG5.out.below hbz HG5.out.lt
         replace HG7 : Hid (Blk y18 g7 (sgC s (.slice a1 n1 c1)) 31) := HG7.out.below hbz HG7.out.lt
         replace HG9 : Hid (Blk y18 g9 (sgC s (.slice a2 n2 c2)) 31) := HG9.out.below hbz HG9.out.lt
         replace HG11 : Hid (Blk y18 g11 (hdC hf) 26) := HG11.out.below hbz HG11.out.lt
         replace HR1 : Hid (Reads y18 (.slice a1 n1 c1) s.2) := HR1.out.below hbz
         replace HR2 : Hid (Reads y18 (.slice a2 n2 c2) s.2) := HR2.out.below hbz
         replace HBW : Hid (Below w.heap.size w y18) := HBW.out.trans (hbz.mono HBW.out.size)
         have HG13 : Hid (Blk y18 g13 (hdC hf) 26) := hs.blk
         have ce2 : y18.cell? ⟨g4, 0, none⟩ = some (.int .u64 (n : Int)) := HG4.out.cell 0
         clear nn hs hbz)
      | (clear tk31; with_reducible refine wpSeq_loadW 26 (.tmp 11) g11 0 (hdC hf) _ ?_ Tryd.underlying26 rfl ?_ ?_ ?_ ?_ ?_
         · exact HG11.out.range
         · exact info_hdC HOF.out
         · rfl
         · rfl
         · rfl)
      | (clear tk32; with_reducible refine wpSeq_loadW 26 (.tmp 13) g13 0 (hdC hf) _ ?_ Tryd.underlying26 rfl ?_ ?_ ?_ ?_ ?_
         · exact HG13.out.range
         · exact info_hdC HOF.out
         · rfl
         · rfl
         · rfl)
      | (clear tk33; with_reducible refine wpSeq_eqH (.tmp 61) (.tmp 62) hf hf HOF.out HOF.out true ?_ ?_ ?_ ?_ ?_ ?_
         · exact (decide_eq_true rfl).symm
         · rfl
         · rfl
         · rfl
         · rfl)
      | (clear tk34; go_at_call 12; refine (HCW.out y18 HBW.out).mono ?_; rintro e y19 ⟨rfl, hbz⟩
         replace HG3 : Hid (Blk y19 g3 (cb seed) 23) := HG3.out.below hbz HG3.out.lt
         replace HG4 : Hid (Blk y19 g4 (hdC (n, rt, pk)) 26) := HG4.out.below hbz HG4.out.lt
         replace HG5 : Hid (Blk y19 g5 (cb tree) 23) := HG5.out.below hbz HG5.out.lt
         replace HG7 : Hid (Blk y19 g7 (sgC s (.slice a1 n1 c1)) 31) := HG7.out.below hbz HG7.out.lt
         replace HG9 : Hid (Blk y19 g9 (sgC s (.slice a2 n2 c2)) 31) := HG9.out.below hbz HG9.out.lt
         replace HG11 : Hid (Blk y19 g11 (hdC hf) 26) := HG11.out.below hbz HG11.out.lt
         replace HG13 : Hid (Blk y19 g13 (hdC hf) 26) := HG13.out.below hbz HG13.out.lt
         replace HR1 : Hid (Reads y19 (.slice a1 n1 c1) s.2) := HR1.out.below hbz
         replace HR2 : Hid (Reads y19 (.slice a2 n2 c2) s.2) := HR2.out.below hbz
         replace HBW : Hid (Below w.heap.size w y19) := HBW.out.trans (hbz.mono HBW.out.size)
         clear hbz ))
    go_ret
    first | exact ⟨rfl, HBW.out⟩ | exact ⟨trivial, HBW.out⟩
  · have HOK : Hid (okH (n, rt, zb32)) := okH_mk HOH.out.1 rfl HOH.out.2.2
    obtain ⟨hf, HHF⟩ : ∃ c, Hid (c = (followR (n, rt, zb32) s).1) := ⟨_, rfl⟩
    obtain ⟨ef, HEF⟩ : ∃ c, Hid (c = (followR (n, rt, zb32) s).2) := ⟨_, rfl⟩
    have HOF : Hid (okH hf) := by rw [HHF.out]; exact follow_okH _ s HOS.out
    have HC3 : Hid (∀ (W : World) (vs : Value), Below w.heap.size w W → Reads W vs s.2 → Calls Tryd.prog 14 #[.agg (hdC (n, rt, zb32)).toArray, .agg (sgC s vs).toArray] W fun e w' => e = .returned (.tuple #[.agg (hdC hf).toArray, .int .i64 ef]) ∧ Below W.heap.size W w') := fun W vs hh hr => by rw [HHF.out, HEF.out]; exact HOP.out.follow W _ s vs (HKK.out.below hh HKK.out.lt) HOK.out HOS.out hr
    have HC4 : Hid (∀ (W : World) (vs : Value), Below w.heap.size w W → Reads W vs s.2 → Calls Tryd.prog 15 #[.agg (hdC (n, rt, zb32)).toArray, .agg (sgC s vs).toArray] W fun e w' => e = .returned (.tuple #[.agg (hdC hf).toArray, .int .i64 ef]) ∧ Below W.heap.size W w') := fun W vs hh hr => by rw [HHF.out, HEF.out]; exact qcFollow_any _ s vs W HOK.out HOS.out hr
    have m1 : ((n : Int) == 0) = false := by rw [beq_eq_false_iff_ne]; omega
    have m2 : ((n : Int) != 0) = true := by rw [bne, m1]; rfl
    have m4 : (ef == ef) = true := by simp
    clear hn0 HEF HHF HS HES HPK
    go_enter Tryd.func3, Tryd.ntmps3
    have tk0 : Hid True := trivial
    have tk1 : Hid True := trivial
    have tk2 : Hid True := trivial
    have tk3 : Hid True := trivial
    have tk4 : Hid True := trivial
    have tk5 : Hid True := trivial
    have tk6 : Hid True := trivial
    have tk7 : Hid True := trivial
    have tk8 : Hid True := trivial
    have tk9 : Hid True := trivial
    have tk10 : Hid True := trivial
    have tk11 : Hid True := trivial
    have tk12 : Hid True := trivial
    have tk13 : Hid True := trivial
    have tk14 : Hid True := trivial
    have tk15 : Hid True := trivial
    have tk16 : Hid True := trivial
    have tk17 : Hid True := trivial
    have tk18 : Hid True := trivial
    have tk19 : Hid True := trivial
    have tk20 : Hid True := trivial
    have tk21 : Hid True := trivial
    have tk22 : Hid True := trivial
    have tk23 : Hid True := trivial
    have tk24 : Hid True := trivial
    have tk25 : Hid True := trivial
    have tk26 : Hid True := trivial
    have tk27 : Hid True := trivial
    have tk28 : Hid True := trivial
    have tk29 : Hid True := trivial
    have tk30 : Hid True := trivial
    have tk31 : Hid True := trivial
    have tk32 : Hid True := trivial
    have tk33 : Hid True := trivial
    have tk34 : Hid True := trivial
    have tk35 : Hid True := trivial
    have tk36 : Hid True := trivial
    go_wp2_with (first
      | (clear tk0; with_reducible refine wpSeq_boxW 23 (.tmp 0) (cb seed) ?_ ?_ ?_ ?_
         · rfl
         · rfl
         · rfl
         intro g3 y1 nn
         replace HBW : Hid (Below w.heap.size w y1) := HBW.out.trans (nn.below.mono HBW.out.size)
         have HG3 : Hid (Blk y1 g3 (cb seed) 23) := nn.blk
         clear nn)
      | (clear tk1; with_reducible refine wpSeq_boxW 26 (.tmp 1) (hdC (n, rt, ky)) ?_ ?_ ?_ ?_
         · rfl
         · rfl
         · rfl
         intro g4 y2 nn
         have HGE4 : Hid (w.heap.size ≤ g4) := Nat.le_trans HBW.out.size nn.ge
         have HN3 : Hid (g3 < g4) := by have h1 := HG3.out.lt; have h2 := nn.ge; show _ < _; omega
         replace HG3 : Hid (Blk y2 g3 (cb seed) 23) := HG3.out.below nn.below HG3.out.lt
         replace HBW : Hid (Below w.heap.size w y2) := HBW.out.trans (nn.below.mono HBW.out.size)
         have HG4 : Hid (Blk y2 g4 (hdC (n, rt, ky)) 26) := nn.blk
         clear nn)
      | (clear tk2; with_reducible refine wpSeq_boxW 23 (.tmp 2) (cb tree) ?_ ?_ ?_ ?_
         · rfl
         · rfl
         · rfl
         intro g5 y3 nn
         have HLT : Hid (g4 < g5 ∧ w.heap.size ≤ g4) := ⟨by have h1 := HG4.out.lt; have h2 := nn.ge; omega, HGE4.out⟩
         replace HG3 : Hid (Blk y3 g3 (cb seed) 23) := HG3.out.below nn.below HG3.out.lt
         replace HG4 : Hid (Blk y3 g4 (hdC (n, rt, ky)) 26) := HG4.out.below nn.below HG4.out.lt
         replace HBW : Hid (Below w.heap.size w y3) := HBW.out.trans (nn.below.mono HBW.out.size)
         have HG5 : Hid (Blk y3 g5 (cb tree) 23) := nn.blk
         clear nn)
      | (clear tk3; with_reducible refine wpSeq_loadW 23 (.tmp 3) g3 0 (cb seed) _ ?_ Tryd.underlying23 rfl ?_ ?_ ?_ ?_ ?_
         · exact HG3.out.range
         · exact HID.out.1
         · rfl
         · rfl
         · rfl)
      | (clear tk4; with_reducible refine wpSeq_loadW 26 (.tmp 4) g4 0 (hdC (n, rt, ky)) _ ?_ Tryd.underlying26 rfl ?_ ?_ ?_ ?_ ?_
         · exact HG4.out.range
         · exact info_hdC HOH.out
         · rfl
         · rfl
         · rfl)
      | (clear tk5; with_reducible refine wpSeq_loadW 23 (.tmp 5) g5 0 (cb tree) _ ?_ Tryd.underlying23 rfl ?_ ?_ ?_ ?_ ?_
         · exact HG5.out.range
         · exact HID.out.2
         · rfl
         · rfl
         · rfl)
      | (clear tk6; go_at_call 9; refine (HC1.out y3 HBW.out).mono ?_; rintro e y4 ⟨a1, n1, c1, rfl, hrd, hfr, hbz⟩
         have HF1 : Hid (∀ k, (Value.slice a1 n1 c1).ownBlock = some k → k ≠ g4) := fun k hk => by have h1 := hfr k hk; have h2 := HG4.out.lt; omega
         clear hfr
         replace HG3 : Hid (Blk y4 g3 (cb seed) 23) := HG3.out.below hbz HG3.out.lt
         replace HG4 : Hid (Blk y4 g4 (hdC (n, rt, ky)) 26) := HG4.out.below hbz HG4.out.lt
         replace HG5 : Hid (Blk y4 g5 (cb tree) 23) := HG5.out.below hbz HG5.out.lt
         replace HBW : Hid (Below w.heap.size w y4) := HBW.out.trans (hbz.mono HBW.out.size)
         have HR1 : Hid (Reads y4 (.slice a1 n1 c1) s.2) := hrd
         clear hbz hrd)
      | (clear tk7; with_reducible refine wpSeq_allocS ?_ ?_ ?_
         · rfl
         · rfl
         intro g7 y5 nn
         have HN7 : Hid (g4 < g7) := by have h4 := HG4.out.lt; have h5 := nn.ge; show _ < _; omega)
      | (clear tk8; with_reducible refine wpSeq_storeRow 31 (.tmp 7) (.tmp 20) g7 (sgC zeroS (.slice none 0 0)) (sgC s (.slice a1 n1 c1)) ?_ ?_ ?_ ?_ ?_ ?_ ?_ ?_ ?_
         · exact nn.blk
         · first | (with_reducible rfl) | rw [len_sgC HOS.out, len_sgC okS_zero]
         · exact info_sgC HOS.out _
         · exact sgC_one _ _ _ _
         · rfl
         · rfl
         · rfl
         · rfl
         intro y6 hs
         have hbz := nn.below.trans (hs.only.below nn.ge nn.below.size)
         replace HG3 : Hid (Blk y6 g3 (cb seed) 23) := HG3.out.below hbz HG3.out.lt
         replace HG4 : Hid (Blk y6 g4 (hdC (n, rt, ky)) 26) := HG4.out.below hbz HG4.out.lt
         replace HG5 : Hid (Blk y6 g5 (cb tree) 23) := HG5.out.below hbz HG5.out.lt
         replace HR1 : Hid (Reads y6 (.slice a1 n1 c1) s.2) := HR1.out.below hbz
         replace HBW : Hid (Below w.heap.size w y6) := HBW.out.trans (hbz.mono HBW.out.size)
         have HG7 : Hid (Blk y6 g7 (sgC s (.slice a1 n1 c1)) 31) := hs.blk
         clear nn hs hbz)
      | (clear tk9; with_reducible refine wpSeq_loadW 23 (.tmp 3) g3 0 (cb seed) _ ?_ Tryd.underlying23 rfl ?_ ?_ ?_ ?_ ?_
         · exact HG3.out.range
         · exact HID.out.1
         · rfl
         · rfl
         · rfl)
      | (clear tk10; with_reducible refine wpSeq_loadW 26 (.tmp 4) g4 0 (hdC (n, rt, ky)) _ ?_ Tryd.underlying26 rfl ?_ ?_ ?_ ?_ ?_
         · exact HG4.out.range
         · exact info_hdC HOH.out
         · rfl
         · rfl
         · rfl)
      | (clear tk11; with_reducible refine wpSeq_loadW 23 (.tmp 5) g5 0 (cb tree) _ ?_ Tryd.underlying23 rfl ?_ ?_ ?_ ?_ ?_
         · exact HG5.out.range
         · exact HID.out.2
         · rfl
         · rfl
         · rfl)
      | (clear tk12; go_at_call 10; refine (HC2.out y6 HBW.out).mono ?_; rintro e y7 ⟨a2, n2, c2, rfl, hrd, hfr, hbz⟩
         have HF2 : Hid (∀ k, (Value.slice a2 n2 c2).ownBlock = some k → k ≠ g4) := fun k hk => by have h1 := hfr k hk; have h2 := HG4.out.lt; omega
         clear hfr
         replace HG3 : Hid (Blk y7 g3 (cb seed) 23) := HG3.out.below hbz HG3.out.lt
         replace HG4 : Hid (Blk y7 g4 (hdC (n, rt, ky)) 26) := HG4.out.below hbz HG4.out.lt
         replace HG5 : Hid (Blk y7 g5 (cb tree) 23) := HG5.out.below hbz HG5.out.lt
         replace HG7 : Hid (Blk y7 g7 (sgC s (.slice a1 n1 c1)) 31) := HG7.out.below hbz HG7.out.lt
         replace HR1 : Hid (Reads y7 (.slice a1 n1 c1) s.2) := HR1.out.below hbz
         replace HBW : Hid (Below w.heap.size w y7) := HBW.out.trans (hbz.mono HBW.out.size)
         have HR2 : Hid (Reads y7 (.slice a2 n2 c2) s.2) := hrd
         clear hbz hrd)
      | (clear tk13; with_reducible refine wpSeq_allocS ?_ ?_ ?_
         · rfl
         · rfl
         intro g9 y8 nn
         have HN4 : Hid (g3 < g4 ∧ g4 < g5 ∧ g4 < g7 ∧ g4 < g9) := by have h1 := HN3.out; have h2 := HLT.out.1; have h3 := HN7.out; have h4 := HG4.out.lt; have h5 := nn.ge; exact ⟨by omega, by omega, by omega, by omega⟩)
      | (clear tk14; with_reducible refine wpSeq_storeRow 31 (.tmp 9) (.tmp 27) g9 (sgC zeroS (.slice none 0 0)) (sgC s (.slice a2 n2 c2)) ?_ ?_ ?_ ?_ ?_ ?_ ?_ ?_ ?_
         · exact nn.blk
         · first | (with_reducible rfl) | rw [len_sgC HOS.out, len_sgC okS_zero]
         · exact info_sgC HOS.out _
         · exact sgC_one _ _ _ _
         · rfl
         · rfl
         · rfl
         · rfl
         intro y9 hs
         have hbz := nn.below.trans (hs.only.below nn.ge nn.below.size)
         replace HG3 : Hid (Blk y9 g3 (cb seed) 23) := HG3.out.below hbz HG3.out.lt
         replace HG4 : Hid (Blk y9 g4 (hdC (n, rt, ky)) 26) := HG4.out.below hbz HG4.out.lt
         replace HG5 : Hid (Blk y9 g5 (cb tree) 23) := HG5.out.below hbz HG5.out.lt
         replace HG7 : Hid (Blk y9 g7 (sgC s (.slice a1 n1 c1)) 31) := HG7.out.below hbz HG7.out.lt
         replace HR1 : Hid (Reads y9 (.slice a1 n1 c1) s.2) := HR1.out.below hbz
         replace HR2 : Hid (Reads y9 (.slice a2 n2 c2) s.2) := HR2.out.below hbz
         replace HBW : Hid (Below w.heap.size w y9) := HBW.out.trans (hbz.mono HBW.out.size)
         have HG9 : Hid (Blk y9 g9 (sgC s (.slice a2 n2 c2)) 31) := hs.blk
         clear nn hs hbz)
      | (clear tk15; with_reducible refine wpSeq_loadW 31 (.tmp 7) g7 0 (sgC s (.slice a1 n1 c1)) _ ?_ Tryd.underlying31 rfl ?_ ?_ ?_ ?_ ?_
         · exact HG7.out.range
         · exact info_sgC HOS.out _
         · rfl
         · rfl
         · rfl)
      | (clear tk16; with_reducible refine wpSeq_loadW 31 (.tmp 9) g9 0 (sgC s (.slice a2 n2 c2)) _ ?_ Tryd.underlying31 rfl ?_ ?_ ?_ ?_ ?_
         · exact HG9.out.range
         · exact info_sgC HOS.out _
         · rfl
         · rfl
         · rfl)
      | (clear tk17; go_at_call 11; refine (sameS_any s _ _ y9 HOS.out HR1.out HR2.out).mono ?_; rintro e y10 ⟨rfl, hbz⟩
         replace HG3 : Hid (Blk y10 g3 (cb seed) 23) := HG3.out.below hbz HG3.out.lt
         replace HG4 : Hid (Blk y10 g4 (hdC (n, rt, ky)) 26) := HG4.out.below hbz HG4.out.lt
         replace HG5 : Hid (Blk y10 g5 (cb tree) 23) := HG5.out.below hbz HG5.out.lt
         replace HG7 : Hid (Blk y10 g7 (sgC s (.slice a1 n1 c1)) 31) := HG7.out.below hbz HG7.out.lt
         replace HG9 : Hid (Blk y10 g9 (sgC s (.slice a2 n2 c2)) 31) := HG9.out.below hbz HG9.out.lt
         replace HR1 : Hid (Reads y10 (.slice a1 n1 c1) s.2) := HR1.out.below hbz
         replace HR2 : Hid (Reads y10 (.slice a2 n2 c2) s.2) := HR2.out.below hbz
         replace HBW : Hid (Below w.heap.size w y10) := HBW.out.trans (hbz.mono HBW.out.size)
         clear hbz )
      | (clear tk18; with_reducible refine wpSeq_loadW 23 (.tmp 3) g3 0 (cb seed) _ ?_ Tryd.underlying23 rfl ?_ ?_ ?_ ?_ ?_
         · exact HG3.out.range
         · exact HID.out.1
         · rfl
         · rfl
         · rfl)
      | (clear tk19; go_at_call 13; refine (HC5.out y10 HBW.out).mono ?_; rintro e y11 ⟨rfl, hbz⟩
         replace HG3 : Hid (Blk y11 g3 (cb seed) 23) := HG3.out.below hbz HG3.out.lt
         replace HG4 : Hid (Blk y11 g4 (hdC (n, rt, ky)) 26) := HG4.out.below hbz HG4.out.lt
         replace HG5 : Hid (Blk y11 g5 (cb tree) 23) := HG5.out.below hbz HG5.out.lt
         replace HG7 : Hid (Blk y11 g7 (sgC s (.slice a1 n1 c1)) 31) := HG7.out.below hbz HG7.out.lt
         replace HG9 : Hid (Blk y11 g9 (sgC s (.slice a2 n2 c2)) 31) := HG9.out.below hbz HG9.out.lt
         replace HR1 : Hid (Reads y11 (.slice a1 n1 c1) s.2) := HR1.out.below hbz
         replace HR2 : Hid (Reads y11 (.slice a2 n2 c2) s.2) := HR2.out.below hbz
         replace HBW : Hid (Below w.heap.size w y11) := HBW.out.trans (hbz.mono HBW.out.size)
         clear hbz )
      | (clear tk20; with_reducible refine wpSeq_storeKey (.tmp 43) (.tmp 42) g4 n rt ky pk ?_ ?_ ?_ ?_ ?_ ?_ ?_ ?_ ?_
         · exact HG4.out
         · exact HOH.out.1
         · exact HOH.out.2.1
         · exact HPL.out
         · rfl
         · rfl
         · rfl
         · rfl
         intro y12 hs
         have HXX : Hid (g4 < g5 ∧ w.heap.size ≤ g4) := HLT.out
         replace HG3 : Hid (Blk y12 g3 (cb seed) 23) := HG3.out.only hs.only (by have := HN4.out; omega)
         replace HG5 : Hid (Blk y12 g5 (cb tree) 23) := HG5.out.only hs.only (by have := HN4.out; omega)
         replace HG7 : Hid (Blk y12 g7 (sgC s (.slice a1 n1 c1)) 31) := HG7.out.only hs.only (by have := HN4.out; omega)
         replace HG9 : Hid (Blk y12 g9 (sgC s (.slice a2 n2 c2)) 31) := HG9.out.only hs.only (by have := HN4.out; omega)
         replace HR1 : Hid (Reads y12 (.slice a1 n1 c1) s.2) := HR1.out.apartB hs.only (HF1.out)
         replace HR2 : Hid (Reads y12 (.slice a2 n2 c2) s.2) := HR2.out.apartB hs.only (HF2.out)
         replace HG4 : Hid (Blk y12 g4 (hdC (n, rt, pk)) 26) := hs.blk
         replace HBW : Hid (Below w.heap.size w y12) := HBW.out.trans (hs.only.below HLT.out.2 HBW.out.size)
         have ce : y12.cell? ⟨g4, 0, none⟩ = some (.int .u64 (n : Int)) := HG4.out.cell 0
         clear hs HXX)
      | (clear tk21; with_reducible refine wpSeq_buildZD ?_ ?_ ?_
         · rfl
         · rfl
         clear ce)
      | (clear tk22; with_reducible refine wpSeq_storeKey (.tmp 48) (.tmp 47) g4 n rt pk zb32 ?_ ?_ ?_ ?_ ?_ ?_ ?_ ?_ ?_
         · exact HG4.out
         · exact HOH.out.1
         · exact HPL.out
         · exact rfl
         · rfl
         · rfl
         · rfl
         · rfl
         intro y13 hs
         have HXX : Hid (g4 < g5 ∧ w.heap.size ≤ g4) := HLT.out
         replace HG3 : Hid (Blk y13 g3 (cb seed) 23) := HG3.out.only hs.only (by have := HN4.out; omega)
         replace HG5 : Hid (Blk y13 g5 (cb tree) 23) := HG5.out.only hs.only (by have := HN4.out; omega)
         replace HG7 : Hid (Blk y13 g7 (sgC s (.slice a1 n1 c1)) 31) := HG7.out.only hs.only (by have := HN4.out; omega)
         replace HG9 : Hid (Blk y13 g9 (sgC s (.slice a2 n2 c2)) 31) := HG9.out.only hs.only (by have := HN4.out; omega)
         replace HR1 : Hid (Reads y13 (.slice a1 n1 c1) s.2) := HR1.out.apartB hs.only (HF1.out)
         replace HR2 : Hid (Reads y13 (.slice a2 n2 c2) s.2) := HR2.out.apartB hs.only (HF2.out)
         replace HG4 : Hid (Blk y13 g4 (hdC (n, rt, zb32)) 26) := hs.blk
         replace HBW : Hid (Below w.heap.size w y13) := HBW.out.trans (hs.only.below HLT.out.2 HBW.out.size)
         clear hs HXX)
      | (clear tk23; with_reducible refine wpSeq_loadW 26 (.tmp 4) g4 0 (hdC (n, rt, zb32)) _ ?_ Tryd.underlying26 rfl ?_ ?_ ?_ ?_ ?_
         · exact HG4.out.range
         · exact info_hdC HOK.out
         · rfl
         · rfl
         · rfl)
      | (clear tk24; with_reducible refine wpSeq_loadW 31 (.tmp 7) g7 0 (sgC s (.slice a1 n1 c1)) _ ?_ Tryd.underlying31 rfl ?_ ?_ ?_ ?_ ?_
         · exact HG7.out.range
         · exact info_sgC HOS.out _
         · rfl
         · rfl
         · rfl)
      | (clear tk25; go_at_call 14; refine (HC3.out y13 _ HBW.out HR1.out).mono ?_; rintro e y14 ⟨rfl, hbz⟩
         replace HG3 : Hid (Blk y14 g3 (cb seed) 23) := HG3.out.below hbz HG3.out.lt
         replace HG4 : Hid (Blk y14 g4 (hdC (n, rt, zb32)) 26) := HG4.out.below hbz HG4.out.lt
         replace HG5 : Hid (Blk y14 g5 (cb tree) 23) := HG5.out.below hbz HG5.out.lt
         replace HG7 : Hid (Blk y14 g7 (sgC s (.slice a1 n1 c1)) 31) := HG7.out.below hbz HG7.out.lt
         replace HG9 : Hid (Blk y14 g9 (sgC s (.slice a2 n2 c2)) 31) := HG9.out.below hbz HG9.out.lt
         replace HR1 : Hid (Reads y14 (.slice a1 n1 c1) s.2) := HR1.out.below hbz
         replace HR2 : Hid (Reads y14 (.slice a2 n2 c2) s.2) := HR2.out.below hbz
         replace HBW : Hid (Below w.heap.size w y14) := HBW.out.trans (hbz.mono HBW.out.size)
         clear hbz )
      | (clear tk26; with_reducible refine wpSeq_allocH ?_ ?_ ?_
         · rfl
         · rfl
         intro g11 y15 nn)
      | (clear tk27; with_reducible refine wpSeq_storeRow 26 (.tmp 11) (.tmp 53) g11 (hdC zeroH) (hdC hf) ?_ ?_ ?_ ?_ ?_ ?_ ?_ ?_ ?_
         · exact nn.blk
         · first | (with_reducible rfl) | rw [len_hdC HOF.out, len_hdC okH_zero]
         · exact info_hdC HOF.out
         · exact hdC_one _
         · rfl
         · rfl
         · rfl
         · rfl
         intro y16 hs
         have hbz := nn.below.trans (hs.only.below nn.ge nn.below.size)
         replace HG3 : Hid (Blk y16 g3 (cb seed) 23) := HG3.out.below hbz HG3.out.lt
         replace HG4 : Hid (Blk y16 g4 (hdC (n, rt, zb32)) 26) := HG4.out.below hbz HG4.out.lt
         replace HG5 : Hid (Blk y16 g5 (cb tree) 23) := HG5.out.below hbz HG5.out.lt
         replace HG7 : Hid (Blk y16 g7 (sgC s (.slice a1 n1 c1)) 31) := HG7.out.below hbz HG7.out.lt
         replace HG9 : Hid (Blk y16 g9 (sgC s (.slice a2 n2 c2)) 31) := HG9.out.below hbz HG9.out.lt
         replace HR1 : Hid (Reads y16 (.slice a1 n1 c1) s.2) := HR1.out.below hbz
         replace HR2 : Hid (Reads y16 (.slice a2 n2 c2) s.2) := HR2.out.below hbz
         replace HBW : Hid (Below w.heap.size w y16) := HBW.out.trans (hbz.mono HBW.out.size)
         have HG11 : Hid (Blk y16 g11 (hdC hf) 26) := hs.blk
         clear nn hs hbz)
      | (clear tk28; with_reducible refine wpSeq_loadW 26 (.tmp 4) g4 0 (hdC (n, rt, zb32)) _ ?_ Tryd.underlying26 rfl ?_ ?_ ?_ ?_ ?_
         · exact HG4.out.range
         · exact info_hdC HOK.out
         · rfl
         · rfl
         · rfl)
      | (clear tk29; with_reducible refine wpSeq_loadW 31 (.tmp 9) g9 0 (sgC s (.slice a2 n2 c2)) _ ?_ Tryd.underlying31 rfl ?_ ?_ ?_ ?_ ?_
         · exact HG9.out.range
         · exact info_sgC HOS.out _
         · rfl
         · rfl
         · rfl)
      | (clear tk30; go_at_call 15; refine (HC4.out y16 _ HBW.out HR2.out).mono ?_; rintro e y17 ⟨rfl, hbz⟩
         replace HG3 : Hid (Blk y17 g3 (cb seed) 23) := HG3.out.below hbz HG3.out.lt
         replace HG4 : Hid (Blk y17 g4 (hdC (n, rt, zb32)) 26) := HG4.out.below hbz HG4.out.lt
         replace HG5 : Hid (Blk y17 g5 (cb tree) 23) := HG5.out.below hbz HG5.out.lt
         replace HG7 : Hid (Blk y17 g7 (sgC s (.slice a1 n1 c1)) 31) := HG7.out.below hbz HG7.out.lt
         replace HG9 : Hid (Blk y17 g9 (sgC s (.slice a2 n2 c2)) 31) := HG9.out.below hbz HG9.out.lt
         replace HG11 : Hid (Blk y17 g11 (hdC hf) 26) := HG11.out.below hbz HG11.out.lt
         replace HR1 : Hid (Reads y17 (.slice a1 n1 c1) s.2) := HR1.out.below hbz
         replace HR2 : Hid (Reads y17 (.slice a2 n2 c2) s.2) := HR2.out.below hbz
         replace HBW : Hid (Below w.heap.size w y17) := HBW.out.trans (hbz.mono HBW.out.size)
         clear hbz )
      | (clear tk31; with_reducible refine wpSeq_allocH ?_ ?_ ?_
         · rfl
         · rfl
         intro g13 y18 nn)
      | (clear tk32; with_reducible refine wpSeq_storeRow 26 (.tmp 13) (.tmp 59) g13 (hdC zeroH) (hdC hf) ?_ ?_ ?_ ?_ ?_ ?_ ?_ ?_ ?_
         · exact nn.blk
         · first | (with_reducible rfl) | rw [len_hdC HOF.out, len_hdC okH_zero]
         · exact info_hdC HOF.out
         · exact hdC_one _
         · rfl
         · rfl
         · rfl
         · rfl
         intro y19 hs
         have hbz := nn.below.trans (hs.only.below nn.ge nn.below.size)
         replace HG3 : Hid (Blk y19 g3 (cb seed) 23) := HG3.out.below hbz HG3.out.lt
         replace HG4 : Hid (Blk y19 g4 (hdC (n, rt, zb32)) 26) := HG4.out.below hbz HG4.out.lt
         replace HG5 : Hid (Blk y19 g5 (cb tree) 23) := HG5.out.below hbz HG5.out.lt
         replace HG7 : Hid (Blk y19 g7 (sgC s (.slice a1 n1 c1)) 31) := HG7.out.below hbz HG7.out.lt
         replace HG9 : Hid (Blk y19 g9 (sgC s (.slice a2 n2 c2)) 31) := HG9.out.below hbz HG9.out.lt
         replace HG11 : Hid (Blk y19 g11 (hdC hf) 26) := HG11.out.below hbz HG11.out.lt
         replace HR1 : Hid (Reads y19 (.slice a1 n1 c1) s.2) := HR1.out.below hbz
         replace HR2 : Hid (Reads y19 (.slice a2 n2 c2) s.2) := HR2.out.below hbz
         replace HBW : Hid (Below w.heap.size w y19) := HBW.out.trans (hbz.mono HBW.out.size)
         have HG13 : Hid (Blk y19 g13 (hdC hf) 26) := hs.blk
         have ce2 : y19.cell? ⟨g4, 0, none⟩ = some (.int .u64 (n : Int)) := HG4.out.cell 0
         clear nn hs hbz)
      | (clear tk33; with_reducible refine wpSeq_loadW 26 (.tmp 11) g11 0 (hdC hf) _ ?_ Tryd.underlying26 rfl ?_ ?_ ?_ ?_ ?_
         · exact HG11.out.range
         · exact info_hdC HOF.out
         · rfl
         · rfl
         · rfl)
      | (clear tk34; with_reducible refine wpSeq_loadW 26 (.tmp 13) g13 0 (hdC hf) _ ?_ Tryd.underlying26 rfl ?_ ?_ ?_ ?_ ?_
         · exact HG13.out.range
         · exact info_hdC HOF.out
         · rfl
         · rfl
         · rfl)
      | (clear tk35; with_reducible refine wpSeq_eqH (.tmp 61) (.tmp 62) hf hf HOF.out HOF.out true ?_ ?_ ?_ ?_ ?_ ?_
         · exact (decide_eq_true rfl).symm
         · rfl
         · rfl
         · rfl
         · rfl)
      | (clear tk36; go_at_call 12; refine (HCW.out y19 HBW.out).mono ?_; rintro e y20 ⟨rfl, hbz⟩
         replace HG3 : Hid (Blk y20 g3 (cb seed) 23) := HG3.out.below hbz HG3.out.lt
         replace HG4 : Hid (Blk y20 g4 (hdC (n, rt, zb32)) 26) := HG4.out.below hbz HG4.out.lt
         replace HG5 : Hid (Blk y20 g5 (cb tree) 23) := HG5.out.below hbz HG5.out.lt
         replace HG7 : Hid (Blk y20 g7 (sgC s (.slice a1 n1 c1)) 31) := HG7.out.below hbz HG7.out.lt
         replace HG9 : Hid (Blk y20 g9 (sgC s (.slice a2 n2 c2)) 31) := HG9.out.below hbz HG9.out.lt
         replace HG11 : Hid (Blk y20 g11 (hdC hf) 26) := HG11.out.below hbz HG11.out.lt
         replace HG13 : Hid (Blk y20 g13 (hdC hf) 26) := HG13.out.below hbz HG13.out.lt
         replace HR1 : Hid (Reads y20 (.slice a1 n1 c1) s.2) := HR1.out.below hbz
         replace HR2 : Hid (Reads y20 (.slice a2 n2 c2) s.2) := HR2.out.below hbz
         replace HBW : Hid (Below w.heap.size w y20) := HBW.out.trans (hbz.mono HBW.out.size)
         clear hbz ))
    go_ret
    first | exact ⟨rfl, HBW.out⟩ | exact ⟨trivial, HBW.out⟩
end Go.Proofs.YtfbdnhadcnmfoaaDoor
/- What the listed variable gives: the rounds' words lie where the walks look for them. -/
namespace Go.Proofs.YtfbdnhadcnmfoaaDoor
open Go.ChangeShapes Go.WideShapes Go.ChangeAt Go.WideMaps Go.WideElems Go.RowKit
set_option maxRecDepth 100000
theorem own : ownKnob Tryd.prog.godebug = none := by kernel_rfl
theorem gKw : Tryd.prog.globalNamed "blazon/sha.roundWords" = some 0 := by kernel_rfl
theorem tKw : (Tryd.prog.globals[0]?).map (·.type) = some 95 := by kernel_rfl
def laidK : List (String × DataW Unit) := [("blazon/sha.roundWords", Rows.laid_blazon_sha_roundWords)]
def kzs : List Int := kw.map fun x => (x.toNat : Int)
theorem laid_tab : (Rows.laid_blazon_sha_roundWords : DataW Unit) = Lib.tabData .u32 kzs := by kernel_rfl
theorem door_met (os : Os) (args : Array Value) : laidMetH Tryd.prog laidK ((World.doorLaid Tryd.prog 400 os).forCall (fun _ _ => 0) ⟨#[], args, []⟩).memory :=
  laidMetH_of_parts3 (fuel := 8) (laidMet_of_run' 8 (by kernel_rfl) (by kernel_rfl)) (by kernel_rfl) (by kernel_rfl)
theorem getD_toNat (l : List (BitVec 32)) (j : Nat) : (l.map fun x => (x.toNat : Int)).getD j 0 = ((l.getD j 0).toNat : Int) := by
  rw [List.getD_eq_getElem?_getD, List.getD_eq_getElem?_getD, List.getElem?_map]
  cases l[j]? <;> rfl
theorem kok_of_laid {W : World} (h : laidMetH Tryd.prog laidK W) : KOk W := by
  rw [MakeChecks.laidMetH_plain _ _ _ (by kernel_rfl)] at h
  unfold laidK at h
  rw [laid_tab] at h
  have hT := Lib.tabIs_of_head gKw tKw Tryd.underlying95 Tryd.underlying85 (by kernel_rfl) (by kernel_rfl) h
  intro j hj
  rw [hT.cell gKw j (by simpa [kzs, kw] using hj), kzs, getD_toNat]
end Go.Proofs.YtfbdnhadcnmfoaaDoor
/- What a slice of bytes that came in gives: the bytes that it reads as; and that it reads so still behind a call that changed no old block. -/
namespace Go.Proofs.YtfbdnhadcnmfoaaDoor
open Go.ChangeShapes Go.WideShapes Go.ChangeAt Go.WideMaps Go.WideElems Go.RowKit
set_option maxRecDepth 100000
theorem cells_byte : Tryd.prog.cellsOf 5 = 1 := by kernel_rfl
theorem laid_out : laidOutB Tryd.prog = true := by kernel_rfl
theorem readable_bytes : Tryd.prog.readableRec 29 = true := by kernel_rfl
theorem row_bytes : 29 < Tryd.prog.types.size := of_decide_eq_true (by kernel_rfl)
theorem byte_range {zs : List Int} (h : ∀ n ∈ zs, (Lit.int .u8 n).wf = true) (j : Nat) : 0 ≤ zs.getD j 0 ∧ zs.getD j 0 < 256 := by
  rw [List.getD_eq_getElem?_getD]
  cases hj : zs[j]? with
  | none => simp
  | some n =>
    have := h n (List.mem_of_getElem? hj)
    have := bounds_u8 this
    simp
    omega
theorem reads_of_trod {H : Type} {enc : TypeId × Value → H} {W : World} {base : Nat} {v : Value} {d : DataW H} {p : List MemPlace} (hval : Value.okWide Tryd.prog W .any base 29 v)
    (h : DataW.Trod enc Tryd.prog W 0 (fun _ => true) true 29 v d p) :
    ∃ bs, Reads W v bs ∧ bs.length ≤ maxLen ∧ ∀ x ∈ p, x.block < W.heap.size := by
  obtain ⟨a1, len, cap, rfl⟩ := okWide_slice Tryd.underlying29 hval
  obtain ⟨fuel, hf⟩ := h
  rcases open_ints Tryd.underlying29 Tryd.underlying5 cells_byte hf with ⟨hcs, hx⟩ | ⟨a, len', cap', zs, hcs, _, hl, hm, hz, hx, hcell, hwz⟩
  · simp [Value.cells] at hcs
    obtain ⟨rfl, rfl, rfl⟩ := hcs
    simp only [Prod.mk.injEq] at hx
    obtain ⟨rfl, rfl⟩ := hx
    exact ⟨[], ⟨none, 0, rfl, Nat.le_refl _, fun _ => rfl, fun h => by cases h⟩, Nat.zero_le _, fun _ h => by cases h⟩
  · simp [Value.cells] at hcs
    obtain ⟨rfl, rfl, rfl⟩ := hcs
    simp only [Prod.mk.injEq] at hx
    obtain ⟨rfl, rfl⟩ := hx
    simp only [if_true] at hz
    have hlen : ((zs.take len).map fun n => BitVec.ofInt 8 n).length = len := by simp; omega
    obtain ⟨ab, ao, spot⟩ := a
    refine ⟨(zs.take len).map fun n => BitVec.ofInt 8 n, ⟨some ⟨ab, ao, spot⟩, cap, by rw [hlen], by rw [hlen]; exact hl, (fun h => by cases h), fun hp => ?_⟩, by rw [hlen]; omega, fun x hx => ?_⟩
    · rw [hlen] at hp ⊢
      have hspot : spot = none := by simpa [Addr.add] using World.cell?_spot (hcell 0 (by omega))
      subst hspot
      refine ⟨ab, ao, rfl, fun j hj => ?_⟩
      have hcj := hcell j (by omega)
      rw [Addr.add_lit] at hcj
      rw [hcj]
      have hb := byte_range hwz j
      have e : ((zs.take len).map fun n => BitVec.ofInt 8 n).getD j 0 = BitVec.ofInt 8 (zs.getD j 0) := by
        rw [List.getD_eq_getElem?_getD, List.getElem?_map, List.getElem?_take_of_lt hj, List.getD_eq_getElem?_getD, List.getElem?_eq_getElem (show j < zs.length by omega)]
        rfl
      rw [e, BitVec.toNat_ofInt]
      congr 2
      omega
    · simp only [MemPlace.row, List.mem_map, List.mem_range] at hx
      obtain ⟨i, hi, rfl⟩ := hx
      have hcj := hcell i (by omega)
      have := block_lt_of_cell hcj
      simp only [Addr.add] at this
      split at this <;> exact this
end Go.Proofs.YtfbdnhadcnmfoaaDoor
/- What a digest that came in gives: its 32 bytes. -/
namespace Go.Proofs.YtfbdnhadcnmfoaaDoor
open Go.ChangeShapes Go.WideShapes Go.ChangeAt Go.WideMaps Go.WideElems Go.RowKit
set_option maxRecDepth 100000
theorem cells_digest : Tryd.prog.cellsOf 23 = 32 := by kernel_rfl
theorem readable_digest : Tryd.prog.readableRec 23 = true := by kernel_rfl
theorem row_digest : 23 < Tryd.prog.types.size := of_decide_eq_true (by kernel_rfl)
def numOf8 : Value → BitVec 8
  | .int _ n => BitVec.ofInt 8 n
  | _ => 0
theorem digest_of_trod {H : Type} {enc : TypeId × Value → H} {W : World} {base : Nat} {v : Value} {d : DataW H} {p : List MemPlace} (hval : Value.okWide Tryd.prog W .any base 23 v)
    (h : DataW.Trod enc Tryd.prog W 0 (fun _ => true) true 23 v d p) :
    ∃ dg, v = .agg (cb dg).toArray ∧ dg.length = 32 ∧ ∀ x ∈ p, x.block < W.heap.size := by
  simp only [Value.okWide, Tryd.underlying23] at hval
  obtain ⟨cs, rfl, hcs, _⟩ := hval
  obtain ⟨fuel, hf⟩ := h
  obtain ⟨xs, m, _, hx, hl, hn, hi⟩ := DataW.trod_array Tryd.underlying23 hf
  simp only [Value.cells] at hl hi
  rw [cells_digest] at hl
  rw [cells_byte] at hi
  have each : ∀ i, i < 32 → ∃ n, cs.toList[i]? = some (.int .u8 n) ∧ xs[i]? = some (.lit (.int .u8 n), []) ∧ (Lit.int .u8 n).wf = true := by
    intro i h32
    have h1 := hi i h32
    rw [List.getElem?_eq_getElem (by omega)] at h1
    obtain ⟨n, hc, hxx, hw⟩ := DataW.trod_int Tryd.underlying5 h1
    refine ⟨n, ?_, by rw [List.getElem?_eq_getElem (by omega), hxx], hw⟩
    rw [Nat.mul_one] at hc
    have h2 := congrArg (fun l => l[0]?) hc
    simpa using h2
  have hlen : (cs.toList.map numOf8).length = 32 := by simpa using hl
  refine ⟨cs.toList.map numOf8, ?_, hlen, ?_⟩
  · congr 1
    apply Array.ext'
    rw [List.toList_toArray]
    apply List.ext_getElem?
    intro i
    by_cases h32 : i < 32
    · obtain ⟨n, h1, _, hw⟩ := each i h32
      have hb := bounds_u8 hw
      rw [h1, cb_get _ _ (by omega), List.getD_eq_getElem?_getD, List.getElem?_map, h1]
      simp only [Option.map_some, Option.getD_some, numOf8, BitVec.toNat_ofInt]
      congr 2
      omega
    · rw [List.getElem?_eq_none (by omega), List.getElem?_eq_none (by rw [cb_len]; omega)]
  · simp only [Prod.mk.injEq] at hx
    rw [hx.2]
    intro x hmem
    obtain ⟨y, hy, hxy⟩ := List.mem_flatMap.1 hmem
    obtain ⟨i, hlt, rfl⟩ := List.getElem_of_mem hy
    obtain ⟨n, _, h2, _⟩ := each i (by omega)
    rw [List.getElem?_eq_getElem hlt] at h2
    rw [Option.some.inj h2] at hxy
    cases hxy
end Go.Proofs.YtfbdnhadcnmfoaaDoor
/- What a slice of digests that came in gives; five arguments that came in, opened and shut (for the statements of layer 7). -/
namespace Go.Proofs.YtfbdnhadcnmfoaaDoor
open Go.ChangeShapes Go.WideShapes Go.ChangeAt Go.WideMaps Go.WideElems Go.RowKit
set_option maxRecDepth 100000
set_option maxRecDepth 100000 in
theorem bulk_pos {H : Type} (d : DataW H) : 1 ≤ Rows.uptoBulk d := by
  cases d with
  | lit l => cases l <;> simp [Rows.uptoBulk]
  | _ => simp [Rows.uptoBulk]
set_option maxRecDepth 100000 in
theorem bulk_slice {H : Type} (e s : List (DataW H)) : Rows.uptoBulkAll e ≤ Rows.uptoBulk (DataW.slice e s) := by
  simp only [Rows.uptoBulk]; omega
set_option maxRecDepth 100000 in
theorem bulk_len {H : Type} : ∀ l : List (DataW H), l.length ≤ Rows.uptoBulkAll l
  | [] => Nat.zero_le _
  | d :: r => by
    have h1 := bulk_len r
    have h2 := bulk_pos d
    simp only [Rows.uptoBulkAll, List.length_cons]
    omega
theorem digest_of_cells {H : Type} {enc : TypeId × Value → H} {W : World} {cs : List Value} {d : DataW H} {p : List MemPlace} {fuel : Nat} (hf : DataW.trod enc Tryd.prog W 0 (fun _ => true) true fuel 23 cs = some (d, p)) :
    ∃ dg, cs = cb dg ∧ dg.length = 32 ∧ ∀ x ∈ p, x.block < W.heap.size := by
  obtain ⟨xs, m, _, hx, hl, hn, hi⟩ := DataW.trod_array Tryd.underlying23 hf
  rw [cells_digest] at hl
  rw [cells_byte] at hi
  have each : ∀ i, i < 32 → ∃ n, cs[i]? = some (.int .u8 n) ∧ xs[i]? = some (.lit (.int .u8 n), []) ∧ (Lit.int .u8 n).wf = true := by
    intro i h32
    have h1 := hi i h32
    rw [List.getElem?_eq_getElem (by omega)] at h1
    obtain ⟨n, hc, hxx, hw⟩ := DataW.trod_int Tryd.underlying5 h1
    refine ⟨n, ?_, by rw [List.getElem?_eq_getElem (by omega), hxx], hw⟩
    rw [Nat.mul_one] at hc
    have h2 := congrArg (fun l => l[0]?) hc
    simpa using h2
  have hlen : (cs.map numOf8).length = 32 := by simpa using hl
  refine ⟨cs.map numOf8, ?_, hlen, ?_⟩
  · apply List.ext_getElem?
    intro i
    by_cases h32 : i < 32
    · obtain ⟨n, h1, _, hw⟩ := each i h32
      have hb := bounds_u8 hw
      rw [h1, cb_get _ _ (by omega), List.getD_eq_getElem?_getD, List.getElem?_map, h1]
      simp only [Option.map_some, Option.getD_some, numOf8, BitVec.toNat_ofInt]
      congr 2
      omega
    · rw [List.getElem?_eq_none (by omega), List.getElem?_eq_none (by rw [cb_len]; omega)]
  · simp only [Prod.mk.injEq] at hx
    rw [hx.2]
    intro x hmem
    obtain ⟨y, hy, hxy⟩ := List.mem_flatMap.1 hmem
    obtain ⟨i, hlt, rfl⟩ := List.getElem_of_mem hy
    obtain ⟨n, _, h2, _⟩ := each i (by omega)
    rw [List.getElem?_eq_getElem hlt] at h2
    rw [Option.some.inj h2] at hxy
    cases hxy
set_option maxRecDepth 100000 in
theorem readable_digests : Tryd.prog.readableRec 47 = true := by kernel_rfl
set_option maxRecDepth 100000 in
theorem row_digests : 47 < Tryd.prog.types.size := of_decide_eq_true (by kernel_rfl)
theorem readsD_of_trod {H : Type} {enc : TypeId × Value → H} {W : World} {base : Nat} {v : Value} {d : DataW H} {p : List MemPlace} (hval : Value.okWide Tryd.prog W .any base 47 v)
    (h : DataW.Trod enc Tryd.prog W 0 (fun _ => true) true 47 v d p) :
    ∃ ds, ReadsD W v ds ∧ ds.length ≤ Rows.uptoBulk d ∧ ∀ x ∈ p, x.block < W.heap.size := by
  obtain ⟨a1, len, cap, rfl⟩ := okWide_slice Tryd.underlying47 hval
  obtain ⟨fuel, hf⟩ := h
  rcases Go.Deep.open_slice Tryd.underlying47 hf with ⟨hcs, hx⟩ | ⟨a, len', cap', m, n, D, Pl, hcs, _, hl, hm, hmm, hx, hV⟩
  · simp [Value.cells] at hcs
    obtain ⟨rfl, rfl, rfl⟩ := hcs
    simp only [Prod.mk.injEq] at hx
    obtain ⟨rfl, rfl⟩ := hx
    exact ⟨[], ⟨⟨none, 0, rfl, Nat.le_refl _, fun _ => rfl, fun h => by cases h⟩, fun _ h => by cases h⟩, Nat.zero_le _, fun _ h => by cases h⟩
  · simp [Value.cells] at hcs
    obtain ⟨rfl, rfl, rfl⟩ := hcs
    simp only [Prod.mk.injEq] at hx
    obtain ⟨rfl, rfl⟩ := hx
    simp only [if_true] at hmm
    subst hmm
    rw [cells_digest] at hV
    obtain ⟨B, hB⟩ := Go.Deep.choose_lt (α := List (BitVec 8)) (p := fun i dg => W.cells? 0 (a.add (i * 32)) 32 = some (cb dg) ∧ dg.length = 32 ∧ ∀ x ∈ Pl i, x.block < W.heap.size) (fun i hi => by
      obtain ⟨cs', h1, h2⟩ := hV i hi
      obtain ⟨dg, rfl, h3, h4⟩ := digest_of_cells h2
      exact ⟨dg, h1, h3, h4⟩)
    have hlen : ((List.range len).map B).length = len := by simp
    obtain ⟨ab, ao, spot⟩ := a
    have cell : ∀ i, i < m → ∀ j, j < 32 → W.cell? ((⟨ab, ao, spot⟩ : Addr).add (i * 32 + j)) = (cb (B i))[j]? := by
      intro i hi j hj
      obtain ⟨h1, _, _⟩ := hB i hi
      obtain ⟨_, _, h4⟩ := World.cells?_some h1
      have := h4 j hj
      rw [Go.Deep.add_add] at this
      exact this
    have hspot : 0 < m → spot = none := fun hp => by
      have h := cell 0 hp 0 (by omega)
      rw [cb_get _ 0 (by rw [(hB 0 hp).2.1]; omega)] at h
      simpa [Addr.add] using World.cell?_spot h
    refine ⟨(List.range len).map B, ⟨⟨some ⟨ab, ao, spot⟩, m, by rw [hlen], by rw [hlen]; exact hl, (fun h => by cases h), fun hp => ?_⟩, ?_⟩, by rw [hlen]; exact Nat.le_trans (by have := bulk_len ((List.range len).map D); simpa using this) (bulk_slice _ _), fun x hx => ?_⟩
    · rw [hlen] at hp ⊢
      have hs := hspot (by omega)
      subst hs
      refine ⟨ab, ao, rfl, fun j hj i v hv => ?_⟩
      have e : ((List.range len).map B).getD j [] = B j := by simp [hj]
      rw [e] at hv
      have hi : i < 32 := by have := (List.getElem?_eq_some_iff.1 hv).1; rwa [cb_len, (hB j (by omega)).2.1] at this
      have h := cell j (by omega) i hi
      rw [hv, Addr.add_lit] at h
      rw [Nat.add_assoc]; exact h
    · intro dg hd
      obtain ⟨i, hi, rfl⟩ := List.mem_map.1 hd
      exact (hB i (by have := List.mem_range.1 hi; omega)).2.1
    · rcases List.mem_append.1 hx with hx | hx
      · rw [cells_digest] at hx
        simp only [MemPlace.row, List.mem_map, List.mem_range] at hx
        obtain ⟨i, hi, rfl⟩ := hx
        have h := cell (i / 32) (by omega) (i % 32) (by omega)
        rw [cb_get _ _ (by rw [(hB (i / 32) (by omega)).2.1]; omega), show i / 32 * 32 + i % 32 = i by omega] at h
        have := block_lt_of_cell h
        simp only [Addr.add] at this
        split at this <;> exact this
      · obtain ⟨i, hi, hx⟩ := List.mem_flatMap.1 hx
        exact (hB i (List.mem_range.1 hi)).2.2 x hx
theorem trodAll_five {H : Type} {enc : TypeId × Value → H} {P : Program} {w : World} {base : Nat} {spare : Nat → Bool} {held : Bool} {t0 t1 t2 t3 t4 : TypeId} {args : Array Value} {ds : List (DataW H)} {ps : List MemPlace} (h : DataW.TrodAll enc P w base spare held [t0, t1, t2, t3, t4] args.toList ds ps) :
    ∃ v0 v1 v2 v3 v4 d0 d1 d2 d3 d4 p0 p1 p2 p3 p4, args = #[v0, v1, v2, v3, v4] ∧ ds = [d0, d1, d2, d3, d4] ∧ ps = p0 ++ p1 ++ p2 ++ p3 ++ p4 ∧ DataW.Trod enc P w base spare held t0 v0 d0 p0 ∧ DataW.Trod enc P w base spare held t1 v1 d1 p1 ∧ DataW.Trod enc P w base spare held t2 v2 d2 p2 ∧ DataW.Trod enc P w base spare held t3 v3 d3 p3 ∧ DataW.Trod enc P w base spare held t4 v4 d4 p4 := by
  obtain ⟨v0, vs0, d0, ds0, p0, q0, hargs, rfl, rfl, h0, r0⟩ := trodAll_cons h
  obtain ⟨v1, vs1, d1, ds1, p1, q1, rfl, rfl, rfl, h1, r1⟩ := trodAll_cons r0
  obtain ⟨v2, vs2, d2, ds2, p2, q2, rfl, rfl, rfl, h2, r2⟩ := trodAll_cons r1
  obtain ⟨v3, vs3, d3, ds3, p3, q3, rfl, rfl, rfl, h3, r3⟩ := trodAll_cons r2
  obtain ⟨v4, vs4, d4, ds4, p4, q4, rfl, rfl, rfl, h4, r4⟩ := trodAll_cons r3
  obtain ⟨rfl, rfl, rfl⟩ := trodAll_nil r4
  exact ⟨v0, v1, v2, v3, v4, d0, d1, d2, d3, d4, p0, p1, p2, p3, p4, by cases args; simp_all, rfl, by simp, h0, h1, h2, h3, h4⟩
theorem trodAll_mk5 {H : Type} {enc : TypeId × Value → H} {P : Program} {w : World} {base : Nat} {spare : Nat → Bool} {held : Bool} {t0 t1 t2 t3 t4 : TypeId} {v0 v1 v2 v3 v4 : Value} {d0 d1 d2 d3 d4 : DataW H} {p0 p1 p2 p3 p4 : List MemPlace} (h0 : DataW.Trod enc P w base spare held t0 v0 d0 p0) (h1 : DataW.Trod enc P w base spare held t1 v1 d1 p1) (h2 : DataW.Trod enc P w base spare held t2 v2 d2 p2) (h3 : DataW.Trod enc P w base spare held t3 v3 d3 p3) (h4 : DataW.Trod enc P w base spare held t4 v4 d4 p4) : DataW.TrodAll enc P w base spare held [t0, t1, t2, t3, t4] [v0, v1, v2, v3, v4] [d0, d1, d2, d3, d4] (p0 ++ (p1 ++ (p2 ++ (p3 ++ p4)))) :=
  ⟨p0, _, h0, trodAll_mk4 h1 h2 h3 h4, rfl⟩
end Go.Proofs.YtfbdnhadcnmfoaaDoor
/- What a head, a signed root and a slice of signed roots that came in give: their parts (layer 11). -/
namespace Go.Proofs.YtfbdnhadcnmfoaaDoor
open Go.ChangeShapes Go.WideShapes Go.ChangeAt Go.WideMaps Go.WideElems Go.RowKit
set_option maxRecDepth 100000
set_option maxRecDepth 100000 in
theorem readable_head : Tryd.prog.readableRec 26 = true := by kernel_rfl
set_option maxRecDepth 100000 in
theorem row_head : 26 < Tryd.prog.types.size := of_decide_eq_true (by kernel_rfl)
set_option maxRecDepth 100000 in
theorem cells_head : Tryd.prog.cellsOf 26 = 65 := by kernel_rfl
set_option maxRecDepth 100000 in
theorem readable_signed : Tryd.prog.readableRec 31 = true := by kernel_rfl
set_option maxRecDepth 100000 in
theorem row_signed : 31 < Tryd.prog.types.size := of_decide_eq_true (by kernel_rfl)
set_option maxRecDepth 100000 in
theorem cells_signed : Tryd.prog.cellsOf 31 = 98 := by kernel_rfl
set_option maxRecDepth 100000 in
theorem cells_root : Tryd.prog.cellsOf 28 = 97 := by kernel_rfl
set_option maxRecDepth 100000 in
theorem cells_u64c : Tryd.prog.cellsOf 24 = 1 := by kernel_rfl
set_option maxRecDepth 100000 in
theorem cells_bytesc : Tryd.prog.cellsOf 29 = 1 := by kernel_rfl
set_option maxRecDepth 100000 in
theorem readable_signeds : Tryd.prog.readableRec 42 = true := by kernel_rfl
set_option maxRecDepth 100000 in
theorem row_signeds : 42 < Tryd.prog.types.size := of_decide_eq_true (by kernel_rfl)
theorem reads_of_cells11 {H : Type} {enc : TypeId × Value → H} {W : World} {v : Value} {y : DataW H × List MemPlace} {fuel : Nat} (hf : DataW.trod enc Tryd.prog W 0 (fun _ => true) true fuel 29 [v] = some y) :
    ∃ bs, Reads W v bs := by
  rcases open_ints Tryd.underlying29 Tryd.underlying5 cells_byte hf with ⟨hcs, hx⟩ | ⟨a, len, cap, zs, hcs, _, hl, hm, hz, hx, hcell, hwz⟩
  · simp only [List.cons.injEq, and_true] at hcs
    subst hcs
    exact ⟨[], ⟨none, 0, rfl, Nat.le_refl _, fun _ => rfl, fun h => by cases h⟩⟩
  · simp only [List.cons.injEq, and_true] at hcs
    subst hcs
    simp only [if_true] at hz
    have hlen : ((zs.take len).map fun n => BitVec.ofInt 8 n).length = len := by simp; omega
    obtain ⟨ab, ao, spot⟩ := a
    refine ⟨(zs.take len).map fun n => BitVec.ofInt 8 n, ⟨some ⟨ab, ao, spot⟩, cap, by rw [hlen], by rw [hlen]; exact hl, (fun h => by cases h), fun hp => ?_⟩⟩
    rw [hlen] at hp ⊢
    have hspot : spot = none := by simpa [Addr.add] using World.cell?_spot (hcell 0 (by omega))
    subst hspot
    refine ⟨ab, ao, rfl, fun j hj => ?_⟩
    have hcj := hcell j (by omega)
    rw [Addr.add_lit] at hcj
    rw [hcj]
    have hb := byte_range hwz j
    have e : ((zs.take len).map fun n => BitVec.ofInt 8 n).getD j 0 = BitVec.ofInt 8 (zs.getD j 0) := by
      rw [List.getD_eq_getElem?_getD, List.getElem?_map, List.getElem?_take_of_lt hj, List.getD_eq_getElem?_getD, List.getElem?_eq_getElem (show j < zs.length by omega)]
      rfl
    rw [e, BitVec.toNat_ofInt]
    congr 2
    omega
theorem take_one11 {l : List Value} {k n : Nat} (hl : l.length = n) (hk : k < n) : ∃ c, (l.drop k).take 1 = [c] := by
  have h : (l.drop k).length = n - k := by rw [List.length_drop, hl]
  match hq : l.drop k, h with
  | [], h => simp at h; omega
  | c :: r, _ => exact ⟨c, rfl⟩
set_option maxRecDepth 100000 in
theorem head_of_trod {H : Type} {enc : TypeId × Value → H} {W : World} {base : Nat} {v : Value} {d : DataW H} {p : List MemPlace} (hval : Value.okWide Tryd.prog W .any base 26 v)
    (h : DataW.Trod enc Tryd.prog W 0 (fun _ => true) true 26 v d p) :
    ∃ hd : HdT, v = .agg (hdC hd).toArray ∧ okH hd ∧ ∀ q ∈ p, q.block < W.heap.size := by
  simp only [Value.okWide, Tryd.underlying26] at hval
  obtain ⟨cs, rfl, hcs, _⟩ := hval
  obtain ⟨fuel, hf⟩ := h
  have hp := DataW.trod_lt _ _ _ _ hf
  obtain ⟨y0, y1, y2, n, hx, hl, h0, h1, h2⟩ := Go.Deep.trod_struct3 Tryd.underlying26 hf
  simp only [Value.cells] at hl h0 h1 h2
  rw [cells_head] at hl
  rw [cells_u64c] at h0
  rw [cells_digest] at h1 h2
  obtain ⟨l⟩ := cs
  simp only at hl h0 h1 h2
  obtain ⟨m, e0, _, hw⟩ := DataW.trod_int Tryd.underlying24 h0
  obtain ⟨a1, b1⟩ := y1
  obtain ⟨a2, b2⟩ := y2
  obtain ⟨x, f1, lx, _⟩ := digest_of_cells h1
  obtain ⟨y, f2, ly, _⟩ := digest_of_cells h2
  have hb := bounds_u64 hw
  have d1 : l = l.take 1 ++ l.drop 1 := (List.take_append_drop 1 l).symm
  have d2 : l.drop 1 = (l.drop 1).take 32 ++ l.drop 33 := by
    have := (List.take_append_drop 32 (l.drop 1)).symm
    rwa [List.drop_drop] at this
  have d3 : l.drop 33 = (l.drop 33).take 32 := by
    rw [List.take_of_length_le (by rw [List.length_drop]; omega)]
  rw [List.drop_zero] at e0
  refine ⟨(m.toNat, x, y), ?_, okH_mk lx ly (by omega), hp⟩
  congr 1
  rw [d1, d2, d3, e0, f1, f2, hdC]
  rw [Int.toNat_of_nonneg (by omega)]
  rfl
set_option maxRecDepth 100000 in
theorem signed_of_cells {H : Type} {enc : TypeId × Value → H} {W : World} {l : List Value} {d : DataW H} {p : List MemPlace} {fuel : Nat} (hf : DataW.trod enc Tryd.prog W 0 (fun _ => true) true fuel 31 l = some (d, p)) :
    ∃ (s : SgT) (c : Value), l = sgC s c ∧ okS s ∧ Reads W c s.2 ∧ ∀ q ∈ p, q.block < W.heap.size := by
  have hp := DataW.trod_lt _ _ _ _ hf
  obtain ⟨y0, y1, n, hx, hl, h0, h1⟩ := Go.ChangeShapes.trod_struct2 Tryd.underlying31 hf
  rw [cells_signed] at hl
  rw [cells_root] at h0
  rw [cells_bytesc] at h1
  simp only at hl h0 h1
  obtain ⟨c, e1⟩ := take_one11 (k := 97) hl (by omega)
  rw [e1] at h1
  obtain ⟨sg, hr⟩ := reads_of_cells11 (v := c) h1
  obtain ⟨r0, r1, r2, r3, n', hx', hl', k0, k1, k2, k3⟩ := Go.Joins.trod_struct4 Tryd.underlying28 h0
  rw [cells_u64c] at k0
  rw [cells_digest] at k1 k2 k3
  obtain ⟨m, e0, _, hw⟩ := DataW.trod_int Tryd.underlying24 k0
  obtain ⟨a1, b1⟩ := r1
  obtain ⟨a2, b2⟩ := r2
  obtain ⟨a3, b3⟩ := r3
  obtain ⟨x, f1, lx, _⟩ := digest_of_cells k1
  obtain ⟨y, f2, ly, _⟩ := digest_of_cells k2
  obtain ⟨z, f3, lz, _⟩ := digest_of_cells k3
  have hb := bounds_u64 hw
  obtain ⟨r, hr0⟩ : ∃ r, r = (l.drop 0).take 97 := ⟨_, rfl⟩
  rw [← hr0] at e0 f1 f2 f3 hl'
  rw [cells_root] at hl'
  have d1 : r = r.take 1 ++ r.drop 1 := (List.take_append_drop 1 r).symm
  have d2 : r.drop 1 = (r.drop 1).take 32 ++ r.drop 33 := by
    have := (List.take_append_drop 32 (r.drop 1)).symm
    rwa [List.drop_drop] at this
  have d3 : r.drop 33 = (r.drop 33).take 32 ++ r.drop 65 := by
    have := (List.take_append_drop 32 (r.drop 33)).symm
    rwa [List.drop_drop] at this
  have d4 : r.drop 65 = (r.drop 65).take 32 := by
    rw [List.take_of_length_le (by rw [List.length_drop]; omega)]
  rw [List.drop_zero] at e0
  have hrr : r = .int .u64 m :: (cb x ++ (cb y ++ cb z)) := by
    rw [d1, d2, d3, d4, e0, f1, f2, f3]; rfl
  have dl : l = l.take 97 ++ l.drop 97 := (List.take_append_drop 97 l).symm
  have d97 : l.drop 97 = (l.drop 97).take 1 := by rw [List.take_of_length_le (by rw [List.length_drop]; omega)]
  rw [List.drop_zero] at hr0
  refine ⟨((m.toNat, x, y, z), sg), c, ?_, okS_mk lx ly lz (by omega), hr, hp⟩
  rw [dl, ← hr0, d97, e1, hrr]
  unfold sgC
  rw [Int.toNat_of_nonneg (by omega)]
  simp
set_option maxRecDepth 100000 in
theorem signed11_of_trod {H : Type} {enc : TypeId × Value → H} {W : World} {base : Nat} {v : Value} {d : DataW H} {p : List MemPlace} (hval : Value.okWide Tryd.prog W .any base 31 v)
    (h : DataW.Trod enc Tryd.prog W 0 (fun _ => true) true 31 v d p) :
    ∃ (s : SgT) (c : Value), v = .agg (sgC s c).toArray ∧ okS s ∧ Reads W c s.2 ∧ ∀ q ∈ p, q.block < W.heap.size := by
  simp only [Value.okWide, Tryd.underlying31] at hval
  obtain ⟨cs, rfl, hcs, _⟩ := hval
  obtain ⟨fuel, hf⟩ := h
  obtain ⟨l⟩ := cs
  obtain ⟨s, c, h1, h2⟩ := signed_of_cells (l := l) hf
  exact ⟨s, c, by rw [h1], h2⟩
theorem readsS_of_trod {H : Type} {enc : TypeId × Value → H} {W : World} {base : Nat} {v : Value} {d : DataW H} {p : List MemPlace} (hval : Value.okWide Tryd.prog W .any base 42 v)
    (h : DataW.Trod enc Tryd.prog W 0 (fun _ => true) true 42 v d p) :
    ∃ l, ReadsS W v l ∧ ∀ x ∈ p, x.block < W.heap.size := by
  obtain ⟨a1, len, cap, rfl⟩ := okWide_slice Tryd.underlying42 hval
  obtain ⟨fuel, hf⟩ := h
  have hp0 := DataW.trod_lt _ _ _ _ hf
  rcases Go.Deep.open_slice Tryd.underlying42 hf with ⟨hcs, hx⟩ | ⟨a, len', cap', m, n, D, Pl, hcs, _, hl, hm, hmm, hx, hV⟩
  · simp [Value.cells] at hcs
    obtain ⟨rfl, rfl, rfl⟩ := hcs
    exact ⟨[], ReadsS.nil W, hp0⟩
  · simp [Value.cells] at hcs
    obtain ⟨rfl, rfl, rfl⟩ := hcs
    simp only [if_true] at hmm
    subst hmm
    rw [cells_signed] at hV
    obtain ⟨B, hB⟩ := Go.Deep.choose_lt (α := SgT × Value) (p := fun i q => W.cells? 0 (a.add (i * 98)) 98 = some (sgC q.1 q.2) ∧ okS q.1 ∧ Reads W q.2 q.1.2) (fun i hi => by
      obtain ⟨cs', h1, h2⟩ := hV i hi
      obtain ⟨s, c, rfl, h3, h4, _⟩ := signed_of_cells h2
      exact ⟨(s, c), h1, h3, h4⟩)
    have hlen : ((List.range len).map fun i => (B i).1).length = len := by simp
    obtain ⟨ab, ao, spot⟩ := a
    have cell : ∀ i, i < m → ∀ j, j < 98 → W.cell? ((⟨ab, ao, spot⟩ : Addr).add (i * 98 + j)) = (sgC (B i).1 (B i).2)[j]? := by
      intro i hi j hj
      obtain ⟨h1, _, _⟩ := hB i hi
      obtain ⟨_, _, h4⟩ := World.cells?_some h1
      have := h4 j hj
      rw [Go.Deep.add_add] at this
      exact this
    have hspot : 0 < m → spot = none := fun hp => by
      have h := cell 0 hp 0 (by omega)
      rw [show (sgC (B 0).1 (B 0).2)[0]? = some (.int .u64 ((B 0).1.1.1 : Int)) from rfl] at h
      simpa [Addr.add] using World.cell?_spot h
    refine ⟨(List.range len).map fun i => (B i).1, ⟨⟨some ⟨ab, ao, spot⟩, m, by rw [hlen], by rw [hlen]; exact hl, (fun h => by cases h), fun hp => ?_⟩, ?_⟩, hp0⟩
    · rw [hlen] at hp ⊢
      have hs := hspot (by omega)
      subst hs
      refine ⟨ab, ao, rfl, fun j hj => ?_⟩
      have e : ((List.range len).map fun i => (B i).1).getD j zeroS = (B j).1 := by simp [hj]
      rw [e]
      refine ⟨(B j).2, ⟨fun i v hv => ?_, (hB j (by omega)).2.1⟩, (hB j (by omega)).2.2⟩
      have hi : i < 98 := by have := (List.getElem?_eq_some_iff.1 hv).1; rwa [len_sgC (hB j (by omega)).2.1] at this
      have h := cell j (by omega) i hi
      rw [hv, Addr.add_lit] at h
      rw [Nat.add_assoc]; exact h
    · intro s hs
      obtain ⟨i, hi, rfl⟩ := List.mem_map.1 hs
      exact (hB i (by have := List.mem_range.1 hi; omega)).2.1
end Go.Proofs.YtfbdnhadcnmfoaaDoor

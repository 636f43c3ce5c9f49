/- Texts that the proof leans on, one behind the other: ChainSeals, over what chain's functions do (layer 11). A list of signed roots that grows; what is sealed from the pin on (layer 11). ChainHonest, over what chain's functions do (layer 11). .. -/
import Derived.Test.YtfbdnhadcnmfoaaDoorMgd
import Derived.Maps.AppendAt
import Derived.Test.YtfbdnhadcnmfoaaDoorRows
import Derived.Test.YtfbdnhadcnmfoaaDoorMga
import Derived.ProofKit
import Derived.LaidMore
import Derived.OpenShut
import Derived.Stop.Joined
import Derived.Lib.LaidTab
import Derived.Carry
import Derived.ChangeSlices
import Derived.Test.YtfbdnhadcnmfoaaDoorMgc
import Derived.Deep.Slices
/- ChainSeals, over what chain's functions do (layer 11). -/
namespace Go.Proofs.YtfbdnhadcnmfoaaDoor
open Go.RowKit Go.Shelf
set_option maxRecDepth 100000
theorem eq_rt (s t : SgT) (os : okS s) (ot : okS t) (w : World) : (Op.equalIn 10000 28 (.agg (rtC s).toArray) (.agg (rtC t).toArray)).run Tryd.prog w = .ok (decide (s.1 = t.1)) w := by
  have h := eq_root s.1.1 t.1.1 s.1.2.1 s.1.2.2.1 s.1.2.2.2 t.1.2.1 t.1.2.2.1 t.1.2.2.2 os.1 os.2.1 os.2.2.1 ot.1 ot.2.1 ot.2.2.1 w
  have e : decide (s.1 = t.1) = decide (s.1.1 = t.1.1 ∧ s.1.2.1 = t.1.2.1 ∧ s.1.2.2.1 = t.1.2.2.1 ∧ s.1.2.2.2 = t.1.2.2.2) := by
    obtain ⟨⟨n, x, y, z⟩, g⟩ := s
    obtain ⟨⟨m, a, b, c⟩, g'⟩ := t
    simp
  rw [e]
  exact h
theorem wpSeq_eqR {ops : Array Oper} {Q : Exit → Act → World → Prop} {rest : List Oper} {o : Oper} {a : Act} {w : World} (x y : Operand) (s t : SgT) (os : okS s) (ot : okS t) (b : Bool) (hb : b = decide (s.1 = t.1)) (ho : o.op = .binOp .eql 28 x y 28) (hx : a.eval x = .agg (rtC s).toArray) (hy : a.eval y = .agg (rtC t).toArray) (hw : Region.wanted o (yielded ops a.tmps) = true)
    (hh : wpList Tryd.prog ops Q rest (a.put o.dst (.bool b)) w) : wpList Tryd.prog ops Q (o :: rest) a w := by
  refine wpSeq_val _ _ hw ?_ hh
  have he := eq_rt s t os ot w
  have hg := run_eqGuard_agg (P := Tryd.prog) (w := w) .eql 28 x y (rtC s).toArray (rtC t).toArray (by kernel_rfl)
  unfold execOp
  rw [ho]
  simp only [hx, hy, Sem.run_bind, hg, run_eql_struct, he, Result.andThen_ok, hb, Sem.run_pure]
set_option maxRecDepth 100000 in
set_option maxHeartbeats 8000000 in
theorem sameS_any (s : SgT) (va vb : Value) (w : World) (os : okS s) (ha : Reads w va s.2) (hb : Reads w vb s.2) :
    Calls Tryd.prog 11 #[.agg (sgC s va).toArray, .agg (sgC s vb).toArray] w fun e w' => e = .returned (.bool true) ∧ Below w.heap.size w w' := by
  obtain ⟨aa, na, ca, hva⟩ := ha.form
  obtain ⟨ab, nb, cbb, hvb⟩ := hb.form
  subst hva hvb
  have HRA : Hid (Reads w (.slice aa na ca) s.2) := ha
  have HRB : Hid (Reads w (.slice ab nb cbb) s.2) := hb
  have HOS : Hid (okS s) := os
  have HBW : Hid (Below w.heap.size w w) := Below.refl _ _
  clear ha hb os
  go_enter Tryd.func11, Tryd.ntmps11
  have tk0 : Hid True := trivial
  have tk1 : Hid True := trivial
  have tk2 : Hid True := trivial
  have tk3 : Hid True := trivial
  have tk4 : Hid True := trivial
  go_wp2_with (first
    | (clear tk0; with_reducible refine wpSeq_boxW 31 (.tmp 0) (sgC s (.slice aa na ca)) ?_ ?_ ?_ ?_
       · rfl
       · rfl
       · rfl
       intro g2 y1 nn
       replace HRA : Hid (Reads y1 (.slice aa na ca) s.2) := HRA.out.below nn.below
       replace HRB : Hid (Reads y1 (.slice ab nb cbb) s.2) := HRB.out.below nn.below
       replace HBW : Hid (Below w.heap.size w y1) := HBW.out.trans (nn.below.mono HBW.out.size)
       have HG2 : Hid (Blk y1 g2 (sgC s (.slice aa na ca)) 31) := nn.blk
       clear nn)
    | (clear tk1; with_reducible refine wpSeq_boxW 31 (.tmp 1) (sgC s (.slice ab nb cbb)) ?_ ?_ ?_ ?_
       · rfl
       · rfl
       · rfl
       intro g3 y2 nn
       replace HG2 : Hid (Blk y2 g2 (sgC s (.slice aa na ca)) 31) := HG2.out.below nn.below HG2.out.lt
       replace HRA : Hid (Reads y2 (.slice aa na ca) s.2) := HRA.out.below nn.below
       replace HRB : Hid (Reads y2 (.slice ab nb cbb) s.2) := HRB.out.below nn.below
       replace HBW : Hid (Below w.heap.size w y2) := HBW.out.trans (nn.below.mono HBW.out.size)
       have HG3 : Hid (Blk y2 g3 (sgC s (.slice ab nb cbb)) 31) := nn.blk
       have c2 : y2.cell? ⟨g2, 97, none⟩ = some (.slice aa na ca) := by have := (HG2.out.sgAt HOS.out).sig; rwa [Nat.zero_add] at this
       have c3 : y2.cell? ⟨g3, 97, none⟩ = some (.slice ab nb cbb) := by have := (HG3.out.sgAt HOS.out).sig; rwa [Nat.zero_add] at this
       have v2 := conv_reads HRA.out
       have v3 := conv_reads HRB.out
       have q2 := strB_inj s.2 s.2
       rw [decide_eq_true rfl] at q2
       clear nn)
    | (clear tk2; with_reducible refine wpSeq_loadW 28 (.tmp 5) g2 0 (rtC s) _ ?_ Tryd.underlying28 rfl ?_ ?_ ?_ ?_ ?_
       · exact (HG2.out.sgAt HOS.out).root
       · exact info_rtC HOS.out
       · rfl
       · rfl
       · rfl)
    | (clear tk3; with_reducible refine wpSeq_loadW 28 (.tmp 7) g3 0 (rtC s) _ ?_ Tryd.underlying28 rfl ?_ ?_ ?_ ?_ ?_
       · exact (HG3.out.sgAt HOS.out).root
       · exact info_rtC HOS.out
       · rfl
       · rfl
       · rfl)
    | (clear tk4; with_reducible refine wpSeq_eqR (.tmp 6) (.tmp 8) s s HOS.out HOS.out true ?_ ?_ ?_ ?_ ?_ ?_
       · exact (decide_eq_true rfl).symm
       · rfl
       · rfl
       · rfl
       · rfl))
  go_ret
  first | exact ⟨rfl, HBW.out⟩ | exact ⟨trivial, HBW.out⟩
theorem hdC_key (n : Nat) (r k : List (BitVec 8)) : hdC (n, r, k) = (Value.int .u64 (n : Int) :: cb r) ++ (cb k ++ []) := by simp [hdC]
theorem wpSeq_storeKey {ops : Array Oper} {Q : Exit → Act → World → Prop} {rest : List Oper} {o : Oper} {a : Act} {w : World} (x y : Operand) (g n : Nat) (r k l : List (BitVec 8)) (hb : Blk w g (hdC (n, r, k)) 26) (hr : r.length = 32) (hk : k.length = 32) (hl : l.length = 32) (ho : o.op = .store 23 x y) (hx : a.eval x = .pointer (some ⟨g, 33, none⟩)) (hy : a.eval y = .agg (cb l).toArray) (hgd : o.guard = none)
    (h : ∀ w', SetR (hdC (n, r, l)) 26 w g w' → wpList Tryd.prog ops Q rest (a.put o.dst undef) w') : wpList Tryd.prog ops Q (o :: rest) a w := by
  rw [hdC_key] at hb h
  exact wpSeq_storeSeg x y g 33 _ (cb k) [] l 26 hb (by rw [List.length_cons, cb_len, hr]) (by rw [cb_len, hk]) hl ho hx hy hgd h
theorem build_zd (f : Operand → Value) (o : Oper) (ho : o.op = .build 23 #[]) (w : World) : (execOp f o).run Tryd.prog w = .ok (.value (.agg (cb zb32).toArray)) w := by
  unfold execOp
  rw [ho]
  kernel_rfl
theorem wpSeq_buildZD {ops : Array Oper} {Q : Exit → Act → World → Prop} {rest : List Oper} {o : Oper} {a : Act} {w : World} (ho : o.op = .build 23 #[]) (hw : Region.wanted o (yielded ops a.tmps) = true)
    (h : wpList Tryd.prog ops Q rest (a.put o.dst (.agg (cb zb32).toArray)) w) : wpList Tryd.prog ops Q (o :: rest) a w :=
  wpSeq_val _ _ hw (build_zd _ _ ho _) h
theorem Reads.apartB {w w' : World} {ad : Option Addr} {n c g : Nat} {l : List (BitVec 8)} (h : Reads w (.slice ad n c) l) (ho : Only g w w') (hne : ∀ k, (Value.slice ad n c).ownBlock = some k → k ≠ g) : Reads w' (.slice ad n c) l := by
  obtain ⟨ad', c', hv, hc, hn, hx⟩ := h
  refine ⟨ad', c', hv, hc, hn, fun hp => ?_⟩
  obtain ⟨b, off, rfl, hy⟩ := hx hp
  simp only [Value.slice.injEq] at hv
  obtain ⟨rfl, _⟩ := hv
  exact ⟨b, off, rfl, fun j hj => ho.cell (p := ⟨b, off + j, none⟩) (hne b rfl) (hy j hj)⟩
set_option maxRecDepth 100000 in
set_option maxHeartbeats 8000000 in
theorem chainSeals_law (hO : ChOps) (seed tree : List (BitVec 8)) (h : HdT) (w : World) (hK : KOk w) (hs : seed.length = 32) (oh : okH h) (ht : tree.length = 32) :
    Calls Tryd.prog 3 #[.agg (cb seed).toArray, .agg (hdC h).toArray, .agg (cb tree).toArray] w fun e w' => e = .returned (.bool true) ∧ Below w.heap.size w w' := by
  obtain ⟨n, rt, ky⟩ := h
  have HCW : Hid (∀ W : World, Below w.heap.size w W → Calls Tryd.prog 12 #[] W fun e w' => e = .returned (.bool true) ∧ Below W.heap.size W w') := fun W hh => works11_any hO W (hK.below hh hK.lt)
  have HOH : Hid (okH (n, rt, ky)) := oh
  have HID : Hid ((Tryd.prog.info? 23).map (·.size) = some (cb seed).length ∧ (Tryd.prog.info? 23).map (·.size) = some (cb tree).length) := by rw [cb_len, hs, cb_len, ht]; exact ⟨info_digest, info_digest⟩
  obtain ⟨s, HS⟩ : ∃ c, Hid (c = (sealR seed (n, rt, ky) tree).1) := ⟨_, rfl⟩
  obtain ⟨es, HES⟩ : ∃ c, Hid (c = (sealR seed (n, rt, ky) tree).2) := ⟨_, rfl⟩
  have HOS : Hid (okS s) := by rw [HS.out]; exact seal_okS seed _ tree oh ht
  have HC1 : Hid (∀ W : World, Below w.heap.size w W → Calls Tryd.prog 9 #[.agg (cb seed).toArray, .agg (hdC (n, rt, ky)).toArray, .agg (cb tree).toArray] W fun e w' => ∃ ad m c, e = .returned (.tuple #[.agg (sgC s (.slice ad m c)).toArray, .int .i64 es]) ∧ Reads w' (.slice ad m c) s.2 ∧ (∀ k, (Value.slice ad m c).ownBlock = some k → W.heap.size ≤ k) ∧ Below W.heap.size W w') := fun W hh => by rw [HS.out, HES.out]; exact hO.seals W seed tree _ (hK.below hh hK.lt) hs oh ht
  have HC2 : Hid (∀ W : World, Below w.heap.size w W → Calls Tryd.prog 10 #[.agg (cb seed).toArray, .agg (hdC (n, rt, ky)).toArray, .agg (cb tree).toArray] W fun e w' => ∃ ad m c, e = .returned (.tuple #[.agg (sgC s (.slice ad m c)).toArray, .int .i64 es]) ∧ Reads w' (.slice ad m c) s.2 ∧ (∀ k, (Value.slice ad m c).ownBlock = some k → W.heap.size ≤ k) ∧ Below W.heap.size W w') := fun W hh => by rw [HS.out, HES.out]; exact qcSeal_fresh seed tree _ W hs oh ht
  obtain ⟨pk, HPK⟩ : ∃ c, Hid (c = pubR seed 1) := ⟨_, rfl⟩
  have HPL : Hid (pk.length = 32) := by show _ = _; rw [HPK.out]; exact len_pubR _ _
  have HC5 : Hid (∀ W : World, Below w.heap.size w W → Calls Tryd.prog 13 #[.agg (cb seed).toArray] W fun e w' => e = .returned (.agg (cb pk).toArray) ∧ Below W.heap.size W w') := fun W hh => by rw [HPK.out]; exact hO.pin W seed (hK.below hh hK.lt) hs
  have HBW : Hid (Below w.heap.size w w) := Below.refl _ _
  have HOP : Hid ChOps := hO
  have HKK : Hid (KOk w) := hK
  clear hO hK oh hs ht
  by_cases h64 : 64 ≤ n
  · have HE : Hid (es = 12) := by show _ = _; rw [HES.out, sealR, if_pos h64]
    have k1 : (es == 0) = false := by rw [HE.out]; rfl
    have k2 : (es != 0) = true := by rw [bne, k1]; rfl
    have k3 : (es == es) = true := by simp
    have k4 : (es != es) = false := by rw [bne, k3]; rfl
    clear HE h64
    go_enter Tryd.func3, Tryd.ntmps3
    have tk0 : Hid True := trivial
    have tk1 : Hid True := trivial
    have tk2 : Hid True := trivial
    have tk3 : Hid True := trivial
    have tk4 : Hid True := trivial
    have tk5 : Hid True := trivial
    have tk6 : Hid True := trivial
    have tk7 : Hid True := trivial
    have tk8 : Hid True := trivial
    have tk9 : Hid True := trivial
    have tk10 : Hid True := trivial
    have tk11 : Hid True := trivial
    have tk12 : Hid True := trivial
    have tk13 : Hid True := trivial
    have tk14 : Hid True := trivial
    have tk15 : Hid True := trivial
    have tk16 : Hid True := trivial
    have tk17 : Hid True := trivial
    have tk18 : Hid True := trivial
    go_wp2_with (first
      | (clear tk0; with_reducible refine wpSeq_boxW 23 (.tmp 0) (cb seed) ?_ ?_ ?_ ?_
         · rfl
         · rfl
         · rfl
         intro g3 y1 nn
         replace HBW : Hid (Below w.heap.size w y1) := HBW.out.trans (nn.below.mono HBW.out.size)
         have HG3 : Hid (Blk y1 g3 (cb seed) 23) := nn.blk
         clear nn)
      | (clear tk1; with_reducible refine wpSeq_boxW 26 (.tmp 1) (hdC (n, rt, ky)) ?_ ?_ ?_ ?_
         · rfl
         · rfl
         · rfl
         intro g4 y2 nn
         have HGE4 : Hid (w.heap.size ≤ g4) := Nat.le_trans HBW.out.size nn.ge
         have HN3 : Hid (g3 < g4) := by have h1 := HG3.out.lt; have h2 := nn.ge; show _ < _; omega
         replace HG3 : Hid (Blk y2 g3 (cb seed) 23) := HG3.out.below nn.below HG3.out.lt
         replace HBW : Hid (Below w.heap.size w y2) := HBW.out.trans (nn.below.mono HBW.out.size)
         have HG4 : Hid (Blk y2 g4 (hdC (n, rt, ky)) 26) := nn.blk
         clear nn)
      | (clear tk2; with_reducible refine wpSeq_boxW 23 (.tmp 2) (cb tree) ?_ ?_ ?_ ?_
         · rfl
         · rfl
         · rfl
         intro g5 y3 nn
         have HLT : Hid (g4 < g5 ∧ w.heap.size ≤ g4) := ⟨by have h1 := HG4.out.lt; have h2 := nn.ge; omega, HGE4.out⟩
         replace HG3 : Hid (Blk y3 g3 (cb seed) 23) := HG3.out.below nn.below HG3.out.lt
         replace HG4 : Hid (Blk y3 g4 (hdC (n, rt, ky)) 26) := HG4.out.below nn.below HG4.out.lt
         replace HBW : Hid (Below w.heap.size w y3) := HBW.out.trans (nn.below.mono HBW.out.size)
         have HG5 : Hid (Blk y3 g5 (cb tree) 23) := nn.blk
         clear nn)
      | (clear tk3; with_reducible refine wpSeq_loadW 23 (.tmp 3) g3 0 (cb seed) _ ?_ Tryd.underlying23 rfl ?_ ?_ ?_ ?_ ?_
         · exact HG3.out.range
         · exact HID.out.1
         · rfl
         · rfl
         · rfl)
      | (clear tk4; with_reducible refine wpSeq_loadW 26 (.tmp 4) g4 0 (hdC (n, rt, ky)) _ ?_ Tryd.underlying26 rfl ?_ ?_ ?_ ?_ ?_
         · exact HG4.out.range
         · exact info_hdC HOH.out
         · rfl
         · rfl
         · rfl)
      | (clear tk5; with_reducible refine wpSeq_loadW 23 (.tmp 5) g5 0 (cb tree) _ ?_ Tryd.underlying23 rfl ?_ ?_ ?_ ?_ ?_
         · exact HG5.out.range
         · exact HID.out.2
         · rfl
         · rfl
         · rfl)
      | (clear tk6; go_at_call 9; refine (HC1.out y3 HBW.out).mono ?_; rintro e y4 ⟨a1, n1, c1, rfl, hrd, hfr, hbz⟩
         have HF1 : Hid (∀ k, (Value.slice a1 n1 c1).ownBlock = some k → k ≠ g4) := fun k hk => by have h1 := hfr k hk; have h2 := HG4.out.lt; omega
         clear hfr
         replace HG3 : Hid (Blk y4 g3 (cb seed) 23) := HG3.out.below hbz HG3.out.lt
         replace HG4 : Hid (Blk y4 g4 (hdC (n, rt, ky)) 26) := HG4.out.below hbz HG4.out.lt
         replace HG5 : Hid (Blk y4 g5 (cb tree) 23) := HG5.out.below hbz HG5.out.lt
         replace HBW : Hid (Below w.heap.size w y4) := HBW.out.trans (hbz.mono HBW.out.size)
         have HR1 : Hid (Reads y4 (.slice a1 n1 c1) s.2) := hrd
         clear hbz hrd)
      | (clear tk7; with_reducible refine wpSeq_allocS ?_ ?_ ?_
         · rfl
         · rfl
         intro g7 y5 nn
         have HN7 : Hid (g4 < g7) := by have h4 := HG4.out.lt; have h5 := nn.ge; show _ < _; omega)
      | (clear tk8; with_reducible refine wpSeq_storeRow 31 (.tmp 7) (.tmp 20) g7 (sgC zeroS (.slice none 0 0)) (sgC s (.slice a1 n1 c1)) ?_ ?_ ?_ ?_ ?_ ?_ ?_ ?_ ?_
         · exact nn.blk
         · first | (with_reducible rfl) | rw [len_sgC HOS.out, len_sgC okS_zero]
         · exact info_sgC HOS.out _
         · exact sgC_one _ _ _ _
         · rfl
         · rfl
         · rfl
         · rfl
         intro y6 hs
         have hbz := nn.below.trans (hs.only.below nn.ge nn.below.size)
         replace HG3 : Hid (Blk y6 g3 (cb seed) 23) := HG3.out.below hbz HG3.out.lt
         replace HG4 : Hid (Blk y6 g4 (hdC (n, rt, ky)) 26) := HG4.out.below hbz HG4.out.lt
         replace HG5 : Hid (Blk y6 g5 (cb tree) 23) := HG5.out.below hbz HG5.out.lt
         replace HR1 : Hid (Reads y6 (.slice a1 n1 c1) s.2) := HR1.out.below hbz
         replace HBW : Hid (Below w.heap.size w y6) := HBW.out.trans (hbz.mono HBW.out.size)
         have HG7 : Hid (Blk y6 g7 (sgC s (.slice a1 n1 c1)) 31) := hs.blk
         clear nn hs hbz)
      | (clear tk9; with_reducible refine wpSeq_loadW 23 (.tmp 3) g3 0 (cb seed) _ ?_ Tryd.underlying23 rfl ?_ ?_ ?_ ?_ ?_
         · exact HG3.out.range
         · exact HID.out.1
         · rfl
         · rfl
         · rfl)
      | (clear tk10; with_reducible refine wpSeq_loadW 26 (.tmp 4) g4 0 (hdC (n, rt, ky)) _ ?_ Tryd.underlying26 rfl ?_ ?_ ?_ ?_ ?_
         · exact HG4.out.range
         · exact info_hdC HOH.out
         · rfl
         · rfl
         · rfl)
      | (clear tk11; with_reducible refine wpSeq_loadW 23 (.tmp 5) g5 0 (cb tree) _ ?_ Tryd.underlying23 rfl ?_ ?_ ?_ ?_ ?_
         · exact HG5.out.range
         · exact HID.out.2
         · rfl
         · rfl
         · rfl)
      | (clear tk12; go_at_call 10; refine (HC2.out y6 HBW.out).mono ?_; rintro e y7 ⟨a2, n2, c2, rfl, hrd, hfr, hbz⟩
         have HF2 : Hid (∀ k, (Value.slice a2 n2 c2).ownBlock = some k → k ≠ g4) := fun k hk => by have h1 := hfr k hk; have h2 := HG4.out.lt; omega
         clear hfr
         replace HG3 : Hid (Blk y7 g3 (cb seed) 23) := HG3.out.below hbz HG3.out.lt
         replace HG4 : Hid (Blk y7 g4 (hdC (n, rt, ky)) 26) := HG4.out.below hbz HG4.out.lt
         replace HG5 : Hid (Blk y7 g5 (cb tree) 23) := HG5.out.below hbz HG5.out.lt
         replace HG7 : Hid (Blk y7 g7 (sgC s (.slice a1 n1 c1)) 31) := HG7.out.below hbz HG7.out.lt
         replace HR1 : Hid (Reads y7 (.slice a1 n1 c1) s.2) := HR1.out.below hbz
         replace HBW : Hid (Below w.heap.size w y7) := HBW.out.trans (hbz.mono HBW.out.size)
         have HR2 : Hid (Reads y7 (.slice a2 n2 c2) s.2) := hrd
         clear hbz hrd)
      | (clear tk13; with_reducible refine wpSeq_allocS ?_ ?_ ?_
         · rfl
         · rfl
         intro g9 y8 nn
         have HN4 : Hid (g3 < g4 ∧ g4 < g5 ∧ g4 < g7 ∧ g4 < g9) := by have h1 := HN3.out; have h2 := HLT.out.1; have h3 := HN7.out; have h4 := HG4.out.lt; have h5 := nn.ge; exact ⟨by omega, by omega, by omega, by omega⟩)
      | (clear tk14; with_reducible refine wpSeq_storeRow 31 (.tmp 9) (.tmp 27) g9 (sgC zeroS (.slice none 0 0)) (sgC s (.slice a2 n2 c2)) ?_ ?_ ?_ ?_ ?_ ?_ ?_ ?_ ?_
         · exact nn.blk
         · first | (with_reducible rfl) | rw [len_sgC HOS.out, len_sgC okS_zero]
         · exact info_sgC HOS.out _
         · exact sgC_one _ _ _ _
         · rfl
         · rfl
         · rfl
         · rfl
         intro y9 hs
         have hbz := nn.below.trans (hs.only.below nn.ge nn.below.size)
         replace HG3 : Hid (Blk y9 g3 (cb seed) 23) := HG3.out.below hbz HG3.out.lt
         replace HG4 : Hid (Blk y9 g4 (hdC (n, rt, ky)) 26) := HG4.out.below hbz HG4.out.lt
         replace HG5 : Hid (Blk y9 g5 (cb tree) 23) := HG5.out.below hbz HG5.out.lt
         replace HG7 : Hid (Blk y9 g7 (sgC s (.slice a1 n1 c1)) 31) := HG7.out.below hbz HG7.out.lt
         replace HR1 : Hid (Reads y9 (.slice a1 n1 c1) s.2) := HR1.out.below hbz
         replace HR2 : Hid (Reads y9 (.slice a2 n2 c2) s.2) := HR2.out.below hbz
         replace HBW : Hid (Below w.heap.size w y9) := HBW.out.trans (hbz.mono HBW.out.size)
         have HG9 : Hid (Blk y9 g9 (sgC s (.slice a2 n2 c2)) 31) := hs.blk
         clear nn hs hbz)
      | (clear tk15; with_reducible refine wpSeq_loadW 31 (.tmp 7) g7 0 (sgC s (.slice a1 n1 c1)) _ ?_ Tryd.underlying31 rfl ?_ ?_ ?_ ?_ ?_
         · exact HG7.out.range
         · exact info_sgC HOS.out _
         · rfl
         · rfl
         · rfl)
      | (clear tk16; with_reducible refine wpSeq_loadW 31 (.tmp 9) g9 0 (sgC s (.slice a2 n2 c2)) _ ?_ Tryd.underlying31 rfl ?_ ?_ ?_ ?_ ?_
         · exact HG9.out.range
         · exact info_sgC HOS.out _
         · rfl
         · rfl
         · rfl)
      | (clear tk17; go_at_call 11; refine (sameS_any s _ _ y9 HOS.out HR1.out HR2.out).mono ?_; rintro e y10 ⟨rfl, hbz⟩
         replace HG3 : Hid (Blk y10 g3 (cb seed) 23) := HG3.out.below hbz HG3.out.lt
         replace HG4 : Hid (Blk y10 g4 (hdC (n, rt, ky)) 26) := HG4.out.below hbz HG4.out.lt
         replace HG5 : Hid (Blk y10 g5 (cb tree) 23) := HG5.out.below hbz HG5.out.lt
         replace HG7 : Hid (Blk y10 g7 (sgC s (.slice a1 n1 c1)) 31) := HG7.out.below hbz HG7.out.lt
         replace HG9 : Hid (Blk y10 g9 (sgC s (.slice a2 n2 c2)) 31) := HG9.out.below hbz HG9.out.lt
         replace HR1 : Hid (Reads y10 (.slice a1 n1 c1) s.2) := HR1.out.below hbz
         replace HR2 : Hid (Reads y10 (.slice a2 n2 c2) s.2) := HR2.out.below hbz
         replace HBW : Hid (Below w.heap.size w y10) := HBW.out.trans (hbz.mono HBW.out.size)
         clear hbz )
      | (clear tk18; go_at_call 12; refine (HCW.out y10 HBW.out).mono ?_; rintro e y11 ⟨rfl, hbz⟩
         replace HG3 : Hid (Blk y11 g3 (cb seed) 23) := HG3.out.below hbz HG3.out.lt
         replace HG4 : Hid (Blk y11 g4 (hdC (n, rt, ky)) 26) := HG4.out.below hbz HG4.out.lt
         replace HG5 : Hid (Blk y11 g5 (cb tree) 23) := HG5.out.below hbz HG5.out.lt
         replace HG7 : Hid (Blk y11 g7 (sgC s (.slice a1 n1 c1)) 31) := HG7.out.below hbz HG7.out.lt
         replace HG9 : Hid (Blk y11 g9 (sgC s (.slice a2 n2 c2)) 31) := HG9.out.below hbz HG9.out.lt
         replace HR1 : Hid (Reads y11 (.slice a1 n1 c1) s.2) := HR1.out.below hbz
         replace HR2 : Hid (Reads y11 (.slice a2 n2 c2) s.2) := HR2.out.below hbz
         replace HBW : Hid (Below w.heap.size w y11) := HBW.out.trans (hbz.mono HBW.out.size)
         clear hbz ))
    go_ret
    first | exact ⟨rfl, HBW.out⟩ | exact ⟨trivial, HBW.out⟩
  have HE : Hid (es = 0) := by show _ = _; rw [HES.out, sealR, if_neg h64]
  have k1 : (es == 0) = true := by rw [HE.out]; rfl
  have k2 : (es != 0) = false := by rw [bne, k1]; rfl
  have k3 : (es == es) = true := by simp
  have k4 : (es != es) = false := by rw [bne, k3]; rfl
  have HL64 : Hid (n < 64) := Nat.lt_of_not_le h64
  clear HE h64
  by_cases hn0 : n = 0
  · have HOK : Hid (okH (n, rt, pk)) := okH_mk HOH.out.1 HPL.out HOH.out.2.2
    obtain ⟨hf, HHF⟩ : ∃ c, Hid (c = (followR (n, rt, pk) s).1) := ⟨_, rfl⟩
    obtain ⟨ef, HEF⟩ : ∃ c, Hid (c = (followR (n, rt, pk) s).2) := ⟨_, rfl⟩
    have HOF : Hid (okH hf) := by rw [HHF.out]; exact follow_okH _ s HOS.out
    have HC3 : Hid (∀ (W : World) (vs : Value), Below w.heap.size w W → Reads W vs s.2 → Calls Tryd.prog 14 #[.agg (hdC (n, rt, pk)).toArray, .agg (sgC s vs).toArray] W fun e w' => e = .returned (.tuple #[.agg (hdC hf).toArray, .int .i64 ef]) ∧ Below W.heap.size W w') := fun W vs hh hr => by rw [HHF.out, HEF.out]; exact HOP.out.follow W _ s vs (HKK.out.below hh HKK.out.lt) HOK.out HOS.out hr
    have HC4 : Hid (∀ (W : World) (vs : Value), Below w.heap.size w W → Reads W vs s.2 → Calls Tryd.prog 15 #[.agg (hdC (n, rt, pk)).toArray, .agg (sgC s vs).toArray] W fun e w' => e = .returned (.tuple #[.agg (hdC hf).toArray, .int .i64 ef]) ∧ Below W.heap.size W w') := fun W vs hh hr => by rw [HHF.out, HEF.out]; exact qcFollow_any _ s vs W HOK.out HOS.out hr
    have HEZ : Hid (ef = 0) := by
      show _ = _
      rw [HEF.out, HS.out]
      have hq := seal_follow seed (n, rt, pk) tree (by show pk = _; rw [HPK.out, hn0]) HL64.out
      have e : sealR seed (n, rt, ky) tree = sealR seed (n, rt, pk) tree := by unfold sealR; rfl
      rw [e, hq]
    have m1 : ((n : Int) == 0) = true := by rw [hn0]; rfl
    have m2 : ((n : Int) != 0) = false := by rw [bne, m1]; rfl
    have m3 : (ef == 0) = true := by rw [HEZ.out]; rfl
    have m4 : (ef == ef) = true := by simp
    clear hn0 HEZ HEF HHF HS HES HPK
    go_enter Tryd.func3, Tryd.ntmps3
    have tk0 : Hid True := trivial
    have tk1 : Hid True := trivial
    have tk2 : Hid True := trivial
    have tk3 : Hid True := trivial
    have tk4 : Hid True := trivial
    have tk5 : Hid True := trivial
    have tk6 : Hid True := trivial
    have tk7 : Hid True := trivial
    have tk8 : Hid True := trivial
    have tk9 : Hid True := trivial
    have tk10 : Hid True := trivial
    have tk11 : Hid True := trivial
    have tk12 : Hid True := trivial
    have tk13 : Hid True := trivial
    have tk14 : Hid True := trivial
    have tk15 : Hid True := trivial
    have tk16 : Hid True := trivial
    have tk17 : Hid True := trivial
    have tk18 : Hid True := trivial
    have tk19 : Hid True := trivial
    have tk20 : Hid True := trivial
    have tk21 : Hid True := trivial
    have tk22 : Hid True := trivial
    have tk23 : Hid True := trivial
    have tk24 : Hid True := trivial
    have tk25 : Hid True := trivial
    have tk26 : Hid True := trivial
    have tk27 : Hid True := trivial
    have tk28 : Hid True := trivial
    have tk29 : Hid True := trivial
    have tk30 : Hid True := trivial
    have tk31 : Hid True := trivial
    have tk32 : Hid True := trivial
    have tk33 : Hid True := trivial
    have tk34 : Hid True := trivial
    go_wp2_with (first
      | (clear tk0; with_reducible refine wpSeq_boxW 23 (.tmp 0) (cb seed) ?_ ?_ ?_ ?_
         · rfl
         · rfl
         · rfl
         intro g3 y1 nn
         replace HBW : Hid (Below w.heap.size w y1) := HBW.out.trans (nn.below.mono HBW.out.size)
         have HG3 : Hid (Blk y1 g3 (cb seed) 23) := nn.blk
         clear nn)
      | (clear tk1; with_reducible refine wpSeq_boxW 26 (.tmp 1) (hdC (n, rt, ky)) ?_ ?_ ?_ ?_
         · rfl
         · rfl
         · rfl
         intro g4 y2 nn
         have HGE4 : Hid (w.heap.size ≤ g4) := Nat.le_trans HBW.out.size nn.ge
         have HN3 : Hid (g3 < g4) := by have h1 := HG3.out.lt; have h2 := nn.ge; show _ < _; omega
         replace HG3 : Hid (Blk y2 g3 (cb seed) 23) := HG3.out.below nn.below HG3.out.lt
         replace HBW : Hid (Below w.heap.size w y2) := HBW.out.trans (nn.below.mono HBW.out.size)
         have HG4 : Hid (Blk y2 g4 (hdC (n, rt, ky)) 26) := nn.blk
         clear nn)
      | (clear tk2; with_reducible refine wpSeq_boxW 23 (.tmp 2) (cb tree) ?_ ?_ ?_ ?_
         · rfl
         · rfl
         · rfl
         intro g5 y3 nn
         have HLT : Hid (g4 < g5 ∧ w.heap.size ≤ g4) := ⟨by have h1 := HG4.out.lt; have h2 := nn.ge; omega, HGE4.out⟩
         replace HG3 : Hid (Blk y3 g3 (cb seed) 23) := HG3.out.below nn.below HG3.out.lt
         replace HG4 : Hid (Blk y3 g4 (hdC (n, rt, ky)) 26) := HG4.out.below nn.below HG4.out.lt
         replace HBW : Hid (Below w.heap.size w y3) := HBW.out.trans (nn.below.mono HBW.out.size)
         have HG5 : Hid (Blk y3 g5 (cb tree) 23) := nn.blk
         clear nn)
      | (clear tk3; with_reducible refine wpSeq_loadW 23 (.tmp 3) g3 0 (cb seed) _ ?_ Tryd.underlying23 rfl ?_ ?_ ?_ ?_ ?_
         · exact HG3.out.range
         · exact HID.out.1
         · rfl
         · rfl
         · rfl)
      | (clear tk4; with_reducible refine wpSeq_loadW 26 (.tmp 4) g4 0 (hdC (n, rt, ky)) _ ?_ Tryd.underlying26 rfl ?_ ?_ ?_ ?_ ?_
         · exact HG4.out.range
         · exact info_hdC HOH.out
         · rfl
         · rfl
         · rfl)
      | (clear tk5; with_reducible refine wpSeq_loadW 23 (.tmp 5) g5 0 (cb tree) _ ?_ Tryd.underlying23 rfl ?_ ?_ ?_ ?_ ?_
         · exact HG5.out.range
         · exact HID.out.2
         · rfl
         · rfl
         · rfl)
      | (clear tk6; go_at_call 9; refine (HC1.out y3 HBW.out).mono ?_; rintro e y4 ⟨a1, n1, c1, rfl, hrd, hfr, hbz⟩
         have HF1 : Hid (∀ k, (Value.slice a1 n1 c1).ownBlock = some k → k ≠ g4) := fun k hk => by have h1 := hfr k hk; have h2 := HG4.out.lt; omega
         clear hfr
         replace HG3 : Hid (Blk y4 g3 (cb seed) 23) := HG3.out.below hbz HG3.out.lt
         replace HG4 : Hid (Blk y4 g4 (hdC (n, rt, ky)) 26) := HG4.out.below hbz HG4.out.lt
         replace HG5 : Hid (Blk y4 g5 (cb tree) 23) := HG5.out.below hbz HG5.out.lt
         replace HBW : Hid (Below w.heap.size w y4) := HBW.out.trans (hbz.mono HBW.out.size)
         have HR1 : Hid (Reads y4 (.slice a1 n1 c1) s.2) := hrd
         clear hbz hrd)
      | (clear tk7; with_reducible refine wpSeq_allocS ?_ ?_ ?_
         · rfl
         · rfl
         intro g7 y5 nn
         have HN7 : Hid (g4 < g7) := by have h4 := HG4.out.lt; have h5 := nn.ge; show _ < _; omega)
      | (clear tk8; with_reducible refine wpSeq_storeRow 31 (.tmp 7) (.tmp 20) g7 (sgC zeroS (.slice none 0 0)) (sgC s (.slice a1 n1 c1)) ?_ ?_ ?_ ?_ ?_ ?_ ?_ ?_ ?_
         · exact nn.blk
         · first | (with_reducible rfl) | rw [len_sgC HOS.out, len_sgC okS_zero]
         · exact info_sgC HOS.out _
         · exact sgC_one _ _ _ _
         · rfl
         · rfl
         · rfl
         · rfl
         intro y6 hs
         have hbz := nn.below.trans (hs.only.below nn.ge nn.below.size)
         replace HG3 : Hid (Blk y6 g3 (cb seed) 23) := HG3.out.below hbz HG3.out.lt
         replace HG4 : Hid (Blk y6 g4 (hdC (n, rt, ky)) 26) := HG4.out.below hbz HG4.out.lt
         replace HG5 : Hid (Blk y6 g5 (cb tree) 23) := HG5.out.below hbz HG5.out.lt
         replace HR1 : Hid (Reads y6 (.slice a1 n1 c1) s.2) := HR1.out.below hbz
         replace HBW : Hid (Below w.heap.size w y6) := HBW.out.trans (hbz.mono HBW.out.size)
         have HG7 : Hid (Blk y6 g7 (sgC s (.slice a1 n1 c1)) 31) := hs.blk
         clear nn hs hbz)
      | (clear tk9; with_reducible refine wpSeq_loadW 23 (.tmp 3) g3 0 (cb seed) _ ?_ Tryd.underlying23 rfl ?_ ?_ ?_ ?_ ?_
         · exact HG3.out.range
         · exact HID.out.1
         · rfl
         · rfl
         · rfl)
      | (clear tk10; with_reducible refine wpSeq_loadW 26 (.tmp 4) g4 0 (hdC (n, rt, ky)) _ ?_ Tryd.underlying26 rfl ?_ ?_ ?_ ?_ ?_
         · exact HG4.out.range
         · exact info_hdC HOH.out
         · rfl
         · rfl
         · rfl)
      | (clear tk11; with_reducible refine wpSeq_loadW 23 (.tmp 5) g5 0 (cb tree) _ ?_ Tryd.underlying23 rfl ?_ ?_ ?_ ?_ ?_
         · exact HG5.out.range
         · exact HID.out.2
         · rfl
         · rfl
         · rfl)
      | (clear tk12; go_at_call 10; refine (HC2.out y6 HBW.out).mono ?_; rintro e y7 ⟨a2, n2, c2, rfl, hrd, hfr, hbz⟩
         have HF2 : Hid (∀ k, (Value.slice a2 n2 c2).ownBlock = some k → k ≠ g4) := fun k hk => by have h1 := hfr k hk; have h2 := HG4.out.lt; omega
         clear hfr
         replace HG3 : Hid (Blk y7 g3 (cb seed) 23) := HG3.out.below hbz HG3.out.lt
         replace HG4 : Hid (Blk y7 g4 (hdC (n, rt, ky)) 26) := HG4.out.below hbz HG4.out.lt
         replace HG5 : Hid (Blk y7 g5 (cb tree) 23) := HG5.out.below hbz HG5.out.lt
         replace HG7 : Hid (Blk y7 g7 (sgC s (.slice a1 n1 c1)) 31) := HG7.out.below hbz HG7.out.lt
         replace HR1 : Hid (Reads y7 (.slice a1 n1 c1) s.2) := HR1.out.below hbz
         replace HBW : Hid (Below w.heap.size w y7) := HBW.out.trans (hbz.mono HBW.out.size)
         have HR2 : Hid (Reads y7 (.slice a2 n2 c2) s.2) := hrd
         clear hbz hrd)
      | (clear tk13; with_reducible refine wpSeq_allocS ?_ ?_ ?_
         · rfl
         · rfl
         intro g9 y8 nn
         have HN4 : Hid (g3 < g4 ∧ g4 < g5 ∧ g4 < g7 ∧ g4 < g9) := by have h1 := HN3.out; have h2 := HLT.out.1; have h3 := HN7.out; have h4 := HG4.out.lt; have h5 := nn.ge; exact ⟨by omega, by omega, by omega, by omega⟩)
      | (clear tk14; with_reducible refine wpSeq_storeRow 31 (.tmp 9) (.tmp 27) g9 (sgC zeroS (.slice none 0 0)) (sgC s (.slice a2 n2 c2)) ?_ ?_ ?_ ?_ ?_ ?_ ?_ ?_ ?_
         · exact nn.blk
         · first | (with_reducible rfl) | rw [len_sgC HOS.out, len_sgC okS_zero]
         · exact info_sgC HOS.out _
         · exact sgC_one _ _ _ _
         · rfl
         · rfl
         · rfl
         · rfl
         intro y9 hs
         have hbz := nn.below.trans (hs.only.below nn.ge nn.below.size)
         replace HG3 : Hid (Blk y9 g3 (cb seed) 23) := HG3.out.below hbz HG3.out.lt
         replace HG4 : Hid (Blk y9 g4 (hdC (n, rt, ky)) 26) := HG4.out.below hbz HG4.out.lt
         replace HG5 : Hid (Blk y9 g5 (cb tree) 23) := HG5.out.below hbz HG5.out.lt
         replace HG7 : Hid (Blk y9 g7 (sgC s (.slice a1 n1 c1)) 31) := HG7.out.below hbz HG7.out.lt
         replace HR1 : Hid (Reads y9 (.slice a1 n1 c1) s.2) := HR1.out.below hbz
         replace HR2 : Hid (Reads y9 (.slice a2 n2 c2) s.2) := HR2.out.below hbz
         replace HBW : Hid (Below w.heap.size w y9) := HBW.out.trans (hbz.mono HBW.out.size)
         have HG9 : Hid (Blk y9 g9 (sgC s (.slice a2 n2 c2)) 31) := hs.blk
         clear nn hs hbz)
      | (clear tk15; with_reducible refine wpSeq_loadW 31 (.tmp 7) g7 0 (sgC s (.slice a1 n1 c1)) _ ?_ Tryd.underlying31 rfl ?_ ?_ ?_ ?_ ?_
         · exact HG7.out.range
         · exact info_sgC HOS.out _
         · rfl
         · rfl
         · rfl)
      | (clear tk16; with_reducible refine wpSeq_loadW 31 (.tmp 9) g9 0 (sgC s (.slice a2 n2 c2)) _ ?_ Tryd.underlying31 rfl ?_ ?_ ?_ ?_ ?_
         · exact HG9.out.range
         · exact info_sgC HOS.out _
         · rfl
         · rfl
         · rfl)
      | (clear tk17; go_at_call 11; refine (sameS_any s _ _ y9 HOS.out HR1.out HR2.out).mono ?_; rintro e y10 ⟨rfl, hbz⟩
         replace HG3 : Hid (Blk y10 g3 (cb seed) 23) := HG3.out.below hbz HG3.out.lt
         replace HG4 : Hid (Blk y10 g4 (hdC (n, rt, ky)) 26) := HG4.out.below hbz HG4.out.lt
         replace HG5 : Hid (Blk y10 g5 (cb tree) 23) := HG5.out.below hbz HG5.out.lt
         replace HG7 : Hid (Blk y10 g7 (sgC s (.slice a1 n1 c1)) 31) := HG7.out.below hbz HG7.out.lt
         replace HG9 : Hid (Blk y10 g9 (sgC s (.slice a2 n2 c2)) 31) := HG9.out.below hbz HG9.out.lt
         replace HR1 : Hid (Reads y10 (.slice a1 n1 c1) s.2) := HR1.out.below hbz
         replace HR2 : Hid (Reads y10 (.slice a2 n2 c2) s.2) := HR2.out.below hbz
         replace HBW : Hid (Below w.heap.size w y10) := HBW.out.trans (hbz.mono HBW.out.size)
         clear hbz )
      | (clear tk18; with_reducible refine wpSeq_loadW 23 (.tmp 3) g3 0 (cb seed) _ ?_ Tryd.underlying23 rfl ?_ ?_ ?_ ?_ ?_
         · exact HG3.out.range
         · exact HID.out.1
         · rfl
         · rfl
         · rfl)
      | (clear tk19; go_at_call 13; refine (HC5.out y10 HBW.out).mono ?_; rintro e y11 ⟨rfl, hbz⟩
         replace HG3 : Hid (Blk y11 g3 (cb seed) 23) := HG3.out.below hbz HG3.out.lt
         replace HG4 : Hid (Blk y11 g4 (hdC (n, rt, ky)) 26) := HG4.out.below hbz HG4.out.lt
         replace HG5 : Hid (Blk y11 g5 (cb tree) 23) := HG5.out.below hbz HG5.out.lt
         replace HG7 : Hid (Blk y11 g7 (sgC s (.slice a1 n1 c1)) 31) := HG7.out.below hbz HG7.out.lt
         replace HG9 : Hid (Blk y11 g9 (sgC s (.slice a2 n2 c2)) 31) := HG9.out.below hbz HG9.out.lt
         replace HR1 : Hid (Reads y11 (.slice a1 n1 c1) s.2) := HR1.out.below hbz
         replace HR2 : Hid (Reads y11 (.slice a2 n2 c2) s.2) := HR2.out.below hbz
         replace HBW : Hid (Below w.heap.size w y11) := HBW.out.trans (hbz.mono HBW.out.size)
         clear hbz )
      | (clear tk20; with_reducible refine wpSeq_storeKey (.tmp 43) (.tmp 42) g4 n rt ky pk ?_ ?_ ?_ ?_ ?_ ?_ ?_ ?_ ?_
         · exact HG4.out
         · exact HOH.out.1
         · exact HOH.out.2.1
         · exact HPL.out
         · rfl
         · rfl
         · rfl
         · rfl
         intro y12 hs
         have HXX : Hid (g4 < g5 ∧ w.heap.size ≤ g4) := HLT.out
         replace HG3 : Hid (Blk y12 g3 (cb seed) 23) := HG3.out.only hs.only (by have := HN4.out; omega)
         replace HG5 : Hid (Blk y12 g5 (cb tree) 23) := HG5.out.only hs.only (by have := HN4.out; omega)
         replace HG7 : Hid (Blk y12 g7 (sgC s (.slice a1 n1 c1)) 31) := HG7.out.only hs.only (by have := HN4.out; omega)
         replace HG9 : Hid (Blk y12 g9 (sgC s (.slice a2 n2 c2)) 31) := HG9.out.only hs.only (by have := HN4.out; omega)
         replace HR1 : Hid (Reads y12 (.slice a1 n1 c1) s.2) := HR1.out.apartB hs.only (HF1.out)
         replace HR2 : Hid (Reads y12 (.slice a2 n2 c2) s.2) := HR2.out.apartB hs.only (HF2.out)
         replace HG4 : Hid (Blk y12 g4 (hdC (n, rt, pk)) 26) := hs.blk
         replace HBW : Hid (Below w.heap.size w y12) := HBW.out.trans (hs.only.below HLT.out.2 HBW.out.size)
         have ce : y12.cell? ⟨g4, 0, none⟩ = some (.int .u64 (n : Int)) := HG4.out.cell 0
         clear hs HXX)
      | (clear tk21; with_reducible refine wpSeq_loadW 26 (.tmp 4) g4 0 (hdC (n, rt, pk)) _ ?_ Tryd.underlying26 rfl ?_ ?_ ?_ ?_ ?_
         · exact HG4.out.range
         · exact info_hdC HOK.out
         · rfl
         · rfl
         · rfl)
      | (clear tk22; with_reducible refine wpSeq_loadW 31 (.tmp 7) g7 0 (sgC s (.slice a1 n1 c1)) _ ?_ Tryd.underlying31 rfl ?_ ?_ ?_ ?_ ?_
         · exact HG7.out.range
         · exact info_sgC HOS.out _
         · rfl
         · rfl
         · rfl)
      | (clear tk23; go_at_call 14; refine (HC3.out y12 _ HBW.out HR1.out).mono ?_; rintro e y13 ⟨rfl, hbz⟩
         clear ce
         replace HG3 : Hid (Blk y13 g3 (cb seed) 23) := HG3.out.below hbz HG3.out.lt
         replace HG4 : Hid (Blk y13 g4 (hdC (n, rt, pk)) 26) := HG4.out.below hbz HG4.out.lt
         replace HG5 : Hid (Blk y13 g5 (cb tree) 23) := HG5.out.below hbz HG5.out.lt
         replace HG7 : Hid (Blk y13 g7 (sgC s (.slice a1 n1 c1)) 31) := HG7.out.below hbz HG7.out.lt
         replace HG9 : Hid (Blk y13 g9 (sgC s (.slice a2 n2 c2)) 31) := HG9.out.below hbz HG9.out.lt
         replace HR1 : Hid (Reads y13 (.slice a1 n1 c1) s.2) := HR1.out.below hbz
         replace HR2 : Hid (Reads y13 (.slice a2 n2 c2) s.2) := HR2.out.below hbz
         replace HBW : Hid (Below w.heap.size w y13) := HBW.out.trans (hbz.mono HBW.out.size)
         clear hbz )
      | (clear tk24; with_reducible refine wpSeq_allocH ?_ ?_ ?_
         · rfl
         · rfl
         intro g11 y14 nn)
      | (clear tk25; with_reducible refine wpSeq_storeRow 26 (.tmp 11) (.tmp 53) g11 (hdC zeroH) (hdC hf) ?_ ?_ ?_ ?_ ?_ ?_ ?_ ?_ ?_
         · exact nn.blk
         · first | (with_reducible rfl) | rw [len_hdC HOF.out, len_hdC okH_zero]
         · exact info_hdC HOF.out
         · exact hdC_one _
         · rfl
         · rfl
         · rfl
         · rfl
         intro y15 hs
         have hbz := nn.below.trans (hs.only.below nn.ge nn.below.size)
         replace HG3 : Hid (Blk y15 g3 (cb seed) 23) := HG3.out.below hbz HG3.out.lt
         replace HG4 : Hid (Blk y15 g4 (hdC (n, rt, pk)) 26) := HG4.out.below hbz HG4.out.lt
         replace HG5 : Hid (Blk y15 g5 (cb tree) 23) := HG5.out.below hbz HG5.out.lt
         replace HG7 : Hid (Blk y15 g7 (sgC s (.slice a1 n1 c1)) 31) := HG7.out.below hbz HG7.out.lt
         replace HG9 : Hid (Blk y15 g9 (sgC s (.slice a2 n2 c2)) 31) := HG9.out.below hbz HG9.out.lt
         replace HR1 : Hid (Reads y15 (.slice a1 n1 c1) s.2) := HR1.out.below hbz
         replace HR2 : Hid (Reads y15 (.slice a2 n2 c2) s.2) := HR2.out.below hbz
         replace HBW : Hid (Below w.heap.size w y15) := HBW.out.trans (hbz.mono HBW.out.size)
         have HG11 : Hid (Blk y15 g11 (hdC hf) 26) := hs.blk
         clear nn hs hbz)
      | (clear tk26; with_reducible refine wpSeq_loadW 26 (.tmp 4) g4 0 (hdC (n, rt, pk)) _ ?_ Tryd.underlying26 rfl ?_ ?_ ?_ ?_ ?_
         · exact HG4.out.range
         · exact info_hdC HOK.out
         · rfl
         · rfl
         · rfl)
      | (clear tk27; with_reducible refine wpSeq_loadW 31 (.tmp 9) g9 0 (sgC s (.slice a2 n2 c2)) _ ?_ Tryd.underlying31 rfl ?_ ?_ ?_ ?_ ?_
         · exact HG9.out.range
         · exact info_sgC HOS.out _
         · rfl
         · rfl
         · rfl)
      | (clear tk28; go_at_call 15; refine (HC4.out y15 _ HBW.out HR2.out).mono ?_; rintro e y16 ⟨rfl, hbz⟩
         replace HG3 : Hid (Blk y16 g3 (cb seed) 23) := HG3.out.below hbz HG3.out.lt
         replace HG4 : Hid (Blk y16 g4 (hdC (n, rt, pk)) 26) := HG4.out.below hbz HG4.out.lt
         replace HG5 : Hid (Blk y16 g5 (cb tree) 23) := HG5.out.below hbz HG5.out.lt
         replace HG7 : Hid (Blk y16 g7 (sgC s (.slice a1 n1 c1)) 31) := HG7.out.below hbz HG7.out.lt
         replace HG9 : Hid (Blk y16 g9 (sgC s (.slice a2 n2 c2)) 31) := HG9.out.below hbz HG9.out.lt
         replace HG11 : Hid (Blk y16 g11 (hdC hf) 26) := HG11.out.below hbz HG11.out.lt
         replace HR1 : Hid (Reads y16 (.slice a1 n1 c1) s.2) := HR1.out.below hbz
         replace HR2 : Hid (Reads y16 (.slice a2 n2 c2) s.2) := HR2.out.below hbz
         replace HBW : Hid (Below w.heap.size w y16) := HBW.out.trans (hbz.mono HBW.out.size)
         clear hbz )
      | (clear tk29; with_reducible refine wpSeq_allocH ?_ ?_ ?_
         · rfl
         · rfl
         intro g13 y17 nn)
      | (clear tk30; with_reducible refine wpSeq_storeRow 26 (.tmp 13) (.tmp 59) g13 (hdC zeroH) (hdC hf) ?_ ?_ ?_ ?_ ?_ ?_ ?_ ?_ ?_
         · exact nn.blk
         · first | (with_reducible rfl) | rw [len_hdC HOF.out, len_hdC okH_zero]
         · exact info_hdC HOF.out
         · exact hdC_one _
         · rfl
         · rfl
         · rfl
         · rfl
         intro y18 hs
         have hbz := nn.below.trans (hs.only.below nn.ge nn.below.size)
         replace HG3 : Hid (Blk y18 g3 (cb seed) 23) := HG3.out.below hbz HG3.out.lt
         replace HG4 : Hid (Blk y18 g4 (hdC (n, rt, pk)) 26) := HG4.out.below hbz HG4.out.lt
         replace HG5 : Hid (Blk y18 g5 (cb tree) 23) := HG5.out.below hbz HG5.out.lt
         replace HG7 : Hid (Blk y18 g7 (sgC s (.slice a1 n1 c1)) 31) := HG7.out.below hbz HG7.out.lt
         replace HG9 : Hid (Blk y18 g9 (sgC s (.slice a2 n2 c2)) 31) := HG9.out.below hbz HG9.out.lt
         replace HG11 : Hid (Blk y18 g11 (hdC hf) 26) := HG11.out.below hbz HG11.out.lt
         replace HR1 : Hid (Reads y18 (.slice a1 n1 c1) s.2) := HR1.out.below hbz
         replace HR2 : Hid (Reads y18 (.slice a2 n2 c2) s.2) := HR2.out.below hbz
         replace HBW : Hid (Below w.heap.size w y18) := HBW.out.trans (hbz.mono HBW.out.size)
         have HG13 : Hid (Blk y18 g13 (hdC hf) 26) := hs.blk
         have ce2 : y18.cell? ⟨g4, 0, none⟩ = some (.int .u64 (n : Int)) := HG4.out.cell 0
         clear nn hs hbz)
      | (clear tk31; with_reducible refine wpSeq_loadW 26 (.tmp 11) g11 0 (hdC hf) _ ?_ Tryd.underlying26 rfl ?_ ?_ ?_ ?_ ?_
         · exact HG11.out.range
         · exact info_hdC HOF.out
         · rfl
         · rfl
         · rfl)
      | (clear tk32; with_reducible refine wpSeq_loadW 26 (.tmp 13) g13 0 (hdC hf) _ ?_ Tryd.underlying26 rfl ?_ ?_ ?_ ?_ ?_
         · exact HG13.out.range
         · exact info_hdC HOF.out
         · rfl
         · rfl
         · rfl)
      | (clear tk33; with_reducible refine wpSeq_eqH (.tmp 61) (.tmp 62) hf hf HOF.out HOF.out true ?_ ?_ ?_ ?_ ?_ ?_
         · exact (decide_eq_true rfl).symm
         · rfl
         · rfl
         · rfl
         · rfl)
      | (clear tk34; go_at_call 12; refine (HCW.out y18 HBW.out).mono ?_; rintro e y19 ⟨rfl, hbz⟩
         replace HG3 : Hid (Blk y19 g3 (cb seed) 23) := HG3.out.below hbz HG3.out.lt
         replace HG4 : Hid (Blk y19 g4 (hdC (n, rt, pk)) 26) := HG4.out.below hbz HG4.out.lt
         replace HG5 : Hid (Blk y19 g5 (cb tree) 23) := HG5.out.below hbz HG5.out.lt
         replace HG7 : Hid (Blk y19 g7 (sgC s (.slice a1 n1 c1)) 31) := HG7.out.below hbz HG7.out.lt
         replace HG9 : Hid (Blk y19 g9 (sgC s (.slice a2 n2 c2)) 31) := HG9.out.below hbz HG9.out.lt
         replace HG11 : Hid (Blk y19 g11 (hdC hf) 26) := HG11.out.below hbz HG11.out.lt
         replace HG13 : Hid (Blk y19 g13 (hdC hf) 26) := HG13.out.below hbz HG13.out.lt
         replace HR1 : Hid (Reads y19 (.slice a1 n1 c1) s.2) := HR1.out.below hbz
         replace HR2 : Hid (Reads y19 (.slice a2 n2 c2) s.2) := HR2.out.below hbz
         replace HBW : Hid (Below w.heap.size w y19) := HBW.out.trans (hbz.mono HBW.out.size)
         clear hbz ))
    go_ret
    first | exact ⟨rfl, HBW.out⟩ | exact ⟨trivial, HBW.out⟩
  · have HOK : Hid (okH (n, rt, zb32)) := okH_mk HOH.out.1 rfl HOH.out.2.2
    obtain ⟨hf, HHF⟩ : ∃ c, Hid (c = (followR (n, rt, zb32) s).1) := ⟨_, rfl⟩
    obtain ⟨ef, HEF⟩ : ∃ c, Hid (c = (followR (n, rt, zb32) s).2) := ⟨_, rfl⟩
    have HOF : Hid (okH hf) := by rw [HHF.out]; exact follow_okH _ s HOS.out
    have HC3 : Hid (∀ (W : World) (vs : Value), Below w.heap.size w W → Reads W vs s.2 → Calls Tryd.prog 14 #[.agg (hdC (n, rt, zb32)).toArray, .agg (sgC s vs).toArray] W fun e w' => e = .returned (.tuple #[.agg (hdC hf).toArray, .int .i64 ef]) ∧ Below W.heap.size W w') := fun W vs hh hr => by rw [HHF.out, HEF.out]; exact HOP.out.follow W _ s vs (HKK.out.below hh HKK.out.lt) HOK.out HOS.out hr
    have HC4 : Hid (∀ (W : World) (vs : Value), Below w.heap.size w W → Reads W vs s.2 → Calls Tryd.prog 15 #[.agg (hdC (n, rt, zb32)).toArray, .agg (sgC s vs).toArray] W fun e w' => e = .returned (.tuple #[.agg (hdC hf).toArray, .int .i64 ef]) ∧ Below W.heap.size W w') := fun W vs hh hr => by rw [HHF.out, HEF.out]; exact qcFollow_any _ s vs W HOK.out HOS.out hr
    have m1 : ((n : Int) == 0) = false := by rw [beq_eq_false_iff_ne]; omega
    have m2 : ((n : Int) != 0) = true := by rw [bne, m1]; rfl
    have m4 : (ef == ef) = true := by simp
    clear hn0 HEF HHF HS HES HPK
    go_enter Tryd.func3, Tryd.ntmps3
    have tk0 : Hid True := trivial
    have tk1 : Hid True := trivial
    have tk2 : Hid True := trivial
    have tk3 : Hid True := trivial
    have tk4 : Hid True := trivial
    have tk5 : Hid True := trivial
    have tk6 : Hid True := trivial
    have tk7 : Hid True := trivial
    have tk8 : Hid True := trivial
    have tk9 : Hid True := trivial
    have tk10 : Hid True := trivial
    have tk11 : Hid True := trivial
    have tk12 : Hid True := trivial
    have tk13 : Hid True := trivial
    have tk14 : Hid True := trivial
    have tk15 : Hid True := trivial
    have tk16 : Hid True := trivial
    have tk17 : Hid True := trivial
    have tk18 : Hid True := trivial
    have tk19 : Hid True := trivial
    have tk20 : Hid True := trivial
    have tk21 : Hid True := trivial
    have tk22 : Hid True := trivial
    have tk23 : Hid True := trivial
    have tk24 : Hid True := trivial
    have tk25 : Hid True := trivial
    have tk26 : Hid True := trivial
    have tk27 : Hid True := trivial
    have tk28 : Hid True := trivial
    have tk29 : Hid True := trivial
    have tk30 : Hid True := trivial
    have tk31 : Hid True := trivial
    have tk32 : Hid True := trivial
    have tk33 : Hid True := trivial
    have tk34 : Hid True := trivial
    have tk35 : Hid True := trivial
    have tk36 : Hid True := trivial
    go_wp2_with (first
      | (clear tk0; with_reducible refine wpSeq_boxW 23 (.tmp 0) (cb seed) ?_ ?_ ?_ ?_
         · rfl
         · rfl
         · rfl
         intro g3 y1 nn
         replace HBW : Hid (Below w.heap.size w y1) := HBW.out.trans (nn.below.mono HBW.out.size)
         have HG3 : Hid (Blk y1 g3 (cb seed) 23) := nn.blk
         clear nn)
      | (clear tk1; with_reducible refine wpSeq_boxW 26 (.tmp 1) (hdC (n, rt, ky)) ?_ ?_ ?_ ?_
         · rfl
         · rfl
         · rfl
         intro g4 y2 nn
         have HGE4 : Hid (w.heap.size ≤ g4) := Nat.le_trans HBW.out.size nn.ge
         have HN3 : Hid (g3 < g4) := by have h1 := HG3.out.lt; have h2 := nn.ge; show _ < _; omega
         replace HG3 : Hid (Blk y2 g3 (cb seed) 23) := HG3.out.below nn.below HG3.out.lt
         replace HBW : Hid (Below w.heap.size w y2) := HBW.out.trans (nn.below.mono HBW.out.size)
         have HG4 : Hid (Blk y2 g4 (hdC (n, rt, ky)) 26) := nn.blk
         clear nn)
      | (clear tk2; with_reducible refine wpSeq_boxW 23 (.tmp 2) (cb tree) ?_ ?_ ?_ ?_
         · rfl
         · rfl
         · rfl
         intro g5 y3 nn
         have HLT : Hid (g4 < g5 ∧ w.heap.size ≤ g4) := ⟨by have h1 := HG4.out.lt; have h2 := nn.ge; omega, HGE4.out⟩
         replace HG3 : Hid (Blk y3 g3 (cb seed) 23) := HG3.out.below nn.below HG3.out.lt
         replace HG4 : Hid (Blk y3 g4 (hdC (n, rt, ky)) 26) := HG4.out.below nn.below HG4.out.lt
         replace HBW : Hid (Below w.heap.size w y3) := HBW.out.trans (nn.below.mono HBW.out.size)
         have HG5 : Hid (Blk y3 g5 (cb tree) 23) := nn.blk
         clear nn)
      | (clear tk3; with_reducible refine wpSeq_loadW 23 (.tmp 3) g3 0 (cb seed) _ ?_ Tryd.underlying23 rfl ?_ ?_ ?_ ?_ ?_
         · exact HG3.out.range
         · exact HID.out.1
         · rfl
         · rfl
         · rfl)
      | (clear tk4; with_reducible refine wpSeq_loadW 26 (.tmp 4) g4 0 (hdC (n, rt, ky)) _ ?_ Tryd.underlying26 rfl ?_ ?_ ?_ ?_ ?_
         · exact HG4.out.range
         · exact info_hdC HOH.out
         · rfl
         · rfl
         · rfl)
      | (clear tk5; with_reducible refine wpSeq_loadW 23 (.tmp 5) g5 0 (cb tree) _ ?_ Tryd.underlying23 rfl ?_ ?_ ?_ ?_ ?_
         · exact HG5.out.range
         · exact HID.out.2
         · rfl
         · rfl
         · rfl)
      | (clear tk6; go_at_call 9; refine (HC1.out y3 HBW.out).mono ?_; rintro e y4 ⟨a1, n1, c1, rfl, hrd, hfr, hbz⟩
         have HF1 : Hid (∀ k, (Value.slice a1 n1 c1).ownBlock = some k → k ≠ g4) := fun k hk => by have h1 := hfr k hk; have h2 := HG4.out.lt; omega
         clear hfr
         replace HG3 : Hid (Blk y4 g3 (cb seed) 23) := HG3.out.below hbz HG3.out.lt
         replace HG4 : Hid (Blk y4 g4 (hdC (n, rt, ky)) 26) := HG4.out.below hbz HG4.out.lt
         replace HG5 : Hid (Blk y4 g5 (cb tree) 23) := HG5.out.below hbz HG5.out.lt
         replace HBW : Hid (Below w.heap.size w y4) := HBW.out.trans (hbz.mono HBW.out.size)
         have HR1 : Hid (Reads y4 (.slice a1 n1 c1) s.2) := hrd
         clear hbz hrd)
      | (clear tk7; with_reducible refine wpSeq_allocS ?_ ?_ ?_
         · rfl
         · rfl
         intro g7 y5 nn
         have HN7 : Hid (g4 < g7) := by have h4 := HG4.out.lt; have h5 := nn.ge; show _ < _; omega)
      | (clear tk8; with_reducible refine wpSeq_storeRow 31 (.tmp 7) (.tmp 20) g7 (sgC zeroS (.slice none 0 0)) (sgC s (.slice a1 n1 c1)) ?_ ?_ ?_ ?_ ?_ ?_ ?_ ?_ ?_
         · exact nn.blk
         · first | (with_reducible rfl) | rw [len_sgC HOS.out, len_sgC okS_zero]
         · exact info_sgC HOS.out _
         · exact sgC_one _ _ _ _
         · rfl
         · rfl
         · rfl
         · rfl
         intro y6 hs
         have hbz := nn.below.trans (hs.only.below nn.ge nn.below.size)
         replace HG3 : Hid (Blk y6 g3 (cb seed) 23) := HG3.out.below hbz HG3.out.lt
         replace HG4 : Hid (Blk y6 g4 (hdC (n, rt, ky)) 26) := HG4.out.below hbz HG4.out.lt
         replace HG5 : Hid (Blk y6 g5 (cb tree) 23) := HG5.out.below hbz HG5.out.lt
         replace HR1 : Hid (Reads y6 (.slice a1 n1 c1) s.2) := HR1.out.below hbz
         replace HBW : Hid (Below w.heap.size w y6) := HBW.out.trans (hbz.mono HBW.out.size)
         have HG7 : Hid (Blk y6 g7 (sgC s (.slice a1 n1 c1)) 31) := hs.blk
         clear nn hs hbz)
      | (clear tk9; with_reducible refine wpSeq_loadW 23 (.tmp 3) g3 0 (cb seed) _ ?_ Tryd.underlying23 rfl ?_ ?_ ?_ ?_ ?_
         · exact HG3.out.range
         · exact HID.out.1
         · rfl
         · rfl
         · rfl)
      | (clear tk10; with_reducible refine wpSeq_loadW 26 (.tmp 4) g4 0 (hdC (n, rt, ky)) _ ?_ Tryd.underlying26 rfl ?_ ?_ ?_ ?_ ?_
         · exact HG4.out.range
         · exact info_hdC HOH.out
         · rfl
         · rfl
         · rfl)
      | (clear tk11; with_reducible refine wpSeq_loadW 23 (.tmp 5) g5 0 (cb tree) _ ?_ Tryd.underlying23 rfl ?_ ?_ ?_ ?_ ?_
         · exact HG5.out.range
         · exact HID.out.2
         · rfl
         · rfl
         · rfl)
      | (clear tk12; go_at_call 10; refine (HC2.out y6 HBW.out).mono ?_; rintro e y7 ⟨a2, n2, c2, rfl, hrd, hfr, hbz⟩
         have HF2 : Hid (∀ k, (Value.slice a2 n2 c2).ownBlock = some k → k ≠ g4) := fun k hk => by have h1 := hfr k hk; have h2 := HG4.out.lt; omega
         clear hfr
         replace HG3 : Hid (Blk y7 g3 (cb seed) 23) := HG3.out.below hbz HG3.out.lt
         replace HG4 : Hid (Blk y7 g4 (hdC (n, rt, ky)) 26) := HG4.out.below hbz HG4.out.lt
         replace HG5 : Hid (Blk y7 g5 (cb tree) 23) := HG5.out.below hbz HG5.out.lt
         replace HG7 : Hid (Blk y7 g7 (sgC s (.slice a1 n1 c1)) 31) := HG7.out.below hbz HG7.out.lt
         replace HR1 : Hid (Reads y7 (.slice a1 n1 c1) s.2) := HR1.out.below hbz
         replace HBW : Hid (Below w.heap.size w y7) := HBW.out.trans (hbz.mono HBW.out.size)
         have HR2 : Hid (Reads y7 (.slice a2 n2 c2) s.2) := hrd
         clear hbz hrd)
      | (clear tk13; with_reducible refine wpSeq_allocS ?_ ?_ ?_
         · rfl
         · rfl
         intro g9 y8 nn
         have HN4 : Hid (g3 < g4 ∧ g4 < g5 ∧ g4 < g7 ∧ g4 < g9) := by have h1 := HN3.out; have h2 := HLT.out.1; have h3 := HN7.out; have h4 := HG4.out.lt; have h5 := nn.ge; exact ⟨by omega, by omega, by omega, by omega⟩)
      | (clear tk14; with_reducible refine wpSeq_storeRow 31 (.tmp 9) (.tmp 27) g9 (sgC zeroS (.slice none 0 0)) (sgC s (.slice a2 n2 c2)) ?_ ?_ ?_ ?_ ?_ ?_ ?_ ?_ ?_
         · exact nn.blk
         · first | (with_reducible rfl) | rw [len_sgC HOS.out, len_sgC okS_zero]
         · exact info_sgC HOS.out _
         · exact sgC_one _ _ _ _
         · rfl
         · rfl
         · rfl
         · rfl
         intro y9 hs
         have hbz := nn.below.trans (hs.only.below nn.ge nn.below.size)
         replace HG3 : Hid (Blk y9 g3 (cb seed) 23) := HG3.out.below hbz HG3.out.lt
         replace HG4 : Hid (Blk y9 g4 (hdC (n, rt, ky)) 26) := HG4.out.below hbz HG4.out.lt
         replace HG5 : Hid (Blk y9 g5 (cb tree) 23) := HG5.out.below hbz HG5.out.lt
         replace HG7 : Hid (Blk y9 g7 (sgC s (.slice a1 n1 c1)) 31) := HG7.out.below hbz HG7.out.lt
         replace HR1 : Hid (Reads y9 (.slice a1 n1 c1) s.2) := HR1.out.below hbz
         replace HR2 : Hid (Reads y9 (.slice a2 n2 c2) s.2) := HR2.out.below hbz
         replace HBW : Hid (Below w.heap.size w y9) := HBW.out.trans (hbz.mono HBW.out.size)
         have HG9 : Hid (Blk y9 g9 (sgC s (.slice a2 n2 c2)) 31) := hs.blk
         clear nn hs hbz)
      | (clear tk15; with_reducible refine wpSeq_loadW 31 (.tmp 7) g7 0 (sgC s (.slice a1 n1 c1)) _ ?_ Tryd.underlying31 rfl ?_ ?_ ?_ ?_ ?_
         · exact HG7.out.range
         · exact info_sgC HOS.out _
         · rfl
         · rfl
         · rfl)
      | (clear tk16; with_reducible refine wpSeq_loadW 31 (.tmp 9) g9 0 (sgC s (.slice a2 n2 c2)) _ ?_ Tryd.underlying31 rfl ?_ ?_ ?_ ?_ ?_
         · exact HG9.out.range
         · exact info_sgC HOS.out _
         · rfl
         · rfl
         · rfl)
      | (clear tk17; go_at_call 11; refine (sameS_any s _ _ y9 HOS.out HR1.out HR2.out).mono ?_; rintro e y10 ⟨rfl, hbz⟩
         replace HG3 : Hid (Blk y10 g3 (cb seed) 23) := HG3.out.below hbz HG3.out.lt
         replace HG4 : Hid (Blk y10 g4 (hdC (n, rt, ky)) 26) := HG4.out.below hbz HG4.out.lt
         replace HG5 : Hid (Blk y10 g5 (cb tree) 23) := HG5.out.below hbz HG5.out.lt
         replace HG7 : Hid (Blk y10 g7 (sgC s (.slice a1 n1 c1)) 31) := HG7.out.below hbz HG7.out.lt
         replace HG9 : Hid (Blk y10 g9 (sgC s (.slice a2 n2 c2)) 31) := HG9.out.below hbz HG9.out.lt
         replace HR1 : Hid (Reads y10 (.slice a1 n1 c1) s.2) := HR1.out.below hbz
         replace HR2 : Hid (Reads y10 (.slice a2 n2 c2) s.2) := HR2.out.below hbz
         replace HBW : Hid (Below w.heap.size w y10) := HBW.out.trans (hbz.mono HBW.out.size)
         clear hbz )
      | (clear tk18; with_reducible refine wpSeq_loadW 23 (.tmp 3) g3 0 (cb seed) _ ?_ Tryd.underlying23 rfl ?_ ?_ ?_ ?_ ?_
         · exact HG3.out.range
         · exact HID.out.1
         · rfl
         · rfl
         · rfl)
      | (clear tk19; go_at_call 13; refine (HC5.out y10 HBW.out).mono ?_; rintro e y11 ⟨rfl, hbz⟩
         replace HG3 : Hid (Blk y11 g3 (cb seed) 23) := HG3.out.below hbz HG3.out.lt
         replace HG4 : Hid (Blk y11 g4 (hdC (n, rt, ky)) 26) := HG4.out.below hbz HG4.out.lt
         replace HG5 : Hid (Blk y11 g5 (cb tree) 23) := HG5.out.below hbz HG5.out.lt
         replace HG7 : Hid (Blk y11 g7 (sgC s (.slice a1 n1 c1)) 31) := HG7.out.below hbz HG7.out.lt
         replace HG9 : Hid (Blk y11 g9 (sgC s (.slice a2 n2 c2)) 31) := HG9.out.below hbz HG9.out.lt
         replace HR1 : Hid (Reads y11 (.slice a1 n1 c1) s.2) := HR1.out.below hbz
         replace HR2 : Hid (Reads y11 (.slice a2 n2 c2) s.2) := HR2.out.below hbz
         replace HBW : Hid (Below w.heap.size w y11) := HBW.out.trans (hbz.mono HBW.out.size)
         clear hbz )
      | (clear tk20; with_reducible refine wpSeq_storeKey (.tmp 43) (.tmp 42) g4 n rt ky pk ?_ ?_ ?_ ?_ ?_ ?_ ?_ ?_ ?_
         · exact HG4.out
         · exact HOH.out.1
         · exact HOH.out.2.1
         · exact HPL.out
         · rfl
         · rfl
         · rfl
         · rfl
         intro y12 hs
         have HXX : Hid (g4 < g5 ∧ w.heap.size ≤ g4) := HLT.out
         replace HG3 : Hid (Blk y12 g3 (cb seed) 23) := HG3.out.only hs.only (by have := HN4.out; omega)
         replace HG5 : Hid (Blk y12 g5 (cb tree) 23) := HG5.out.only hs.only (by have := HN4.out; omega)
         replace HG7 : Hid (Blk y12 g7 (sgC s (.slice a1 n1 c1)) 31) := HG7.out.only hs.only (by have := HN4.out; omega)
         replace HG9 : Hid (Blk y12 g9 (sgC s (.slice a2 n2 c2)) 31) := HG9.out.only hs.only (by have := HN4.out; omega)
         replace HR1 : Hid (Reads y12 (.slice a1 n1 c1) s.2) := HR1.out.apartB hs.only (HF1.out)
         replace HR2 : Hid (Reads y12 (.slice a2 n2 c2) s.2) := HR2.out.apartB hs.only (HF2.out)
         replace HG4 : Hid (Blk y12 g4 (hdC (n, rt, pk)) 26) := hs.blk
         replace HBW : Hid (Below w.heap.size w y12) := HBW.out.trans (hs.only.below HLT.out.2 HBW.out.size)
         have ce : y12.cell? ⟨g4, 0, none⟩ = some (.int .u64 (n : Int)) := HG4.out.cell 0
         clear hs HXX)
      | (clear tk21; with_reducible refine wpSeq_buildZD ?_ ?_ ?_
         · rfl
         · rfl
         clear ce)
      | (clear tk22; with_reducible refine wpSeq_storeKey (.tmp 48) (.tmp 47) g4 n rt pk zb32 ?_ ?_ ?_ ?_ ?_ ?_ ?_ ?_ ?_
         · exact HG4.out
         · exact HOH.out.1
         · exact HPL.out
         · exact rfl
         · rfl
         · rfl
         · rfl
         · rfl
         intro y13 hs
         have HXX : Hid (g4 < g5 ∧ w.heap.size ≤ g4) := HLT.out
         replace HG3 : Hid (Blk y13 g3 (cb seed) 23) := HG3.out.only hs.only (by have := HN4.out; omega)
         replace HG5 : Hid (Blk y13 g5 (cb tree) 23) := HG5.out.only hs.only (by have := HN4.out; omega)
         replace HG7 : Hid (Blk y13 g7 (sgC s (.slice a1 n1 c1)) 31) := HG7.out.only hs.only (by have := HN4.out; omega)
         replace HG9 : Hid (Blk y13 g9 (sgC s (.slice a2 n2 c2)) 31) := HG9.out.only hs.only (by have := HN4.out; omega)
         replace HR1 : Hid (Reads y13 (.slice a1 n1 c1) s.2) := HR1.out.apartB hs.only (HF1.out)
         replace HR2 : Hid (Reads y13 (.slice a2 n2 c2) s.2) := HR2.out.apartB hs.only (HF2.out)
         replace HG4 : Hid (Blk y13 g4 (hdC (n, rt, zb32)) 26) := hs.blk
         replace HBW : Hid (Below w.heap.size w y13) := HBW.out.trans (hs.only.below HLT.out.2 HBW.out.size)
         clear hs HXX)
      | (clear tk23; with_reducible refine wpSeq_loadW 26 (.tmp 4) g4 0 (hdC (n, rt, zb32)) _ ?_ Tryd.underlying26 rfl ?_ ?_ ?_ ?_ ?_
         · exact HG4.out.range
         · exact info_hdC HOK.out
         · rfl
         · rfl
         · rfl)
      | (clear tk24; with_reducible refine wpSeq_loadW 31 (.tmp 7) g7 0 (sgC s (.slice a1 n1 c1)) _ ?_ Tryd.underlying31 rfl ?_ ?_ ?_ ?_ ?_
         · exact HG7.out.range
         · exact info_sgC HOS.out _
         · rfl
         · rfl
         · rfl)
      | (clear tk25; go_at_call 14; refine (HC3.out y13 _ HBW.out HR1.out).mono ?_; rintro e y14 ⟨rfl, hbz⟩
         replace HG3 : Hid (Blk y14 g3 (cb seed) 23) := HG3.out.below hbz HG3.out.lt
         replace HG4 : Hid (Blk y14 g4 (hdC (n, rt, zb32)) 26) := HG4.out.below hbz HG4.out.lt
         replace HG5 : Hid (Blk y14 g5 (cb tree) 23) := HG5.out.below hbz HG5.out.lt
         replace HG7 : Hid (Blk y14 g7 (sgC s (.slice a1 n1 c1)) 31) := HG7.out.below hbz HG7.out.lt
         replace HG9 : Hid (Blk y14 g9 (sgC s (.slice a2 n2 c2)) 31) := HG9.out.below hbz HG9.out.lt
         replace HR1 : Hid (Reads y14 (.slice a1 n1 c1) s.2) := HR1.out.below hbz
         replace HR2 : Hid (Reads y14 (.slice a2 n2 c2) s.2) := HR2.out.below hbz
         replace HBW : Hid (Below w.heap.size w y14) := HBW.out.trans (hbz.mono HBW.out.size)
         clear hbz )
      | (clear tk26; with_reducible refine wpSeq_allocH ?_ ?_ ?_
         · rfl
         · rfl
         intro g11 y15 nn)
      | (clear tk27; with_reducible refine wpSeq_storeRow 26 (.tmp 11) (.tmp 53) g11 (hdC zeroH) (hdC hf) ?_ ?_ ?_ ?_ ?_ ?_ ?_ ?_ ?_
         · exact nn.blk
         · first | (with_reducible rfl) | rw [len_hdC HOF.out, len_hdC okH_zero]
         · exact info_hdC HOF.out
         · exact hdC_one _
         · rfl
         · rfl
         · rfl
         · rfl
         intro y16 hs
         have hbz := nn.below.trans (hs.only.below nn.ge nn.below.size)
         replace HG3 : Hid (Blk y16 g3 (cb seed) 23) := HG3.out.below hbz HG3.out.lt
         replace HG4 : Hid (Blk y16 g4 (hdC (n, rt, zb32)) 26) := HG4.out.below hbz HG4.out.lt
         replace HG5 : Hid (Blk y16 g5 (cb tree) 23) := HG5.out.below hbz HG5.out.lt
         replace HG7 : Hid (Blk y16 g7 (sgC s (.slice a1 n1 c1)) 31) := HG7.out.below hbz HG7.out.lt
         replace HG9 : Hid (Blk y16 g9 (sgC s (.slice a2 n2 c2)) 31) := HG9.out.below hbz HG9.out.lt
         replace HR1 : Hid (Reads y16 (.slice a1 n1 c1) s.2) := HR1.out.below hbz
         replace HR2 : Hid (Reads y16 (.slice a2 n2 c2) s.2) := HR2.out.below hbz
         replace HBW : Hid (Below w.heap.size w y16) := HBW.out.trans (hbz.mono HBW.out.size)
         have HG11 : Hid (Blk y16 g11 (hdC hf) 26) := hs.blk
         clear nn hs hbz)
      | (clear tk28; with_reducible refine wpSeq_loadW 26 (.tmp 4) g4 0 (hdC (n, rt, zb32)) _ ?_ Tryd.underlying26 rfl ?_ ?_ ?_ ?_ ?_
         · exact HG4.out.range
         · exact info_hdC HOK.out
         · rfl
         · rfl
         · rfl)
      | (clear tk29; with_reducible refine wpSeq_loadW 31 (.tmp 9) g9 0 (sgC s (.slice a2 n2 c2)) _ ?_ Tryd.underlying31 rfl ?_ ?_ ?_ ?_ ?_
         · exact HG9.out.range
         · exact info_sgC HOS.out _
         · rfl
         · rfl
         · rfl)
      | (clear tk30; go_at_call 15; refine (HC4.out y16 _ HBW.out HR2.out).mono ?_; rintro e y17 ⟨rfl, hbz⟩
         replace HG3 : Hid (Blk y17 g3 (cb seed) 23) := HG3.out.below hbz HG3.out.lt
         replace HG4 : Hid (Blk y17 g4 (hdC (n, rt, zb32)) 26) := HG4.out.below hbz HG4.out.lt
         replace HG5 : Hid (Blk y17 g5 (cb tree) 23) := HG5.out.below hbz HG5.out.lt
         replace HG7 : Hid (Blk y17 g7 (sgC s (.slice a1 n1 c1)) 31) := HG7.out.below hbz HG7.out.lt
         replace HG9 : Hid (Blk y17 g9 (sgC s (.slice a2 n2 c2)) 31) := HG9.out.below hbz HG9.out.lt
         replace HG11 : Hid (Blk y17 g11 (hdC hf) 26) := HG11.out.below hbz HG11.out.lt
         replace HR1 : Hid (Reads y17 (.slice a1 n1 c1) s.2) := HR1.out.below hbz
         replace HR2 : Hid (Reads y17 (.slice a2 n2 c2) s.2) := HR2.out.below hbz
         replace HBW : Hid (Below w.heap.size w y17) := HBW.out.trans (hbz.mono HBW.out.size)
         clear hbz )
      | (clear tk31; with_reducible refine wpSeq_allocH ?_ ?_ ?_
         · rfl
         · rfl
         intro g13 y18 nn)
      | (clear tk32; with_reducible refine wpSeq_storeRow 26 (.tmp 13) (.tmp 59) g13 (hdC zeroH) (hdC hf) ?_ ?_ ?_ ?_ ?_ ?_ ?_ ?_ ?_
         · exact nn.blk
         · first | (with_reducible rfl) | rw [len_hdC HOF.out, len_hdC okH_zero]
         · exact info_hdC HOF.out
         · exact hdC_one _
         · rfl
         · rfl
         · rfl
         · rfl
         intro y19 hs
         have hbz := nn.below.trans (hs.only.below nn.ge nn.below.size)
         replace HG3 : Hid (Blk y19 g3 (cb seed) 23) := HG3.out.below hbz HG3.out.lt
         replace HG4 : Hid (Blk y19 g4 (hdC (n, rt, zb32)) 26) := HG4.out.below hbz HG4.out.lt
         replace HG5 : Hid (Blk y19 g5 (cb tree) 23) := HG5.out.below hbz HG5.out.lt
         replace HG7 : Hid (Blk y19 g7 (sgC s (.slice a1 n1 c1)) 31) := HG7.out.below hbz HG7.out.lt
         replace HG9 : Hid (Blk y19 g9 (sgC s (.slice a2 n2 c2)) 31) := HG9.out.below hbz HG9.out.lt
         replace HG11 : Hid (Blk y19 g11 (hdC hf) 26) := HG11.out.below hbz HG11.out.lt
         replace HR1 : Hid (Reads y19 (.slice a1 n1 c1) s.2) := HR1.out.below hbz
         replace HR2 : Hid (Reads y19 (.slice a2 n2 c2) s.2) := HR2.out.below hbz
         replace HBW : Hid (Below w.heap.size w y19) := HBW.out.trans (hbz.mono HBW.out.size)
         have HG13 : Hid (Blk y19 g13 (hdC hf) 26) := hs.blk
         have ce2 : y19.cell? ⟨g4, 0, none⟩ = some (.int .u64 (n : Int)) := HG4.out.cell 0
         clear nn hs hbz)
      | (clear tk33; with_reducible refine wpSeq_loadW 26 (.tmp 11) g11 0 (hdC hf) _ ?_ Tryd.underlying26 rfl ?_ ?_ ?_ ?_ ?_
         · exact HG11.out.range
         · exact info_hdC HOF.out
         · rfl
         · rfl
         · rfl)
      | (clear tk34; with_reducible refine wpSeq_loadW 26 (.tmp 13) g13 0 (hdC hf) _ ?_ Tryd.underlying26 rfl ?_ ?_ ?_ ?_ ?_
         · exact HG13.out.range
         · exact info_hdC HOF.out
         · rfl
         · rfl
         · rfl)
      | (clear tk35; with_reducible refine wpSeq_eqH (.tmp 61) (.tmp 62) hf hf HOF.out HOF.out true ?_ ?_ ?_ ?_ ?_ ?_
         · exact (decide_eq_true rfl).symm
         · rfl
         · rfl
         · rfl
         · rfl)
      | (clear tk36; go_at_call 12; refine (HCW.out y19 HBW.out).mono ?_; rintro e y20 ⟨rfl, hbz⟩
         replace HG3 : Hid (Blk y20 g3 (cb seed) 23) := HG3.out.below hbz HG3.out.lt
         replace HG4 : Hid (Blk y20 g4 (hdC (n, rt, zb32)) 26) := HG4.out.below hbz HG4.out.lt
         replace HG5 : Hid (Blk y20 g5 (cb tree) 23) := HG5.out.below hbz HG5.out.lt
         replace HG7 : Hid (Blk y20 g7 (sgC s (.slice a1 n1 c1)) 31) := HG7.out.below hbz HG7.out.lt
         replace HG9 : Hid (Blk y20 g9 (sgC s (.slice a2 n2 c2)) 31) := HG9.out.below hbz HG9.out.lt
         replace HG11 : Hid (Blk y20 g11 (hdC hf) 26) := HG11.out.below hbz HG11.out.lt
         replace HG13 : Hid (Blk y20 g13 (hdC hf) 26) := HG13.out.below hbz HG13.out.lt
         replace HR1 : Hid (Reads y20 (.slice a1 n1 c1) s.2) := HR1.out.below hbz
         replace HR2 : Hid (Reads y20 (.slice a2 n2 c2) s.2) := HR2.out.below hbz
         replace HBW : Hid (Below w.heap.size w y20) := HBW.out.trans (hbz.mono HBW.out.size)
         clear hbz ))
    go_ret
    first | exact ⟨rfl, HBW.out⟩ | exact ⟨trivial, HBW.out⟩
end Go.Proofs.YtfbdnhadcnmfoaaDoor
/- A list of signed roots that grows; what is sealed from the pin on (layer 11). -/
namespace Go.Proofs.YtfbdnhadcnmfoaaDoor
open Go.RowKit Go.Shelf
set_option maxRecDepth 100000
def flatS (L : List (SgT × Value)) : List Value := (L.map fun p => sgC p.1 p.2).flatten
/-- the slice v of signed roots, the call's own from block base on, holds L -/
def OwnS (w : World) (base : Nat) (v : Value) (L : List (SgT × Value)) : Prop := w.ownsRow base 31 98 v L.length (flatS L) ∧ ∀ p ∈ L, okS p.1
theorem OwnS.nil (w : World) (base : Nat) : OwnS w base (.slice none 0 0) [] := ⟨World.ownsRow_nil _ _ _ _, fun _ h => by cases h⟩
theorem OwnS.lt {w : World} {base : Nat} {v : Value} {L : List (SgT × Value)} (h : OwnS w base v L) : ∀ k, v.ownBlock = some k → base ≤ k ∧ k < w.heap.size := World.ownsRow.lt h.1
theorem OwnS.keep {w w' : World} {base : Nat} {v : Value} {L : List (SgT × Value)} (h : OwnS w base v L) (hs : ∀ k, base ≤ k → k < w.heap.size → w'.heap[k]? = w.heap[k]?) : OwnS w' base v L := by
  refine ⟨?_, h.2⟩
  have hlt := World.ownsRow.lt h.1
  rcases h.1 with ⟨h1, ⟨rfl, h2⟩ | ⟨g, cap, cur, rfl, hg, hh, h3⟩⟩
  · exact ⟨h1, Or.inl ⟨rfl, h2⟩⟩
  · exact ⟨h1, Or.inr ⟨g, cap, cur, rfl, hg, by rw [hs g hg (hlt g rfl).2]; exact hh, h3⟩⟩
theorem OwnS.slice {w : World} {base : Nat} {v : Value} {L : List (SgT × Value)} (h : OwnS w base v L) : ∃ ad c, v = .slice ad L.length c := by
  rcases h.1 with ⟨_, ⟨rfl, h2⟩ | ⟨g, cap, cur, rfl, _⟩⟩
  · exact ⟨none, 0, by rw [h2]⟩
  · exact ⟨_, _, rfl⟩
theorem flatS_snoc (L : List (SgT × Value)) (p : SgT × Value) : flatS (L ++ [p]) = flatS L ++ sgC p.1 p.2 := by
  unfold flatS
  simp
theorem flatS_at {L : List (SgT × Value)} (h : ∀ p ∈ L, okS p.1) : ∀ (j i : Nat) (p : SgT × Value) (v : Value), L[j]? = some p → (sgC p.1 p.2)[i]? = some v → (flatS L)[j * 98 + i]? = some v := by
  unfold flatS
  induction L with
  | nil => intro j i p v hj; simp at hj
  | cons q r ih =>
    intro j i p v hj hv
    rw [List.map_cons, List.flatten_cons]
    cases j with
    | zero =>
      simp only [List.getElem?_cons_zero, Option.some.injEq] at hj
      subst hj
      have hi : i < (sgC q.1 q.2).length := (List.getElem?_eq_some_iff.1 hv).1
      rw [Nat.zero_mul, Nat.zero_add, List.getElem?_append_left hi, hv]
    | succ j =>
      simp only [List.getElem?_cons_succ] at hj
      have hl : (sgC q.1 q.2).length = 98 := len_sgC (h q (by simp)) _
      rw [List.getElem?_append_right (by rw [hl]; omega), hl, show (j + 1) * 98 + i - 98 = j * 98 + i by omega]
      exact ih (fun x hx => h x (by simp [hx])) j i p v hj hv
theorem OwnS.readsS {w : World} {base : Nat} {v : Value} {L : List (SgT × Value)} (h : OwnS w base v L) (hr : ∀ p ∈ L, Reads w p.2 p.1.2) : ReadsS w v (L.map (·.1)) := by
  refine ⟨?_, fun s hs => by obtain ⟨p, hp, rfl⟩ := List.mem_map.1 hs; exact h.2 p hp⟩
  rw [List.length_map]
  rcases h.1 with ⟨h1, ⟨rfl, h2⟩ | ⟨g, cap, cur, rfl, hg, hh, hc, hm, hs, ht⟩⟩
  · exact ⟨none, 0, by rw [h2], by omega, fun _ => rfl, fun hp => by omega⟩
  · refine ⟨_, cap, rfl, hc, fun h => (by cases h), fun hp => ⟨g, 0, rfl, fun j hj => ?_⟩⟩
    have hq : L[j]? = some L[j] := List.getElem?_eq_getElem hj
    have e : (L.map (·.1)).getD j zeroS = L[j].1 := by rw [List.getD_eq_getElem?_getD, List.getElem?_map, hq]; rfl
    rw [e]
    have hmem : L[j] ∈ L := List.getElem_mem hj
    refine ⟨L[j].2, ⟨fun i u hv => ?_, h.2 _ hmem⟩, hr _ hmem⟩
    have hi : i < 98 := by have := (List.getElem?_eq_some_iff.1 hv).1; rwa [len_sgC (h.2 _ hmem)] at this
    have hf := flatS_at h.2 j i L[j] u hq hv
    rw [← ht, List.getElem?_take] at hf
    rw [cell_of_row w g _ cur 31 (0, 0) hh, Nat.zero_add]
    rw [if_pos (by
      have : (j + 1) * 98 ≤ L.length * 98 := Nat.mul_le_mul_right 98 hj
      omega)] at hf
    simpa using hf
/-- one signed root more -/
theorem wpSeq_appendSg {ops : Array Oper} {Q : Exit → Act → World → Prop} {rest : List Oper} {o : Oper} {a : Act} {w : World} (s x : Operand) (base : Nat) (v : Value) (L : List (SgT × Value)) (t : SgT) (ad : Option Addr) (nn cc : Nat) (g : Nat)
    (hown : OwnS w base v L) (hu : Blk w g (sgC t (.slice ad nn cc)) 31) (ot : okS t) (hl : L.length < 1000000) (hbase : base ≤ w.heap.size)
    (ho : o.op = .call { callee := .builtin .append, args := #[s, x], argTypes := #[42, 42] }) (hs : a.eval s = v) (hx : a.eval x = .slice (some ⟨g, 0, none⟩) 1 1) (hgd : o.guard = none)
    (h : ∀ v' w', OwnS w' base v' (L ++ [(t, .slice ad nn cc)]) → Grow base w v w' v' → wpList Tryd.prog ops Q rest (a.put o.dst v') w') : wpList Tryd.prog ops Q (o :: rest) a w := by
  obtain ⟨i0, hi, hz0, hz1, hz2⟩ := info_parts Tryd.infos3
  refine wpList_append_own_at w hgd s x 42 ho base 31 i0 (.agg (sgC zeroS (.slice none 0 0)).toArray) 98 128 Tryd.underlying42 hi hz0 hz1 hz2 (by show (sgC zeroS (.slice none 0 0)).toArray.size = 98; rw [List.size_toArray]; exact len_sgC okS_zero _) (by decide) v L.length (flatS L) hs hown.1 ⟨g, 0, none⟩ 1 1 (sgC t (.slice ad nn cc)) hx (by rw [len_sgC ot]) ?_ (sgC_one _ _ _ _) (by unfold maxLen; omega) (by omega) hbase ?_
  · intro j u hj
    rw [Addr.add_mid, Nat.zero_add, hu.cell, hj]
  · intro v' w' h2 h3 _ h5
    refine h v' w' ⟨?_, ?_⟩ ⟨(Below.refl _ _).grown h3 hbase (fun k hk => (hown.lt k hk).1), fun k hk hlt => h3.block k hlt hk, h5⟩
    · rw [flatS_snoc, List.length_append]; exact h2
    · intro p hp
      rcases List.mem_append.1 hp with hp | hp
      · exact hown.2 p hp
      · rw [List.mem_singleton] at hp; subst hp; exact ot
/-- where the honest stand -/
structure HoI (w : World) (g2 g5 base : Nat) (seed : List (BitVec 8)) (h : HdT) (v : Value) (L : List (SgT × Value)) (W : World) : Prop where
  sd : Blk W g2 (cb seed) 23
  hd : Blk W g5 (hdC h) 26
  own : OwnS W base v L
  rd : ∀ p ∈ L, Reads W p.2 p.1.2
  ap : ∀ p ∈ L, ∀ k, p.2.ownBlock = some k → g5 < k ∧ v.ownBlock ≠ some k
  bel : Below w.heap.size w W
  bas : base ≤ W.heap.size
theorem HoI.next {w : World} {g2 g5 base : Nat} {seed : List (BitVec 8)} {h : HdT} {v : Value} {L : List (SgT × Value)} {W W' : World} (i : HoI w g2 g5 base seed h v L W) (hb : Below W.heap.size W W') : HoI w g2 g5 base seed h v L W' :=
  ⟨i.sd.below hb i.sd.lt, i.hd.below hb i.hd.lt, i.own.keep fun k _ hk => hb.block k hk, fun p hp => (i.rd p hp).below hb, i.ap, i.bel.trans (hb.mono i.bel.size), Nat.le_trans i.bas hb.size⟩
theorem HoI.drew {w : World} {g2 g5 base : Nat} {seed : List (BitVec 8)} {h : HdT} {v : Value} {L : List (SgT × Value)} {W : World} (i : HoI w g2 g5 base seed h v L W) : HoI w g2 g5 base seed h v L W.drew := i.next (Below.refl _ _).drew
/-- the head is set anew -/
theorem HoI.head {w : World} {g2 g5 base : Nat} {seed : List (BitVec 8)} {h h' : HdT} {v : Value} {L : List (SgT × Value)} {W W' : World} (i : HoI w g2 g5 base seed h v L W) (hs : SetR (hdC h') 26 W g5 W') (h25 : g2 < g5) (h5b : g5 < base) (hw : w.heap.size ≤ g5) : HoI w g2 g5 base seed h' v L W' := by
  refine ⟨i.sd.only hs.only (by omega), hs.blk, i.own.keep fun k h1 h2 => hs.only.block k (by omega) h2, fun p hp => ?_, i.ap, i.bel.trans (hs.only.below hw i.bel.size), Nat.le_trans i.bas hs.only.size⟩
  obtain ⟨ad, n, c, hv⟩ := (i.rd p hp).form
  have h1 := i.rd p hp
  have h2 := i.ap p hp
  rw [hv] at h1 h2 ⊢
  exact h1.apartB hs.only fun k hk => by have := (h2 k hk).1; omega
/-- a signed root more in the list -/
theorem HoI.more {w : World} {g2 g5 base : Nat} {seed : List (BitVec 8)} {h : HdT} {v v' : Value} {L : List (SgT × Value)} {W W' : World} {t : SgT} {ad : Option Addr} {nn cc : Nat} (i : HoI w g2 g5 base seed h v L W) (hr : Reads W (.slice ad nn cc) t.2) (ha : ∀ k, (Value.slice ad nn cc).ownBlock = some k → g5 < k ∧ v.ownBlock ≠ some k) (hlt : ∀ p ∈ L ++ [(t, Value.slice ad nn cc)], ∀ k, p.2.ownBlock = some k → k < W.heap.size) (ho : OwnS W' base v' (L ++ [(t, .slice ad nn cc)])) (hg : Grow base W v W' v') (h25 : g2 < g5) (h5b : g5 < base) (hw : w.heap.size ≤ base) : HoI w g2 g5 base seed h v' (L ++ [(t, .slice ad nn cc)]) W' := by
  have hv : ∀ k, v.ownBlock = some k → base ≤ k := fun k hk => (i.own.lt k hk).1
  have kp : ∀ {g : Nat} {cs : List Value} {ty : TypeId}, Blk W g cs ty → g < base → Blk W' g cs ty := fun {g cs ty} hb hl => hb.below hg.below hl
  have rd : ∀ p ∈ L ++ [(t, Value.slice ad nn cc)], Reads W p.2 p.1.2 := fun p hp => by
    rcases List.mem_append.1 hp with hp | hp
    · exact i.rd p hp
    · rw [List.mem_singleton] at hp; subst hp; exact hr
  have ap : ∀ p ∈ L ++ [(t, Value.slice ad nn cc)], ∀ k, p.2.ownBlock = some k → g5 < k ∧ v.ownBlock ≠ some k := fun p hp => by
    rcases List.mem_append.1 hp with hp | hp
    · exact i.ap p hp
    · rw [List.mem_singleton] at hp; subst hp; exact ha
  refine ⟨kp i.sd (by omega), kp i.hd h5b, ho, fun p hp => ?_, fun p hp k hk => ⟨(ap p hp k hk).1, ?_⟩, i.bel.trans (hg.below.mono hw), Nat.le_trans i.bas hg.below.size⟩
  · obtain ⟨a', n', c', hv'⟩ := (rd p hp).form
    have h1 := rd p hp
    have h2 := ap p hp
    rw [hv'] at h1 h2 ⊢
    obtain ⟨ad2, c2, hv2, hc2, hn2, hx2⟩ := h1
    refine ⟨ad2, c2, hv2, hc2, hn2, fun hp2 => ?_⟩
    obtain ⟨b, off, rfl, hy⟩ := hx2 hp2
    simp only [Value.slice.injEq] at hv2
    obtain ⟨rfl, _⟩ := hv2
    refine ⟨b, off, rfl, fun j hj => ?_⟩
    have hcj := hy j hj
    have hbl : b < W.heap.size := block_lt_of_cell hcj
    have hbk := hg.other b (fun e => (h2 b rfl).2 e.symm) hbl
    rw [← hcj]
    exact World.cell?_of_block hbk
  · rcases hg.lies with e | e
    · rw [e]; exact (ap p hp k hk).2
    · rw [e]
      have := hlt p hp k hk
      simp only [ne_eq, Option.some.injEq]
      omega
end Go.Proofs.YtfbdnhadcnmfoaaDoor
/- ChainHonest, over what chain's functions do (layer 11). -/
namespace Go.Proofs.YtfbdnhadcnmfoaaDoor
open Go.RowKit Go.Shelf
set_option maxRecDepth 100000
theorem idx32 (b off cap n k : Nat) (hk : k < n) (f : Operand → Value) (o : Oper) (x y : Operand) (ho : o.op = .indexAddr 47 x y) (hx : f x = .slice (some ⟨b, off, none⟩) n cap) (hy : f y = .int .i64 (k : Int)) (w : World) :
    (execOp f o).run Tryd.prog w = .ok (.value (.pointer (some ⟨b, off + k * 32, none⟩))) w := by
  have k0 : (0 : Int) ≤ (k : Int) := by omega
  have k1 : (k : Int) < (n : Int) := by omega
  unfold execOp
  rw [ho]
  simp [go_sem, hx, hy, k0, k1, Addr.add_mid]
theorem Reads.lt {w : World} {ad : Option Addr} {n c : Nat} {l : List (BitVec 8)} (h : Reads w (.slice ad n c) l) (hp : 0 < l.length) : ∀ k, (Value.slice ad n c).ownBlock = some k → k < w.heap.size := by
  intro k hk
  obtain ⟨ad', c', hv, _, _, hx⟩ := h
  obtain ⟨b, off, rfl, hy⟩ := hx hp
  simp only [Value.slice.injEq] at hv
  obtain ⟨rfl, _⟩ := hv
  simp only [Value.ownBlock, Option.some.injEq] at hk
  subst hk
  exact block_lt_of_cell (hy 0 hp)
/-- the honest, told plainly -/
structure HoP (seed : List (BitVec 8)) (k : Nat) (h : HdT) (L : List (SgT × Value)) : Prop where
  ep : h.1 = k
  ky : h.2.2 = pubR seed (k + 1)
  ok : okH h
  len : L.length = k
  wk : walkR (0, zb32, pubR seed 1) (L.map (·.1)) = (h, k, 0)
  pos : ∀ p ∈ L, 0 < p.1.2.length
theorem HoP.start (seed : List (BitVec 8)) : HoP seed 0 (0, zb32, pubR seed 1) [] := by
  obtain ⟨p, hp⟩ : ∃ p, p = pubR seed 1 := ⟨_, rfl⟩
  have hl : p.length = 32 := by rw [hp]; exact len_pubR _ _
  have hk : p = pubR seed (0 + 1) := by rw [hp, Nat.zero_add]
  rw [← hp]
  refine ⟨rfl, hk, okH_mk rfl hl (by decide), rfl, ?_, fun _ h => by cases h⟩
  rw [← hp, List.map_nil, walkR]
/-- what is sealed next -/
structure HoS (seed : List (BitVec 8)) (k : Nat) (h : HdT) (L : List (SgT × Value)) (tr : List (BitVec 8)) (s : SgT) (hf : HdT) : Prop where
  sl : sealR seed h tr = (s, 0)
  os : okS s
  ep : s.1.1 = k + 1
  tq : s.1.2.2.1 = tr
  fo : followR h s = (hf, 0)
  he : hf = (k + 1, dig (rbS s), pubR seed (k + 2))
  oh : okH hf
  pos : 0 < s.2.length
  next : ∀ v, HoP seed (k + 1) hf (L ++ [(s, v)])
theorem HoP.step {seed : List (BitVec 8)} {k : Nat} {h : HdT} {L : List (SgT × Value)} (i : HoP seed k h L) (hk : k < 64) (tr : List (BitVec 8)) (ht : tr.length = 32) : ∃ s hf, HoS seed k h L tr s hf := by
  have hlt : h.1 < 64 := by rw [i.ep]; exact hk
  have e : sealR seed h tr = (((h.1 + 1, h.2.1, tr, pubR seed (h.1 + 2)), signR (partB seed (h.1 + 1)) (bt (dig (rootB (h.1 + 1) h.2.1 tr (pubR seed (h.1 + 2))))) 256), 0) := by rw [sealR, if_neg (by omega)]
  have hf := seal_follow seed h tr (by rw [i.ky, i.ep]) hlt
  have ho := seal_okS seed h tr i.ok ht
  rw [i.ep] at hf e
  obtain ⟨sg, hsg⟩ : ∃ g, g = signR (partB seed (k + 1)) (bt (dig (rootB (k + 1) h.2.1 tr (pubR seed (k + 2))))) 256 := ⟨_, rfl⟩
  have hsl : sg.length = 64 * 256 := by rw [hsg]; exact len_signR (fun i o => len_partB _ _ _ _) _ 256
  obtain ⟨p, hp⟩ : ∃ p, p = pubR seed (k + 2) := ⟨_, rfl⟩
  have hpl : p.length = 32 := by rw [hp]; exact len_pubR _ _
  rw [← hsg, ← hp] at e
  rw [e, ← hp] at hf
  rw [e] at ho
  dsimp only at hf ho
  obtain ⟨s, hs⟩ : ∃ s : SgT, s = ((k + 1, h.2.1, tr, p), sg) := ⟨_, rfl⟩
  rw [← hs] at hf ho e
  obtain ⟨d, hd⟩ : ∃ d, d = dig (rbS s) := ⟨_, rfl⟩
  have hdl : d.length = 32 := by rw [hd]; exact len_dig' _
  rw [← hd] at hf
  have h1 : s.1.1 = k + 1 := by rw [hs]
  have h2 : s.1.2.2.1 = tr := by rw [hs]
  have h3 : 0 < s.2.length := by rw [hs]; show 0 < sg.length; omega
  have oh : okH (k + 1, d, p) := okH_mk hdl hpl (by omega)
  refine ⟨s, (k + 1, d, p), ⟨e, ho, h1, h2, hf, by rw [hd, hp], oh, h3, fun v => ?_⟩⟩
  refine ⟨rfl, hp, oh, by rw [List.length_append, i.len]; rfl, ?_, fun q hq => ?_⟩
  · have hw := i.wk
    have hl : (L.map (·.1)).length = k := by rw [List.length_map, i.len]
    obtain ⟨p1, hp1⟩ : ∃ p, p = pubR seed 1 := ⟨_, rfl⟩
    rw [← hp1] at hw ⊢
    have hsn := walk_snoc (L.map (·.1)) s (0, zb32, p1) (by rw [hw])
    rw [hw, hf, hl, if_pos rfl] at hsn
    rw [List.map_append]
    exact hsn
  · rcases List.mem_append.1 hq with hq | hq
    · exact i.pos q hq
    · rw [List.mem_singleton] at hq; subst hq; exact h3
theorem Blk.grown5 {base : Nat} {w w' : World} {v v' : Value} {g : Nat} {cs : List Value} {t : TypeId} (h : Blk w g cs t) (hg : Grow base w v w' v') (hne : v.ownBlock ≠ some g) : Blk w' g cs t := by
  have hh := hg.other g (fun e => hne e.symm) h.lt
  unfold Blk at *
  rw [hh]
  exact h
theorem OwnS.notHead {w : World} {base g : Nat} {v : Value} {L : List (SgT × Value)} {cs : List Value} (h : OwnS w base v L) (hb : Blk w g cs 26) : v.ownBlock ≠ some g := by
  intro hk
  rcases h.1 with ⟨_, ⟨rfl, _⟩ | ⟨g2, cap, cur, rfl, _, hh, _⟩⟩
  · simp [Value.ownBlock] at hk
  · simp only [Value.ownBlock, Option.some.injEq] at hk
    subst hk
    unfold Blk at hb
    rw [hh] at hb
    simp only [Option.some.injEq, Obj.cells.injEq] at hb
    exact absurd hb.2.1 (by decide)
set_option maxRecDepth 100000 in
set_option maxHeartbeats 8000000 in
theorem chainHonest_law (hO : ChOps) (seed : List (BitVec 8)) (vt : Value) (ts : List (List (BitVec 8))) (w : World) (hK : KOk w) (hs : seed.length = 32) (hr : ReadsD w vt ts) :
    Calls Tryd.prog 6 #[.agg (cb seed).toArray, vt] w fun e w' => e = .returned (.bool true) ∧ Below w.heap.size w w' := by
  obtain ⟨⟨at0, ct, hv, hq1, hq2, hq3⟩, h32⟩ := id hr
  clear hq1 hq2 hq3
  obtain ⟨n, HN⟩ : ∃ n, Hid (n = ts.length) := ⟨_, rfl⟩
  rw [← HN.out] at hv
  have HRD : Hid (ReadsD w vt ts) := hr
  have H32 : Hid (∀ d ∈ ts, d.length = 32) := h32
  subst hv
  have HCW : Hid (∀ W : World, Below w.heap.size w W → Calls Tryd.prog 12 #[] W fun e w' => e = .returned (.bool true) ∧ Below W.heap.size W w') := fun W hh => works11_any hO W (hK.below hh hK.lt)
  have HSL : Hid (seed.length = 32) := hs
  have HID : Hid ((Tryd.prog.info? 23).map (·.size) = some (cb seed).length) := by show _ = _; rw [cb_len, hs]; exact info_digest
  have HBW : Hid (Below w.heap.size w w) := Below.refl _ _
  by_cases h5 : 5 < n
  · have hi : (5 : Int) < (n : Int) := by omega
    clear hO hK hs hr h32
    go_enter Tryd.func6, Tryd.ntmps6
    have tk0 : Hid True := trivial
    have tk1 : Hid True := trivial
    go_wp2_with (first
      | (clear tk0; with_reducible refine wpSeq_boxW 23 (.tmp 0) (cb seed) ?_ ?_ ?_ ?_
         · rfl
         · rfl
         · rfl
         intro g2 y1 nn
         replace HBW : Hid (Below w.heap.size w y1) := HBW.out.trans (nn.below.mono HBW.out.size)
         have HG2 : Hid (Blk y1 g2 (cb seed) 23) := nn.blk
         clear nn)
      | (clear tk1; go_at_call 12; refine (HCW.out y1 HBW.out).mono ?_; rintro e y2 ⟨rfl, hbz⟩
         replace HG2 : Hid (Blk y2 g2 (cb seed) 23) := HG2.out.below hbz HG2.out.lt
         replace HBW : Hid (Below w.heap.size w y2) := HBW.out.trans (hbz.mono HBW.out.size)
         clear hbz ))
    go_ret
    first | exact ⟨rfl, HBW.out⟩ | exact ⟨trivial, HBW.out⟩
  have hi : ¬ ((5 : Int) < (n : Int)) := by omega
  have HN5 : Hid (n ≤ 5) := Nat.le_of_not_lt h5
  obtain ⟨pk, HPK⟩ : ∃ c, Hid (c = pubR seed 1) := ⟨_, rfl⟩
  have HPL : Hid (pk.length = 32) := by show _ = _; rw [HPK.out]; exact len_pubR _ _
  have HOK0 : Hid (okH (0, zb32, pk)) := okH_mk rfl HPL.out (by decide)
  have HC5 : Hid (∀ W : World, Below w.heap.size w W → Calls Tryd.prog 13 #[.agg (cb seed).toArray] W fun e w' => e = .returned (.agg (cb pk).toArray) ∧ Below W.heap.size W w') := fun W hh => by rw [HPK.out]; exact hO.pin W seed (hK.below hh hK.lt) hs
  have HC6 : Hid (∀ W : World, Calls Tryd.prog 19 #[.agg (cb pk).toArray] W fun e w' => e = .returned (.agg (hdC (0, zb32, pk)).toArray) ∧ Below W.heap.size W w') := fun W => hO.start W pk HPL.out
  have HST : Hid (HoP seed 0 (0, zb32, pk) []) := by rw [HPK.out]; exact HoP.start seed
  have HOP : Hid ChOps := hO
  have HKK : Hid (KOk w) := hK
  clear hO hK hs hr h32 h5
  go_enter Tryd.func6, Tryd.ntmps6
  have tk0 : Hid True := trivial
  have tk1 : Hid True := trivial
  have tk2 : Hid True := trivial
  have tk3 : Hid True := trivial
  have tk4 : Hid True := trivial
  have tk5 : Hid True := trivial
  go_wp2_with (first
    | (clear tk0; with_reducible refine wpSeq_boxW 23 (.tmp 0) (cb seed) ?_ ?_ ?_ ?_
       · rfl
       · rfl
       · rfl
       intro g2 y1 nn
       replace HBW : Hid (Below w.heap.size w y1) := HBW.out.trans (nn.below.mono HBW.out.size)
       have HG2 : Hid (Blk y1 g2 (cb seed) 23) := nn.blk
       clear nn)
    | (clear tk1; with_reducible refine wpSeq_loadW 23 (.tmp 2) g2 0 (cb seed) _ ?_ Tryd.underlying23 rfl ?_ ?_ ?_ ?_ ?_
       · exact HG2.out.range
       · exact HID.out
       · rfl
       · rfl
       · rfl)
    | (clear tk2; go_at_call 13; refine (HC5.out y1 HBW.out).mono ?_; rintro e y2 ⟨rfl, hbz⟩
       replace HG2 : Hid (Blk y2 g2 (cb seed) 23) := HG2.out.below hbz HG2.out.lt
       replace HBW : Hid (Below w.heap.size w y2) := HBW.out.trans (hbz.mono HBW.out.size)
       clear hbz )
    | (clear tk3; go_at_call 19; refine (HC6.out y2).mono ?_; rintro e y3 ⟨rfl, hbz⟩
       replace HG2 : Hid (Blk y3 g2 (cb seed) 23) := HG2.out.below hbz HG2.out.lt
       replace HBW : Hid (Below w.heap.size w y3) := HBW.out.trans (hbz.mono HBW.out.size)
       clear hbz )
    | (clear tk4; with_reducible refine wpSeq_allocH ?_ ?_ ?_
       · rfl
       · rfl
       intro g5 y4 nn
       have HN25 : Hid (g2 < g5 ∧ w.heap.size ≤ g5) := by have h1 := HG2.out.lt; have h2 := nn.ge; have h3 := HBW.out.size; exact ⟨by omega, by omega⟩)
    | (clear tk5; with_reducible refine wpSeq_storeRow 26 (.tmp 5) (.tmp 20) g5 (hdC zeroH) (hdC (0, zb32, pk)) ?_ ?_ ?_ ?_ ?_ ?_ ?_ ?_ ?_
       · exact nn.blk
       · first | (with_reducible rfl) | rw [len_hdC HOK0.out, len_hdC okH_zero]
       · exact info_hdC HOK0.out
       · exact hdC_one _
       · rfl
       · rfl
       · rfl
       · rfl
       intro y5 hs
       have hbz := nn.below.trans (hs.only.below nn.ge nn.below.size)
       replace HG2 : Hid (Blk y5 g2 (cb seed) 23) := HG2.out.below hbz HG2.out.lt
       replace HBW : Hid (Below w.heap.size w y5) := HBW.out.trans (hbz.mono HBW.out.size)
       have HG5 : Hid (Blk y5 g5 (hdC (0, zb32, pk)) 26) := hs.blk
       clear nn hs hbz))
  obtain ⟨base, HBA⟩ : ∃ b, Hid (b = y5.heap.size) := ⟨_, rfl⟩
  have HNG : Hid (g2 < g5 ∧ g5 < base ∧ w.heap.size ≤ g5 ∧ w.heap.size ≤ base) := ⟨HN25.out.1, by rw [HBA.out]; exact HG5.out.lt, HN25.out.2, by rw [HBA.out]; exact HBW.out.size⟩
  have HI : Hid (HoI w g2 g5 base seed (0, zb32, pk) (.slice none 0 0) [] y5) := ⟨HG2.out, HG5.out, OwnS.nil _ _, (fun _ h => by cases h), (fun _ h => by cases h), HBW.out, by rw [HBA.out]; exact Nat.le_refl _⟩
  clear HG2 HG5 HBW HBA HN25
  go_loopw [6, 7] (fun v i wr => ∃ (k : Nat) (h : HdT) (L : List (SgT × Value)), k ≤ n ∧ i = .int .i64 (k : Int) ∧ HoP seed k h L ∧ HoI w g2 g5 base seed h v L wr) (fun _ i _ => n - (intOf i).toNat)
  case atStart => exact ⟨0, (0, zb32, pk), [], by omega, rfl, HST.out, HI.out⟩
  case round =>
    clear HI
    obtain ⟨k, h, L, hkn, rfl, hP, hI⟩ := hrel
    have HI : Hid (HoI w g2 g5 base seed h u6 L wr) := hI
    have HP : Hid (HoP seed k h L) := hP
    clear hI hP
    by_cases hlt : k < n
    · have hlk : (k : Int) < (n : Int) := by omega
      have f5 : IntKind.i64.wrap ((k : Int) + 1) = (k : Int) + 1 := by have := HN5.out; rw [IntKind.wrap_i64]; omega
      have f6 : IntKind.u64.wrap ((k : Int) + 1) = (k : Int) + 1 := by have := HN5.out; rw [IntKind.wrap_u64]; omega
      obtain ⟨bt0, ot, ct', hv, hat⟩ := HRD.out.at (by rw [← HN.out]; omega)
      simp only [Value.slice.injEq] at hv
      obtain ⟨rfl, hnl, rfl⟩ := hv
      clear hnl
      obtain ⟨tr, HTT⟩ : ∃ t, Hid (t = ts.getD k []) := ⟨_, rfl⟩
      have HTL : Hid (tr.length = 32) := by show _ = _; rw [HTT.out]; exact getD_mem32 H32.out (by rw [← HN.out]; exact hlt)
      have HTR : Hid (∀ W, Below w.heap.size w W → W.rangeAt bt0 (ot + k * 32) (cb tr)) := fun W hh => by
        have h1 := hat k (by rw [← HN.out]; exact hlt)
        rw [← HTT.out] at h1
        exact rangeAt_below h1 hh (rangeAt_lt h1 HTL.out)
      clear hat HTT
      obtain ⟨s, hf, hQ⟩ := HP.out.step (by have := HN5.out; omega) tr HTL.out
      have HQ : Hid (HoS seed k h L tr s hf) := hQ
      clear hQ
      have HC1 : Hid (∀ W, HoI w g2 g5 base seed h u6 L W → Calls Tryd.prog 9 #[.agg (cb seed).toArray, .agg (hdC h).toArray, .agg (cb tr).toArray] W fun e w' => ∃ ad m c, e = .returned (.tuple #[.agg (sgC s (.slice ad m c)).toArray, .int .i64 0]) ∧ Reads w' (.slice ad m c) s.2 ∧ (∀ k, (Value.slice ad m c).ownBlock = some k → W.heap.size ≤ k) ∧ Below W.heap.size W w') := fun W hW => by have h1 := HOP.out.seals W seed tr h (HKK.out.below hW.bel HKK.out.lt) HSL.out HP.out.ok HTL.out; rw [HQ.out.sl] at h1; exact h1
      have HC2 : Hid (∀ (W : World), HoI w g2 g5 base seed h u6 L W → ∀ {vs : Value}, Reads W vs s.2 → Calls Tryd.prog 14 #[.agg (hdC h).toArray, .agg (sgC s vs).toArray] W fun e w' => e = .returned (.tuple #[.agg (hdC hf).toArray, .int .i64 0]) ∧ Below W.heap.size W w') := fun W hW vs hr => by have h1 := HOP.out.follow W h s vs (HKK.out.below hW.bel HKK.out.lt) HP.out.ok HQ.out.os hr; rw [HQ.out.fo] at h1; exact h1
      obtain ⟨dg, HDG⟩ : ∃ c, Hid (c = dig (rbS s)) := ⟨_, rfl⟩
      have HDL : Hid (dg.length = 32) := by show _ = _; rw [HDG.out]; exact len_dig' _
      obtain ⟨rt, HRT⟩ : ∃ c, Hid (c = rtC s) := ⟨_, rfl⟩
      have HC3 : Hid (∀ W : World, Calls Tryd.prog 20 #[.agg rt.toArray] W fun e w' => e = .returned (.agg (cb dg).toArray) ∧ Below W.heap.size W w') := fun W => by rw [HRT.out, HDG.out]; exact hRoot_any _ _ _ _ W ⟨HQ.out.os.1, HQ.out.os.2.1, HQ.out.os.2.2.1, HQ.out.os.2.2.2⟩
      have HRTF : Hid (hf.2.1 = dg) := by show _ = _; rw [HQ.out.he, HDG.out]
      have HEPF : Hid (hf.1 = k + 1) := by show _ = _; rw [HQ.out.he]
      have heqt : ∀ wx : World, (Op.equalIn 10000 23 (.agg (cb tr).toArray) (.agg (cb tr).toArray)).run Tryd.prog wx = .ok true wx := fun wx => by have h1 := eq_dig tr tr HTL.out HTL.out wx; rw [decide_eq_true rfl] at h1; exact h1
      have heqd : ∀ wx : World, (Op.equalIn 10000 23 (.agg (cb dg).toArray) (.agg (cb dg).toArray)).run Tryd.prog wx = .ok true wx := fun wx => by have h1 := eq_dig dg dg HDL.out HDL.out wx; rw [decide_eq_true rfl] at h1; exact h1
      go_wp2
      go_cut [8, 9] from 27 to 36 (fun a b W => ∃ g8 ad nz cc, a = .pointer (some ⟨g8, 0, none⟩) ∧ b = .int .i64 0 ∧ HoI w g2 g5 base seed h u6 L W ∧ Blk W g8 (sgC s (.slice ad nz cc)) 31 ∧ Reads W (.slice ad nz cc) s.2 ∧ ∀ k, (Value.slice ad nz cc).ownBlock = some k → g5 < k ∧ u6.ownBlock ≠ some k)
      case first =>
        refine wp_region_held_drew (S := Over (World.drew wr)) (by kernel_rfl) (Over.refl _) ?_
        intro hS
        replace HI : Hid (HoI w g2 g5 base seed h u6 L (World.drew wr)) := HI.out.drew
        change wpAnyH _ _ _ _ _ _ _ _ (World.drew wr)
        generalize World.drew wr = y0 at *
        try simp only [Act.put]
        refine wpAnyH_take (i := 0) (v := .agg (cb seed).toArray) rfl (by kernel_rfl) (by kernel_rfl) (by kernel_rfl) (fun _ _ _ h => h) (Or.inl ⟨by rfl, fun wx hx => by exact loadDigest _ g2 seed HSL.out (HI.out.next hx).sd rfl rfl⟩) hS ?_
        simp only [Act.put, List.getElem_toArray, List.getElem_cons_zero, List.setIfInBounds_toArray, List.set_cons_zero, List.set_cons_succ]
        refine wpAnyH_take (i := 1) (v := .agg (hdC h).toArray) rfl (by kernel_rfl) (by kernel_rfl) (by kernel_rfl) (fun _ _ _ h => h) (Or.inl ⟨by rfl, fun wx hx => by exact loadHdAt _ g5 0 h ((HI.out.next hx).hd.hdAt HP.out.ok) rfl rfl⟩) hS ?_
        simp only [Act.put, List.getElem_toArray, List.getElem_cons_succ, List.getElem_cons_zero, List.setIfInBounds_toArray, List.set_cons_zero, List.set_cons_succ]
        refine wpAnyH_take (i := 2) (v := .slice (some ⟨bt0, ot, none⟩) n ct) rfl (by kernel_rfl) (by kernel_rfl) (by kernel_rfl) (fun _ _ _ h => h) (Or.inl ⟨by rfl, fun wx hx => by simp [go_sem]⟩) hS ?_
        simp only [Act.put, List.getElem_toArray, List.getElem_cons_succ, List.getElem_cons_zero, List.setIfInBounds_toArray, List.set_cons_zero, List.set_cons_succ]
        refine wpAnyH_take (i := 3) (v := .int .i64 (k : Int)) rfl (by kernel_rfl) (by kernel_rfl) (by kernel_rfl) (fun _ _ _ h => h) (Or.inl ⟨by rfl, fun wx hx => by simp [go_sem]⟩) hS ?_
        simp only [Act.put, List.getElem_toArray, List.getElem_cons_succ, List.getElem_cons_zero, List.setIfInBounds_toArray, List.set_cons_zero, List.set_cons_succ]
        refine wpAnyH_take (i := 4) (v := .pointer (some ⟨bt0, ot + k * 32, none⟩)) rfl (by kernel_rfl) (by kernel_rfl) (by kernel_rfl) (fun _ _ _ h => h) (Or.inl ⟨by rfl, fun wx hx => by exact idx32 bt0 ot ct n k hlt _ _ _ _ rfl rfl rfl _⟩) hS ?_
        simp only [Act.put, List.getElem_toArray, List.getElem_cons_succ, List.getElem_cons_zero, List.setIfInBounds_toArray, List.set_cons_zero, List.set_cons_succ]
        refine wpAnyH_take (i := 5) (v := .agg (cb tr).toArray) rfl (by kernel_rfl) (by kernel_rfl) (by kernel_rfl) (fun _ _ _ h => h) (Or.inl ⟨by rfl, fun wx hx => by exact loadDigAt _ bt0 (ot + k * 32) tr HTL.out (HTR.out _ (HI.out.next hx).bel) rfl rfl⟩) hS ?_
        simp only [Act.put, List.getElem_toArray, List.getElem_cons_succ, List.getElem_cons_zero, List.setIfInBounds_toArray, List.set_cons_zero, List.set_cons_succ]
        refine wpAnyH_pair 6 10 (by kernel_rfl) ?_ ?_
        · refine wpOp_en 6 (by rfl) (by rfl) (f := 9) (args := #[.agg (cb seed).toArray, .agg (hdC h).toArray, .agg (cb tr).toArray]) (by simp [go_sem]) (HC1.out _ (HI.out.next hS)) ?_
          rintro e z1 ⟨ad, nz, cc, rfl, hrd, hfr, hb⟩
          replace hS := Over.more hS hb
          have hfy : ∀ k, (Value.slice ad nz cc).ownBlock = some k → y0.heap.size ≤ k := hfr
          refine ⟨_, rfl, hS, ?_⟩
          clear hb
          simp only [Act.put, List.getElem_toArray, List.getElem_cons_succ, List.getElem_cons_zero, List.setIfInBounds_toArray, List.set_cons_zero, List.set_cons_succ]
          refine wpAnyH_take (i := 7) (v := .tuple #[.agg (sgC s (.slice ad nz cc)).toArray, .int .i64 0]) rfl (by kernel_rfl) (by kernel_rfl) (by kernel_rfl) (fun _ _ _ h => h) (Or.inl ⟨by rfl, fun wx hx => by simp [go_sem]⟩) hS ?_
          simp only [Act.put, List.getElem_toArray, List.getElem_cons_succ, List.getElem_cons_zero, List.setIfInBounds_toArray, List.set_cons_zero, List.set_cons_succ]
          refine wpAnyH_take (i := 8) (v := .agg (sgC s (.slice ad nz cc)).toArray) rfl (by kernel_rfl) (by kernel_rfl) (by kernel_rfl) (fun _ _ _ h => h) (Or.inl ⟨by rfl, fun wx hx => by simp [go_sem]⟩) hS ?_
          simp only [Act.put, List.getElem_toArray, List.getElem_cons_succ, List.getElem_cons_zero, List.setIfInBounds_toArray, List.set_cons_zero, List.set_cons_succ]
          refine wpAnyH_take (i := 9) (v := .int .i64 0) rfl (by kernel_rfl) (by kernel_rfl) (by kernel_rfl) (fun _ _ _ h => h) (Or.inl ⟨by rfl, fun wx hx => by simp [go_sem]⟩) hS ?_
          simp only [Act.put, List.getElem_toArray, List.getElem_cons_succ, List.getElem_cons_zero, List.setIfInBounds_toArray, List.set_cons_zero, List.set_cons_succ]
          have hb := below_alloc z1 (.cells (sgC zeroS (.slice none 0 0)).toArray 31)
          have hba : Blk (z1.alloc (.cells (sgC zeroS (.slice none 0 0)).toArray 31)) z1.heap.size (sgC zeroS (.slice none 0 0)) 31 := Blk.new _ _ _
          have hsz : y0.heap.size ≤ z1.heap.size := Below.size hS
          replace hS := Over.more hS hb
          refine wpAnyH_step 10 (.pointer (some ⟨z1.heap.size, 0, none⟩)) (z1.alloc (.cells (sgC zeroS (.slice none 0 0)).toArray 31)) (by kernel_rfl) rfl (by rfl) (alloc_sg _ _ rfl _) hS ?_
          simp only [Act.put, List.getElem_toArray, List.getElem_cons_succ, List.getElem_cons_zero, List.setIfInBounds_toArray, List.set_cons_zero, List.set_cons_succ]
          generalize z1.alloc (.cells (sgC zeroS (.slice none 0 0)).toArray 31) = z2 at *
          obtain ⟨ga, HGA⟩ : ∃ z, Hid (z = z1.heap.size) := ⟨_, rfl⟩
          have hgw : y0.heap.size ≤ ga := by rw [HGA.out]; exact hsz
          have hgz : z1.heap.size ≤ ga := by rw [HGA.out]; exact Nat.le_refl _
          rw [← HGA.out] at hba ⊢
          clear HGA hsz
          refine wpAnyH_storeRow 11 31 (.tmp 8) (.tmp 35) ga (sgC zeroS (.slice none 0 0)) (sgC s (.slice ad nz cc)) hba (by rw [len_sgC HQ.out.os, len_sgC okS_zero]) (info_sgC HQ.out.os _) (sgC_one _ _ _ _) (by kernel_rfl) rfl (by rfl) rfl rfl rfl ?_
          intro yE hs
          have hrdE : Reads yE (.slice ad nz cc) s.2 := hrd.below (hb.trans (hs.only.below hgz hb.size))
          replace hS : Over y0 yE := Below.trans hS (hs.only.below hgw (Below.size hS))
          refine ⟨hS, ?_⟩
          simp only [Act.put, List.getElem_toArray, List.getElem_cons_succ, List.getElem_cons_zero]
          refine wpAnyH_take (i := 12) (v := .int .i64 0) rfl (by kernel_rfl) (by kernel_rfl) (by kernel_rfl) (fun _ _ _ h => h) (Or.inl ⟨by rfl, fun wx hx => by simp [go_sem]⟩) hS ?_
          simp only [Act.put, List.getElem_toArray, List.getElem_cons_succ, List.getElem_cons_zero, List.setIfInBounds_toArray, List.set_cons_zero, List.set_cons_succ]
          refine wpAnyH_done (by kernel_rfl) ?_ _
          go_wp2
          go_meet
          case rel => exact ⟨ga, ad, nz, cc, rfl, rfl, HI.out.next hS, hs.blk, hrdE, fun k hk => ⟨by have h1 := hfy k hk; have h2 := HI.out.hd.lt; omega, fun e => by have h1 := hfy k hk; have h2 := (HI.out.own.lt k e).2; omega⟩⟩
        · have hb := below_alloc y0 (.cells (sgC zeroS (.slice none 0 0)).toArray 31)
          have hba : Blk (y0.alloc (.cells (sgC zeroS (.slice none 0 0)).toArray 31)) y0.heap.size (sgC zeroS (.slice none 0 0)) 31 := Blk.new _ _ _
          replace hS := Over.more hS hb
          refine wpOp_vl 10 (.pointer (some ⟨y0.heap.size, 0, none⟩)) (y0.alloc (.cells (sgC zeroS (.slice none 0 0)).toArray 31)) (by rfl) (by rfl) (alloc_sg _ _ rfl _) ⟨hS, ?_⟩
          simp only [Act.put, List.getElem_toArray, List.getElem_cons_succ, List.getElem_cons_zero, List.setIfInBounds_toArray, List.set_cons_zero, List.set_cons_succ]
          clear hb
          generalize y0.alloc (.cells (sgC zeroS (.slice none 0 0)).toArray 31) = z1 at *
          obtain ⟨ga, HGA⟩ : ∃ z, Hid (z = y0.heap.size) := ⟨_, rfl⟩
          have hgw : y0.heap.size ≤ ga := by rw [HGA.out]; exact Nat.le_refl _
          rw [← HGA.out] at hba ⊢
          clear HGA
          have hgl : ga < z1.heap.size := hba.lt
          have hsz1 : y0.heap.size ≤ z1.heap.size := Below.size hS
          refine wpAnyH_enter 6 (by kernel_rfl) rfl (by rfl) (f := 9) (args := #[.agg (cb seed).toArray, .agg (hdC h).toArray, .agg (cb tr).toArray]) (by simp [go_sem]) (HC1.out _ (HI.out.next hS)) ?_
          rintro e z2 ⟨ad, nz, cc, rfl, hrd, hfr, hb⟩
          replace hS := Over.more hS hb
          have hfy : ∀ k, (Value.slice ad nz cc).ownBlock = some k → y0.heap.size ≤ k := fun k hk => Nat.le_trans hsz1 (hfr k hk)
          replace hba := hba.below hb hba.lt
          refine ⟨_, rfl, hS, ?_⟩
          clear hb
          simp only [Act.put, List.getElem_toArray, List.getElem_cons_succ, List.getElem_cons_zero, List.setIfInBounds_toArray, List.set_cons_zero, List.set_cons_succ]
          refine wpAnyH_take (i := 7) (v := .tuple #[.agg (sgC s (.slice ad nz cc)).toArray, .int .i64 0]) rfl (by kernel_rfl) (by kernel_rfl) (by kernel_rfl) (fun _ _ _ h => h) (Or.inl ⟨by rfl, fun wx hx => by simp [go_sem]⟩) hS ?_
          simp only [Act.put, List.getElem_toArray, List.getElem_cons_succ, List.getElem_cons_zero, List.setIfInBounds_toArray, List.set_cons_zero, List.set_cons_succ]
          refine wpAnyH_take (i := 8) (v := .agg (sgC s (.slice ad nz cc)).toArray) rfl (by kernel_rfl) (by kernel_rfl) (by kernel_rfl) (fun _ _ _ h => h) (Or.inl ⟨by rfl, fun wx hx => by simp [go_sem]⟩) hS ?_
          simp only [Act.put, List.getElem_toArray, List.getElem_cons_succ, List.getElem_cons_zero, List.setIfInBounds_toArray, List.set_cons_zero, List.set_cons_succ]
          refine wpAnyH_take (i := 9) (v := .int .i64 0) rfl (by kernel_rfl) (by kernel_rfl) (by kernel_rfl) (fun _ _ _ h => h) (Or.inl ⟨by rfl, fun wx hx => by simp [go_sem]⟩) hS ?_
          simp only [Act.put, List.getElem_toArray, List.getElem_cons_succ, List.getElem_cons_zero, List.setIfInBounds_toArray, List.set_cons_zero, List.set_cons_succ]
          refine wpAnyH_storeRow 11 31 (.tmp 8) (.tmp 35) ga (sgC zeroS (.slice none 0 0)) (sgC s (.slice ad nz cc)) hba (by rw [len_sgC HQ.out.os, len_sgC okS_zero]) (info_sgC HQ.out.os _) (sgC_one _ _ _ _) (by kernel_rfl) rfl (by rfl) rfl rfl rfl ?_
          intro yE hs
          have hrdE : Reads yE (.slice ad nz cc) s.2 := hrd.apartB hs.only (fun k hk => by have h1 := hfr k hk; omega)
          replace hS : Over y0 yE := Below.trans hS (hs.only.below hgw (Below.size hS))
          refine ⟨hS, ?_⟩
          simp only [Act.put, List.getElem_toArray, List.getElem_cons_succ, List.getElem_cons_zero]
          refine wpAnyH_take (i := 12) (v := .int .i64 0) rfl (by kernel_rfl) (by kernel_rfl) (by kernel_rfl) (fun _ _ _ h => h) (Or.inl ⟨by rfl, fun wx hx => by simp [go_sem]⟩) hS ?_
          simp only [Act.put, List.getElem_toArray, List.getElem_cons_succ, List.getElem_cons_zero, List.setIfInBounds_toArray, List.set_cons_zero, List.set_cons_succ]
          refine wpAnyH_done (by kernel_rfl) ?_ _
          go_wp2
          go_meet
          case rel => exact ⟨ga, ad, nz, cc, rfl, rfl, HI.out.next hS, hs.blk, hrdE, fun k hk => ⟨by have h1 := hfy k hk; have h2 := HI.out.hd.lt; omega, fun e => by have h1 := hfy k hk; have h2 := (HI.out.own.lt k e).2; omega⟩⟩
      case rest =>
        obtain ⟨g8, ad, nz, cc, rfl, rfl, hI, h8, hr8, hap⟩ := hcut
        clear HI
        have HI : Hid (HoI w g2 g5 base seed h u6 L wc) := hI
        have HI8 : Hid (Blk wc g8 (sgC s (.slice ad nz cc)) 31) := h8
        have HR8 : Hid (Reads wc (.slice ad nz cc) s.2) := hr8
        have HAP : Hid (∀ k, (Value.slice ad nz cc).ownBlock = some k → g5 < k ∧ u6.ownBlock ≠ some k) := hap
        clear hI h8 hr8 hap
        go_wp2
        refine wp_region_held_drew (S := Over (World.drew wc)) (by kernel_rfl) (Over.refl _) ?_
        intro hS
        replace HI : Hid (HoI w g2 g5 base seed h u6 L (World.drew wc)) := HI.out.drew
        replace HI8 : Hid (Blk (World.drew wc) g8 (sgC s (.slice ad nz cc)) 31) := HI8.out.drew
        replace HR8 : Hid (Reads (World.drew wc) (.slice ad nz cc) s.2) := reads_drew HR8.out
        change wpAnyH _ _ _ _ _ _ _ _ (World.drew wc)
        generalize World.drew wc = y0 at *
        try simp only [Act.put]
        refine wpAnyH_take (i := 0) (v := .int .i64 0) rfl (by kernel_rfl) (by kernel_rfl) (by kernel_rfl) (fun _ _ _ h => h) (Or.inl ⟨by rfl, fun wx hx => by simp [go_sem]⟩) hS ?_
        simp only [Act.put, List.getElem_toArray, List.getElem_cons_zero, List.setIfInBounds_toArray, List.set_cons_zero, List.set_cons_succ]
        refine wpAnyH_take (i := 1) (v := .bool false) rfl (by kernel_rfl) (by kernel_rfl) (by kernel_rfl) (fun _ _ _ h => h) (Or.inl ⟨by rfl, fun wx hx => by simp [go_sem]⟩) hS ?_
        simp only [Act.put, List.getElem_toArray, List.getElem_cons_succ, List.getElem_cons_zero, List.setIfInBounds_toArray, List.set_cons_zero, List.set_cons_succ]
        refine wpAnyH_take (i := 2) (v := .bool false) rfl (by kernel_rfl) (by kernel_rfl) (by kernel_rfl) (fun _ _ _ h => h) (Or.inl ⟨by rfl, fun wx hx => by simp [go_sem]⟩) hS ?_
        simp only [Act.put, List.getElem_toArray, List.getElem_cons_succ, List.getElem_cons_zero, List.setIfInBounds_toArray, List.set_cons_zero, List.set_cons_succ]
        refine wpAnyH_take (i := 3) (v := .pointer (some ⟨g8, 0, none⟩)) rfl (by kernel_rfl) (by kernel_rfl) (by kernel_rfl) (fun _ _ _ h => h) (Or.inl ⟨by rfl, fun wx hx => by simp [go_sem]⟩) hS ?_
        simp only [Act.put, List.getElem_toArray, List.getElem_cons_succ, List.getElem_cons_zero, List.setIfInBounds_toArray, List.set_cons_zero, List.set_cons_succ]
        refine wpAnyH_take (i := 4) (v := .pointer (some ⟨g8, 33, none⟩)) rfl (by kernel_rfl) (by kernel_rfl) (by kernel_rfl) (fun _ _ _ h => h) (Or.inl ⟨by rfl, fun wx hx => by simp [go_sem]⟩) hS ?_
        simp only [Act.put, List.getElem_toArray, List.getElem_cons_succ, List.getElem_cons_zero, List.setIfInBounds_toArray, List.set_cons_zero, List.set_cons_succ]
        refine wpAnyH_take (i := 5) (v := .agg (cb tr).toArray) rfl (by kernel_rfl) (by kernel_rfl) (by kernel_rfl) (fun _ _ _ h => h) (Or.inl ⟨by rfl, fun wx hx => by exact loadDigAt _ g8 33 tr HTL.out (by have h1 := ((HI8.out.below hx HI8.out.lt).sgAt HQ.out.os).tree; rw [HQ.out.tq] at h1; exact h1) rfl rfl⟩) hS ?_
        simp only [Act.put, List.getElem_toArray, List.getElem_cons_succ, List.getElem_cons_zero, List.setIfInBounds_toArray, List.set_cons_zero, List.set_cons_succ]
        refine wpAnyH_take (i := 6) (v := .slice (some ⟨bt0, ot, none⟩) n ct) rfl (by kernel_rfl) (by kernel_rfl) (by kernel_rfl) (fun _ _ _ h => h) (Or.inl ⟨by rfl, fun wx hx => by simp [go_sem]⟩) hS ?_
        simp only [Act.put, List.getElem_toArray, List.getElem_cons_succ, List.getElem_cons_zero, List.setIfInBounds_toArray, List.set_cons_zero, List.set_cons_succ]
        refine wpAnyH_take (i := 7) (v := .int .i64 (k : Int)) rfl (by kernel_rfl) (by kernel_rfl) (by kernel_rfl) (fun _ _ _ h => h) (Or.inl ⟨by rfl, fun wx hx => by simp [go_sem]⟩) hS ?_
        simp only [Act.put, List.getElem_toArray, List.getElem_cons_succ, List.getElem_cons_zero, List.setIfInBounds_toArray, List.set_cons_zero, List.set_cons_succ]
        refine wpAnyH_take (i := 8) (v := .pointer (some ⟨bt0, ot + k * 32, none⟩)) rfl (by kernel_rfl) (by kernel_rfl) (by kernel_rfl) (fun _ _ _ h => h) (Or.inl ⟨by rfl, fun wx hx => by exact idx32 bt0 ot ct n k hlt _ _ _ _ rfl rfl rfl _⟩) hS ?_
        simp only [Act.put, List.getElem_toArray, List.getElem_cons_succ, List.getElem_cons_zero, List.setIfInBounds_toArray, List.set_cons_zero, List.set_cons_succ]
        refine wpAnyH_take (i := 9) (v := .agg (cb tr).toArray) rfl (by kernel_rfl) (by kernel_rfl) (by kernel_rfl) (fun _ _ _ h => h) (Or.inl ⟨by rfl, fun wx hx => by exact loadDigAt _ bt0 (ot + k * 32) tr HTL.out (HTR.out _ (HI.out.next hx).bel) rfl rfl⟩) hS ?_
        simp only [Act.put, List.getElem_toArray, List.getElem_cons_succ, List.getElem_cons_zero, List.setIfInBounds_toArray, List.set_cons_zero, List.set_cons_succ]
        refine wpAnyH_take (i := 10) (v := .bool false) rfl (by kernel_rfl) (by kernel_rfl) (by kernel_rfl) (fun _ _ _ h => h) (Or.inl ⟨by rfl, fun wx hx => by simp [go_sem, heqt]⟩) hS ?_
        simp only [Act.put, List.getElem_toArray, List.getElem_cons_succ, List.getElem_cons_zero, List.setIfInBounds_toArray, List.set_cons_zero, List.set_cons_succ]
        refine wpAnyH_take (i := 11) (v := .bool false) rfl (by kernel_rfl) (by kernel_rfl) (by kernel_rfl) (fun _ _ _ h => h) (Or.inl ⟨by rfl, fun wx hx => by simp [go_sem]⟩) hS ?_
        simp only [Act.put, List.getElem_toArray, List.getElem_cons_succ, List.getElem_cons_zero, List.setIfInBounds_toArray, List.set_cons_zero, List.set_cons_succ]
        refine wpAnyH_take (i := 12) (v := .bool false) rfl (by kernel_rfl) (by kernel_rfl) (by kernel_rfl) (fun _ _ _ h => h) (Or.inl ⟨by rfl, fun wx hx => by simp [go_sem]⟩) hS ?_
        simp only [Act.put, List.getElem_toArray, List.getElem_cons_succ, List.getElem_cons_zero, List.setIfInBounds_toArray, List.set_cons_zero, List.set_cons_succ]
        refine wpAnyH_take (i := 13) (v := .pointer (some ⟨g8, 0, none⟩)) rfl (by kernel_rfl) (by kernel_rfl) (by kernel_rfl) (fun _ _ _ h => h) (Or.inl ⟨by rfl, fun wx hx => by simp [go_sem]⟩) hS ?_
        simp only [Act.put, List.getElem_toArray, List.getElem_cons_succ, List.getElem_cons_zero, List.setIfInBounds_toArray, List.set_cons_zero, List.set_cons_succ]
        refine wpAnyH_take (i := 14) (v := .pointer (some ⟨g8, 0, none⟩)) rfl (by kernel_rfl) (by kernel_rfl) (by kernel_rfl) (fun _ _ _ h => h) (Or.inl ⟨by rfl, fun wx hx => by simp [go_sem]⟩) hS ?_
        simp only [Act.put, List.getElem_toArray, List.getElem_cons_succ, List.getElem_cons_zero, List.setIfInBounds_toArray, List.set_cons_zero, List.set_cons_succ]
        refine wpAnyH_take (i := 15) (v := .int .u64 ((k : Int) + 1)) rfl (by kernel_rfl) (by kernel_rfl) (by kernel_rfl) (fun _ _ _ h => h) (Or.inl ⟨by rfl, fun wx hx => by (have cm : wx.cell? ⟨g8, 0, none⟩ = some (.int .u64 ((k : Int) + 1)) := by have h1 := ((HI8.out.below hx HI8.out.lt).sgAt HQ.out.os).ep; rw [HQ.out.ep] at h1; simpa using h1); simp [go_sem, cm]⟩) hS ?_
        simp only [Act.put, List.getElem_toArray, List.getElem_cons_succ, List.getElem_cons_zero, List.setIfInBounds_toArray, List.set_cons_zero, List.set_cons_succ]
        refine wpAnyH_take (i := 16) (v := .int .i64 (k : Int)) rfl (by kernel_rfl) (by kernel_rfl) (by kernel_rfl) (fun _ _ _ h => h) (Or.inl ⟨by rfl, fun wx hx => by simp [go_sem]⟩) hS ?_
        simp only [Act.put, List.getElem_toArray, List.getElem_cons_succ, List.getElem_cons_zero, List.setIfInBounds_toArray, List.set_cons_zero, List.set_cons_succ]
        refine wpAnyH_take (i := 17) (v := .int .i64 ((k : Int) + 1)) rfl (by kernel_rfl) (by kernel_rfl) (by kernel_rfl) (fun _ _ _ h => h) (Or.inl ⟨by rfl, fun wx hx => by simp [go_sem, f5]⟩) hS ?_
        simp only [Act.put, List.getElem_toArray, List.getElem_cons_succ, List.getElem_cons_zero, List.setIfInBounds_toArray, List.set_cons_zero, List.set_cons_succ]
        refine wpAnyH_take (i := 18) (v := .int .u64 ((k : Int) + 1)) rfl (by kernel_rfl) (by kernel_rfl) (by kernel_rfl) (fun _ _ _ h => h) (Or.inl ⟨by rfl, fun wx hx => by simp [go_sem, f6]⟩) hS ?_
        simp only [Act.put, List.getElem_toArray, List.getElem_cons_succ, List.getElem_cons_zero, List.setIfInBounds_toArray, List.set_cons_zero, List.set_cons_succ]
        refine wpAnyH_take (i := 19) (v := .bool false) rfl (by kernel_rfl) (by kernel_rfl) (by kernel_rfl) (fun _ _ _ h => h) (Or.inl ⟨by rfl, fun wx hx => by simp [go_sem]⟩) hS ?_
        simp only [Act.put, List.getElem_toArray, List.getElem_cons_succ, List.getElem_cons_zero, List.setIfInBounds_toArray, List.set_cons_zero, List.set_cons_succ]
        refine wpAnyH_take (i := 20) (v := .bool false) rfl (by kernel_rfl) (by kernel_rfl) (by kernel_rfl) (fun _ _ _ h => h) (Or.inl ⟨by rfl, fun wx hx => by simp [go_sem]⟩) hS ?_
        simp only [Act.put, List.getElem_toArray, List.getElem_cons_succ, List.getElem_cons_zero, List.setIfInBounds_toArray, List.set_cons_zero, List.set_cons_succ]
        refine wpAnyH_done (by kernel_rfl) ?_ _
        replace HI8 : Hid (Blk y0 g8 (sgC s (.slice ad nz cc)) 31) := HI8.out
        clear hS
        have tk60 : Hid True := trivial
        have tk61 : Hid True := trivial
        have tk62 : Hid True := trivial
        have tk63 : Hid True := trivial
        have tk64 : Hid True := trivial
        go_upto_region 12 with (first
          | (clear tk60; with_reducible refine wpSeq_loadW 26 (.tmp 5) g5 0 (hdC h) _ ?_ Tryd.underlying26 rfl ?_ ?_ ?_ ?_ ?_
             · exact HI.out.hd.range
             · exact info_hdC HP.out.ok
             · rfl
             · rfl
             · rfl)
          | (clear tk61; with_reducible refine wpSeq_loadW 31 (.tmp 8) g8 0 (sgC s (.slice ad nz cc)) _ ?_ Tryd.underlying31 rfl ?_ ?_ ?_ ?_ ?_
             · exact HI8.out.range
             · exact info_sgC HQ.out.os _
             · rfl
             · rfl
             · rfl)
          | (clear tk62; go_at_call 14; refine (HC2.out y0 HI.out HR8.out).mono ?_; rintro e y61 ⟨rfl, hbz⟩
             replace HI8 : Hid (Blk y61 g8 (sgC s (.slice ad nz cc)) 31) := HI8.out.below hbz HI8.out.lt
             replace HR8 : Hid (Reads y61 (.slice ad nz cc) s.2) := HR8.out.below hbz
             replace HI : Hid (HoI w g2 g5 base seed h u6 L y61) := HI.out.next hbz
             clear hbz )
          | (clear tk63; with_reducible refine wpSeq_allocH ?_ ?_ ?_
             · rfl
             · rfl
             intro g10 y62 nn)
          | (clear tk64; with_reducible refine wpSeq_storeRow 26 (.tmp 10) (.tmp 62) g10 (hdC zeroH) (hdC hf) ?_ ?_ ?_ ?_ ?_ ?_ ?_ ?_ ?_
             · exact nn.blk
             · first | (with_reducible rfl) | rw [len_hdC HQ.out.oh, len_hdC okH_zero]
             · exact info_hdC HQ.out.oh
             · exact hdC_one _
             · rfl
             · rfl
             · rfl
             · rfl
             intro y63 hs
             have hbz := nn.below.trans (hs.only.below nn.ge nn.below.size)
             replace HI8 : Hid (Blk y63 g8 (sgC s (.slice ad nz cc)) 31) := HI8.out.below hbz HI8.out.lt
             replace HR8 : Hid (Reads y63 (.slice ad nz cc) s.2) := HR8.out.below hbz
             replace HI : Hid (HoI w g2 g5 base seed h u6 L y63) := HI.out.next hbz
             have HI10 : Hid (Blk y63 g10 (hdC hf) 26) := hs.blk
             clear nn hs hbz))
        refine wp_region_held_drew (S := Over (World.drew y63)) (by kernel_rfl) (Over.refl _) ?_
        intro hS
        replace HI : Hid (HoI w g2 g5 base seed h u6 L (World.drew y63)) := HI.out.drew
        replace HI8 : Hid (Blk (World.drew y63) g8 (sgC s (.slice ad nz cc)) 31) := HI8.out.drew
        replace HI10 : Hid (Blk (World.drew y63) g10 (hdC hf) 26) := HI10.out.drew
        replace HR8 : Hid (Reads (World.drew y63) (.slice ad nz cc) s.2) := reads_drew HR8.out
        change wpAnyH _ _ _ _ _ _ _ _ (World.drew y63)
        generalize World.drew y63 = y0 at *
        try simp only [Act.put]
        refine wpAnyH_take (i := 0) (v := .int .i64 0) rfl (by kernel_rfl) (by kernel_rfl) (by kernel_rfl) (fun _ _ _ h => h) (Or.inl ⟨by rfl, fun wx hx => by simp [go_sem]⟩) hS ?_
        simp only [Act.put, List.getElem_toArray, List.getElem_cons_zero, List.setIfInBounds_toArray, List.set_cons_zero, List.set_cons_succ]
        refine wpAnyH_take (i := 1) (v := .bool false) rfl (by kernel_rfl) (by kernel_rfl) (by kernel_rfl) (fun _ _ _ h => h) (Or.inl ⟨by rfl, fun wx hx => by simp [go_sem]⟩) hS ?_
        simp only [Act.put, List.getElem_toArray, List.getElem_cons_succ, List.getElem_cons_zero, List.setIfInBounds_toArray, List.set_cons_zero, List.set_cons_succ]
        refine wpAnyH_take (i := 2) (v := .bool false) rfl (by kernel_rfl) (by kernel_rfl) (by kernel_rfl) (fun _ _ _ h => h) (Or.inl ⟨by rfl, fun wx hx => by simp [go_sem]⟩) hS ?_
        simp only [Act.put, List.getElem_toArray, List.getElem_cons_succ, List.getElem_cons_zero, List.setIfInBounds_toArray, List.set_cons_zero, List.set_cons_succ]
        refine wpAnyH_take (i := 3) (v := .pointer (some ⟨g10, 1, none⟩)) rfl (by kernel_rfl) (by kernel_rfl) (by kernel_rfl) (fun _ _ _ h => h) (Or.inl ⟨by rfl, fun wx hx => by simp [go_sem]⟩) hS ?_
        simp only [Act.put, List.getElem_toArray, List.getElem_cons_succ, List.getElem_cons_zero, List.setIfInBounds_toArray, List.set_cons_zero, List.set_cons_succ]
        refine wpAnyH_take (i := 4) (v := .agg (cb dg).toArray) rfl (by kernel_rfl) (by kernel_rfl) (by kernel_rfl) (fun _ _ _ h => h) (Or.inl ⟨by rfl, fun wx hx => by exact loadDigAt _ g10 1 dg HDL.out (by have h1 := ((HI10.out.below hx HI10.out.lt).hdAt HQ.out.oh).rt; rw [HRTF.out] at h1; exact h1) rfl rfl⟩) hS ?_
        simp only [Act.put, List.getElem_toArray, List.getElem_cons_succ, List.getElem_cons_zero, List.setIfInBounds_toArray, List.set_cons_zero, List.set_cons_succ]
        refine wpAnyH_take (i := 5) (v := .pointer (some ⟨g8, 0, none⟩)) rfl (by kernel_rfl) (by kernel_rfl) (by kernel_rfl) (fun _ _ _ h => h) (Or.inl ⟨by rfl, fun wx hx => by simp [go_sem]⟩) hS ?_
        simp only [Act.put, List.getElem_toArray, List.getElem_cons_succ, List.getElem_cons_zero, List.setIfInBounds_toArray, List.set_cons_zero, List.set_cons_succ]
        refine wpAnyH_take (i := 6) (v := .agg rt.toArray) rfl (by kernel_rfl) (by kernel_rfl) (by kernel_rfl) (fun _ _ _ h => h) (Or.inl ⟨by rfl, fun wx hx => by rw [HRT.out]; exact loadRtAt _ g8 0 s HQ.out.os ((HI8.out.below hx HI8.out.lt).sgAt HQ.out.os).root rfl rfl⟩) hS ?_
        simp only [Act.put, List.getElem_toArray, List.getElem_cons_succ, List.getElem_cons_zero, List.setIfInBounds_toArray, List.set_cons_zero, List.set_cons_succ]
        refine wpAnyH_enter 7 (by kernel_rfl) rfl (by rfl) (f := 20) (args := #[.agg rt.toArray]) (by simp [go_sem]) (HC3.out _) ?_
        rintro e z9 ⟨rfl, hbq⟩
        replace hS := Over.more hS hbq
        refine ⟨_, rfl, hS, ?_⟩
        clear hbq
        simp only [Act.put, List.getElem_toArray, List.getElem_cons_succ, List.getElem_cons_zero, List.setIfInBounds_toArray, List.set_cons_zero, List.set_cons_succ]
        refine wpAnyH_take (i := 8) (v := .bool false) rfl (by kernel_rfl) (by kernel_rfl) (by kernel_rfl) (fun _ _ _ h => h) (Or.inl ⟨by rfl, fun wx hx => by simp [go_sem, heqd]⟩) hS ?_
        simp only [Act.put, List.getElem_toArray, List.getElem_cons_succ, List.getElem_cons_zero, List.setIfInBounds_toArray, List.set_cons_zero, List.set_cons_succ]
        refine wpAnyH_take (i := 9) (v := .bool false) rfl (by kernel_rfl) (by kernel_rfl) (by kernel_rfl) (fun _ _ _ h => h) (Or.inl ⟨by rfl, fun wx hx => by simp [go_sem]⟩) hS ?_
        simp only [Act.put, List.getElem_toArray, List.getElem_cons_succ, List.getElem_cons_zero, List.setIfInBounds_toArray, List.set_cons_zero, List.set_cons_succ]
        refine wpAnyH_take (i := 10) (v := .bool false) rfl (by kernel_rfl) (by kernel_rfl) (by kernel_rfl) (fun _ _ _ h => h) (Or.inl ⟨by rfl, fun wx hx => by simp [go_sem]⟩) hS ?_
        simp only [Act.put, List.getElem_toArray, List.getElem_cons_succ, List.getElem_cons_zero, List.setIfInBounds_toArray, List.set_cons_zero, List.set_cons_succ]
        refine wpAnyH_take (i := 11) (v := .pointer (some ⟨g10, 0, none⟩)) rfl (by kernel_rfl) (by kernel_rfl) (by kernel_rfl) (fun _ _ _ h => h) (Or.inl ⟨by rfl, fun wx hx => by simp [go_sem]⟩) hS ?_
        simp only [Act.put, List.getElem_toArray, List.getElem_cons_succ, List.getElem_cons_zero, List.setIfInBounds_toArray, List.set_cons_zero, List.set_cons_succ]
        refine wpAnyH_take (i := 12) (v := .int .u64 ((k : Int) + 1)) rfl (by kernel_rfl) (by kernel_rfl) (by kernel_rfl) (fun _ _ _ h => h) (Or.inl ⟨by rfl, fun wx hx => by (have cm : wx.cell? ⟨g10, 0, none⟩ = some (.int .u64 ((k : Int) + 1)) := by have h1 := ((HI10.out.below hx HI10.out.lt).hdAt HQ.out.oh).ep; rw [HEPF.out] at h1; simpa using h1); simp [go_sem, cm]⟩) hS ?_
        simp only [Act.put, List.getElem_toArray, List.getElem_cons_succ, List.getElem_cons_zero, List.setIfInBounds_toArray, List.set_cons_zero, List.set_cons_succ]
        refine wpAnyH_take (i := 13) (v := .int .i64 (k : Int)) rfl (by kernel_rfl) (by kernel_rfl) (by kernel_rfl) (fun _ _ _ h => h) (Or.inl ⟨by rfl, fun wx hx => by simp [go_sem]⟩) hS ?_
        simp only [Act.put, List.getElem_toArray, List.getElem_cons_succ, List.getElem_cons_zero, List.setIfInBounds_toArray, List.set_cons_zero, List.set_cons_succ]
        refine wpAnyH_take (i := 14) (v := .int .i64 ((k : Int) + 1)) rfl (by kernel_rfl) (by kernel_rfl) (by kernel_rfl) (fun _ _ _ h => h) (Or.inl ⟨by rfl, fun wx hx => by simp [go_sem, f5]⟩) hS ?_
        simp only [Act.put, List.getElem_toArray, List.getElem_cons_succ, List.getElem_cons_zero, List.setIfInBounds_toArray, List.set_cons_zero, List.set_cons_succ]
        refine wpAnyH_take (i := 15) (v := .int .u64 ((k : Int) + 1)) rfl (by kernel_rfl) (by kernel_rfl) (by kernel_rfl) (fun _ _ _ h => h) (Or.inl ⟨by rfl, fun wx hx => by simp [go_sem, f6]⟩) hS ?_
        simp only [Act.put, List.getElem_toArray, List.getElem_cons_succ, List.getElem_cons_zero, List.setIfInBounds_toArray, List.set_cons_zero, List.set_cons_succ]
        refine wpAnyH_take (i := 16) (v := .bool false) rfl (by kernel_rfl) (by kernel_rfl) (by kernel_rfl) (fun _ _ _ h => h) (Or.inl ⟨by rfl, fun wx hx => by simp [go_sem]⟩) hS ?_
        simp only [Act.put, List.getElem_toArray, List.getElem_cons_succ, List.getElem_cons_zero, List.setIfInBounds_toArray, List.set_cons_zero, List.set_cons_succ]
        refine wpAnyH_take (i := 17) (v := .bool false) rfl (by kernel_rfl) (by kernel_rfl) (by kernel_rfl) (fun _ _ _ h => h) (Or.inl ⟨by rfl, fun wx hx => by simp [go_sem]⟩) hS ?_
        simp only [Act.put, List.getElem_toArray, List.getElem_cons_succ, List.getElem_cons_zero, List.setIfInBounds_toArray, List.set_cons_zero, List.set_cons_succ]
        refine wpAnyH_done (by kernel_rfl) ?_ _
        replace HI : Hid (HoI w g2 g5 base seed h u6 L z9) := HI.out.next hS
        replace HI8 : Hid (Blk z9 g8 (sgC s (.slice ad nz cc)) 31) := HI8.out.below hS HI8.out.lt
        replace HI10 : Hid (Blk z9 g10 (hdC hf) 26) := HI10.out.below hS HI10.out.lt
        replace HR8 : Hid (Reads z9 (.slice ad nz cc) s.2) := HR8.out.below hS
        clear hS
        have tk80 : Hid True := trivial
        have tk81 : Hid True := trivial
        have tk82 : Hid True := trivial
        have tk83 : Hid True := trivial
        have tk84 : Hid True := trivial
        go_wp2_with (first
          | (clear tk80; with_reducible refine wpSeq_loadW 31 (.tmp 8) g8 0 (sgC s (.slice ad nz cc)) _ ?_ Tryd.underlying31 rfl ?_ ?_ ?_ ?_ ?_
             · exact HI8.out.range
             · exact info_sgC HQ.out.os _
             · rfl
             · rfl
             · rfl)
          | (clear tk81; with_reducible refine wpSeq_buildS (.tmp 83) s (.slice ad nz cc) ?_ ?_ ?_ ?_ ?_
             · exact HQ.out.os
             · rfl
             · rfl
             · rfl
             intro gq y91 nn
             replace HI : Hid (HoI w g2 g5 base seed h u6 L y91) := HI.out.next nn.below
             replace HI10 : Hid (Blk y91 g10 (hdC hf) 26) := HI10.out.below nn.below HI10.out.lt
             replace HR8 : Hid (Reads y91 (.slice ad nz cc) s.2) := HR8.out.below nn.below
             have HGQ : Hid (Blk y91 gq (sgC s (.slice ad nz cc)) 31) := nn.blk
             clear nn)
          | (at_builtin; clear tk82; with_reducible refine wpSeq_appendSg (.tmp 82) (.tmp 84) base u6 L s ad nz cc gq HI.out.own HGQ.out HQ.out.os (by rw [HP.out.len]; have := HN5.out; omega) HI.out.bas ?_ ?_ ?_ ?_ ?_
             · rfl
             · rfl
             · rfl
             · rfl
             intro v9 y92 hown hgr
             have HI2 : Hid (HoI w g2 g5 base seed h v9 (L ++ [(s, (.slice ad nz cc))]) y92) := HI.out.more HR8.out HAP.out (by
               intro p hp
               rcases List.mem_append.1 hp with hp | hp
               · obtain ⟨a', n', c', hv'⟩ := (HI.out.rd p hp).form
                 have h1 := HI.out.rd p hp
                 rw [hv'] at h1 ⊢
                 exact h1.lt (HP.out.pos p hp)
               · rw [List.mem_singleton] at hp; subst hp; exact HR8.out.lt HQ.out.pos) hown hgr HNG.out.1 HNG.out.2.1 HNG.out.2.2.2
             replace HI10 : Hid (Blk y92 g10 (hdC hf) 26) := HI10.out.grown5 hgr (HI.out.own.notHead HI10.out)
             clear hown hgr HI HR8 HGQ HI8)
          | (clear tk83; with_reducible refine wpSeq_loadW 26 (.tmp 10) g10 0 (hdC hf) _ ?_ Tryd.underlying26 rfl ?_ ?_ ?_ ?_ ?_
             · exact HI10.out.range
             · exact info_hdC HQ.out.oh
             · rfl
             · rfl
             · rfl)
          | (clear tk84; with_reducible refine wpSeq_storeRow 26 (.tmp 5) (.tmp 86) g5 (hdC h) (hdC hf) ?_ ?_ ?_ ?_ ?_ ?_ ?_ ?_ ?_
             · exact HI2.out.hd
             · rw [len_hdC HQ.out.oh, len_hdC HP.out.ok]
             · exact info_hdC HQ.out.oh
             · exact hdC_one _
             · rfl
             · rfl
             · rfl
             · rfl
             intro y93 hs
             have HI3 : Hid (HoI w g2 g5 base seed hf v9 (L ++ [(s, (.slice ad nz cc))]) y93) := HI2.out.head hs HNG.out.1 HNG.out.2.1 HNG.out.2.2.1
             clear hs HI2 HI10))
        go_roundw
        case rel => exact ⟨k + 1, hf, L ++ [(s, (.slice ad nz cc))], by omega, by simp, HQ.out.next _, HI3.out⟩
        case measure => simp [intOf]; omega
    · have hlk : ¬ ((k : Int) < (n : Int)) := by omega
      have HRS0 := HI.out.own.readsS HI.out.rd
      obtain ⟨al, cl, hvl⟩ := HI.out.own.slice
      rw [HP.out.len] at hvl
      have HRS : Hid (ReadsS wr (.slice al k cl) (L.map (·.1))) := by rw [hvl] at HRS0; exact HRS0
      have HG2 : Hid (Blk wr g2 (cb seed) 23) := HI.out.sd
      have HG5 : Hid (Blk wr g5 (hdC h) 26) := HI.out.hd
      have HBW : Hid (Below w.heap.size w wr) := HI.out.bel
      clear HRS0 HI
      subst hvl
      have HC7 : Hid (∀ W : World, Below w.heap.size w W → ReadsS W (.slice al k cl) (L.map (·.1)) → Calls Tryd.prog 17 #[.agg (hdC (0, zb32, pk)).toArray, .slice al k cl] W fun e w' => e = .returned (.tuple #[.agg (hdC h).toArray, .int .i64 (k : Int), .int .i64 0]) ∧ Below W.heap.size W w') := fun W hh hr => by have h1 := HOP.out.walk W (0, zb32, pk) _ _ (HKK.out.below hh HKK.out.lt) HOK0.out hr (by rw [List.length_map, HP.out.len]; have := HN5.out; omega); have h2 := HP.out.wk; rw [← HPK.out] at h2; rw [h2] at h1; exact h1
      have kq : ((k : Int) == (k : Int)) = true := by simp
      have tk120 : Hid True := trivial
      have tk121 : Hid True := trivial
      have tk122 : Hid True := trivial
      have tk123 : Hid True := trivial
      have tk124 : Hid True := trivial
      have tk125 : Hid True := trivial
      have tk126 : Hid True := trivial
      have tk127 : Hid True := trivial
      have tk128 : Hid True := trivial
      have tk129 : Hid True := trivial
      go_wp2_with (first
        | (clear tk120; with_reducible refine wpSeq_loadW 23 (.tmp 2) g2 0 (cb seed) _ ?_ Tryd.underlying23 rfl ?_ ?_ ?_ ?_ ?_
           · exact HG2.out.range
           · exact HID.out
           · rfl
           · rfl
           · rfl)
        | (clear tk121; go_at_call 13; refine (HC5.out wr HBW.out).mono ?_; rintro e y121 ⟨rfl, hbz⟩
           replace HG2 : Hid (Blk y121 g2 (cb seed) 23) := HG2.out.below hbz HG2.out.lt
           replace HG5 : Hid (Blk y121 g5 (hdC h) 26) := HG5.out.below hbz HG5.out.lt
           replace HRS : Hid (ReadsS y121 (.slice al k cl) (L.map (·.1))) := HRS.out.below hbz
           replace HBW : Hid (Below w.heap.size w y121) := HBW.out.trans (hbz.mono HBW.out.size)
           clear hbz )
        | (clear tk122; go_at_call 19; refine (HC6.out y121).mono ?_; rintro e y122 ⟨rfl, hbz⟩
           replace HG2 : Hid (Blk y122 g2 (cb seed) 23) := HG2.out.below hbz HG2.out.lt
           replace HG5 : Hid (Blk y122 g5 (hdC h) 26) := HG5.out.below hbz HG5.out.lt
           replace HRS : Hid (ReadsS y122 (.slice al k cl) (L.map (·.1))) := HRS.out.below hbz
           replace HBW : Hid (Below w.heap.size w y122) := HBW.out.trans (hbz.mono HBW.out.size)
           clear hbz )
        | (clear tk123; go_at_call 17; refine (HC7.out y122 HBW.out HRS.out).mono ?_; rintro e y123 ⟨rfl, hbz⟩
           replace HG2 : Hid (Blk y123 g2 (cb seed) 23) := HG2.out.below hbz HG2.out.lt
           replace HG5 : Hid (Blk y123 g5 (hdC h) 26) := HG5.out.below hbz HG5.out.lt
           replace HRS : Hid (ReadsS y123 (.slice al k cl) (L.map (·.1))) := HRS.out.below hbz
           replace HBW : Hid (Below w.heap.size w y123) := HBW.out.trans (hbz.mono HBW.out.size)
           clear hbz )
        | (clear tk124; with_reducible refine wpSeq_allocH ?_ ?_ ?_
           · rfl
           · rfl
           intro g11 y124 nn)
        | (clear tk125; with_reducible refine wpSeq_storeRow 26 (.tmp 11) (.tmp 93) g11 (hdC zeroH) (hdC h) ?_ ?_ ?_ ?_ ?_ ?_ ?_ ?_ ?_
           · exact nn.blk
           · first | (with_reducible rfl) | rw [len_hdC HP.out.ok, len_hdC okH_zero]
           · exact info_hdC HP.out.ok
           · exact hdC_one _
           · rfl
           · rfl
           · rfl
           · rfl
           intro y125 hs
           have hbz := nn.below.trans (hs.only.below nn.ge nn.below.size)
           replace HG2 : Hid (Blk y125 g2 (cb seed) 23) := HG2.out.below hbz HG2.out.lt
           replace HG5 : Hid (Blk y125 g5 (hdC h) 26) := HG5.out.below hbz HG5.out.lt
           replace HRS : Hid (ReadsS y125 (.slice al k cl) (L.map (·.1))) := HRS.out.below hbz
           replace HBW : Hid (Below w.heap.size w y125) := HBW.out.trans (hbz.mono HBW.out.size)
           have HG11 : Hid (Blk y125 g11 (hdC h) 26) := hs.blk
           clear nn hs hbz)
        | (clear tk126; with_reducible refine wpSeq_loadW 26 (.tmp 11) g11 0 (hdC h) _ ?_ Tryd.underlying26 rfl ?_ ?_ ?_ ?_ ?_
           · exact HG11.out.range
           · exact info_hdC HP.out.ok
           · rfl
           · rfl
           · rfl)
        | (clear tk127; with_reducible refine wpSeq_loadW 26 (.tmp 5) g5 0 (hdC h) _ ?_ Tryd.underlying26 rfl ?_ ?_ ?_ ?_ ?_
           · exact HG5.out.range
           · exact info_hdC HP.out.ok
           · rfl
           · rfl
           · rfl)
        | (clear tk128; with_reducible refine wpSeq_eqH (.tmp 105) (.tmp 106) h h HP.out.ok HP.out.ok true ?_ ?_ ?_ ?_ ?_ ?_
           · exact (decide_eq_true rfl).symm
           · rfl
           · rfl
           · rfl
           · rfl)
        | (clear tk129; go_at_call 12; refine (HCW.out y125 HBW.out).mono ?_; rintro e y126 ⟨rfl, hbz⟩
           replace HG2 : Hid (Blk y126 g2 (cb seed) 23) := HG2.out.below hbz HG2.out.lt
           replace HG5 : Hid (Blk y126 g5 (hdC h) 26) := HG5.out.below hbz HG5.out.lt
           replace HG11 : Hid (Blk y126 g11 (hdC h) 26) := HG11.out.below hbz HG11.out.lt
           replace HRS : Hid (ReadsS y126 (.slice al k cl) (L.map (·.1))) := HRS.out.below hbz
           replace HBW : Hid (Below w.heap.size w y126) := HBW.out.trans (hbz.mono HBW.out.size)
           clear hbz ))
      go_ret
      first | exact ⟨rfl, HBW.out⟩ | exact ⟨trivial, HBW.out⟩
end Go.Proofs.YtfbdnhadcnmfoaaDoor
/- What the listed variable gives: the rounds' words lie where the walks look for them. -/
namespace Go.Proofs.YtfbdnhadcnmfoaaDoor
open Go.ChangeShapes Go.WideShapes Go.ChangeAt Go.WideMaps Go.WideElems Go.RowKit
set_option maxRecDepth 100000
theorem own : ownKnob Tryd.prog.godebug = none := by kernel_rfl
theorem gKw : Tryd.prog.globalNamed "blazon/sha.roundWords" = some 0 := by kernel_rfl
theorem tKw : (Tryd.prog.globals[0]?).map (·.type) = some 95 := by kernel_rfl
def laidK : List (String × DataW Unit) := [("blazon/sha.roundWords", Rows.laid_blazon_sha_roundWords)]
def kzs : List Int := kw.map fun x => (x.toNat : Int)
theorem laid_tab : (Rows.laid_blazon_sha_roundWords : DataW Unit) = Lib.tabData .u32 kzs := by kernel_rfl
theorem door_met (os : Os) (args : Array Value) : laidMetH Tryd.prog laidK ((World.doorLaid Tryd.prog 400 os).forCall (fun _ _ => 0) ⟨#[], args, []⟩).memory :=
  laidMetH_of_parts3 (fuel := 8) (laidMet_of_run' 8 (by kernel_rfl) (by kernel_rfl)) (by kernel_rfl) (by kernel_rfl)
theorem getD_toNat (l : List (BitVec 32)) (j : Nat) : (l.map fun x => (x.toNat : Int)).getD j 0 = ((l.getD j 0).toNat : Int) := by
  rw [List.getD_eq_getElem?_getD, List.getD_eq_getElem?_getD, List.getElem?_map]
  cases l[j]? <;> rfl
theorem kok_of_laid {W : World} (h : laidMetH Tryd.prog laidK W) : KOk W := by
  rw [MakeChecks.laidMetH_plain _ _ _ (by kernel_rfl)] at h
  unfold laidK at h
  rw [laid_tab] at h
  have hT := Lib.tabIs_of_head gKw tKw Tryd.underlying95 Tryd.underlying85 (by kernel_rfl) (by kernel_rfl) h
  intro j hj
  rw [hT.cell gKw j (by simpa [kzs, kw] using hj), kzs, getD_toNat]
end Go.Proofs.YtfbdnhadcnmfoaaDoor
/- What a slice of bytes that came in gives: the bytes that it reads as; and that it reads so still behind a call that changed no old block. -/
namespace Go.Proofs.YtfbdnhadcnmfoaaDoor
open Go.ChangeShapes Go.WideShapes Go.ChangeAt Go.WideMaps Go.WideElems Go.RowKit
set_option maxRecDepth 100000
theorem cells_byte : Tryd.prog.cellsOf 5 = 1 := by kernel_rfl
theorem laid_out : laidOutB Tryd.prog = true := by kernel_rfl
theorem readable_bytes : Tryd.prog.readableRec 29 = true := by kernel_rfl
theorem row_bytes : 29 < Tryd.prog.types.size := of_decide_eq_true (by kernel_rfl)
theorem byte_range {zs : List Int} (h : ∀ n ∈ zs, (Lit.int .u8 n).wf = true) (j : Nat) : 0 ≤ zs.getD j 0 ∧ zs.getD j 0 < 256 := by
  rw [List.getD_eq_getElem?_getD]
  cases hj : zs[j]? with
  | none => simp
  | some n =>
    have := h n (List.mem_of_getElem? hj)
    have := bounds_u8 this
    simp
    omega
theorem reads_of_trod {H : Type} {enc : TypeId × Value → H} {W : World} {base : Nat} {v : Value} {d : DataW H} {p : List MemPlace} (hval : Value.okWide Tryd.prog W .any base 29 v)
    (h : DataW.Trod enc Tryd.prog W 0 (fun _ => true) true 29 v d p) :
    ∃ bs, Reads W v bs ∧ bs.length ≤ maxLen ∧ ∀ x ∈ p, x.block < W.heap.size := by
  obtain ⟨a1, len, cap, rfl⟩ := okWide_slice Tryd.underlying29 hval
  obtain ⟨fuel, hf⟩ := h
  rcases open_ints Tryd.underlying29 Tryd.underlying5 cells_byte hf with ⟨hcs, hx⟩ | ⟨a, len', cap', zs, hcs, _, hl, hm, hz, hx, hcell, hwz⟩
  · simp [Value.cells] at hcs
    obtain ⟨rfl, rfl, rfl⟩ := hcs
    simp only [Prod.mk.injEq] at hx
    obtain ⟨rfl, rfl⟩ := hx
    exact ⟨[], ⟨none, 0, rfl, Nat.le_refl _, fun _ => rfl, fun h => by cases h⟩, Nat.zero_le _, fun _ h => by cases h⟩
  · simp [Value.cells] at hcs
    obtain ⟨rfl, rfl, rfl⟩ := hcs
    simp only [Prod.mk.injEq] at hx
    obtain ⟨rfl, rfl⟩ := hx
    simp only [if_true] at hz
    have hlen : ((zs.take len).map fun n => BitVec.ofInt 8 n).length = len := by simp; omega
    obtain ⟨ab, ao, spot⟩ := a
    refine ⟨(zs.take len).map fun n => BitVec.ofInt 8 n, ⟨some ⟨ab, ao, spot⟩, cap, by rw [hlen], by rw [hlen]; exact hl, (fun h => by cases h), fun hp => ?_⟩, by rw [hlen]; omega, fun x hx => ?_⟩
    · rw [hlen] at hp ⊢
      have hspot : spot = none := by simpa [Addr.add] using World.cell?_spot (hcell 0 (by omega))
      subst hspot
      refine ⟨ab, ao, rfl, fun j hj => ?_⟩
      have hcj := hcell j (by omega)
      rw [Addr.add_lit] at hcj
      rw [hcj]
      have hb := byte_range hwz j
      have e : ((zs.take len).map fun n => BitVec.ofInt 8 n).getD j 0 = BitVec.ofInt 8 (zs.getD j 0) := by
        rw [List.getD_eq_getElem?_getD, List.getElem?_map, List.getElem?_take_of_lt hj, List.getD_eq_getElem?_getD, List.getElem?_eq_getElem (show j < zs.length by omega)]
        rfl
      rw [e, BitVec.toNat_ofInt]
      congr 2
      omega
    · simp only [MemPlace.row, List.mem_map, List.mem_range] at hx
      obtain ⟨i, hi, rfl⟩ := hx
      have hcj := hcell i (by omega)
      have := block_lt_of_cell hcj
      simp only [Addr.add] at this
      split at this <;> exact this
end Go.Proofs.YtfbdnhadcnmfoaaDoor
/- What a digest that came in gives: its 32 bytes. -/
namespace Go.Proofs.YtfbdnhadcnmfoaaDoor
open Go.ChangeShapes Go.WideShapes Go.ChangeAt Go.WideMaps Go.WideElems Go.RowKit
set_option maxRecDepth 100000
theorem cells_digest : Tryd.prog.cellsOf 23 = 32 := by kernel_rfl
theorem readable_digest : Tryd.prog.readableRec 23 = true := by kernel_rfl
theorem row_digest : 23 < Tryd.prog.types.size := of_decide_eq_true (by kernel_rfl)
def numOf8 : Value → BitVec 8
  | .int _ n => BitVec.ofInt 8 n
  | _ => 0
theorem digest_of_trod {H : Type} {enc : TypeId × Value → H} {W : World} {base : Nat} {v : Value} {d : DataW H} {p : List MemPlace} (hval : Value.okWide Tryd.prog W .any base 23 v)
    (h : DataW.Trod enc Tryd.prog W 0 (fun _ => true) true 23 v d p) :
    ∃ dg, v = .agg (cb dg).toArray ∧ dg.length = 32 ∧ ∀ x ∈ p, x.block < W.heap.size := by
  simp only [Value.okWide, Tryd.underlying23] at hval
  obtain ⟨cs, rfl, hcs, _⟩ := hval
  obtain ⟨fuel, hf⟩ := h
  obtain ⟨xs, m, _, hx, hl, hn, hi⟩ := DataW.trod_array Tryd.underlying23 hf
  simp only [Value.cells] at hl hi
  rw [cells_digest] at hl
  rw [cells_byte] at hi
  have each : ∀ i, i < 32 → ∃ n, cs.toList[i]? = some (.int .u8 n) ∧ xs[i]? = some (.lit (.int .u8 n), []) ∧ (Lit.int .u8 n).wf = true := by
    intro i h32
    have h1 := hi i h32
    rw [List.getElem?_eq_getElem (by omega)] at h1
    obtain ⟨n, hc, hxx, hw⟩ := DataW.trod_int Tryd.underlying5 h1
    refine ⟨n, ?_, by rw [List.getElem?_eq_getElem (by omega), hxx], hw⟩
    rw [Nat.mul_one] at hc
    have h2 := congrArg (fun l => l[0]?) hc
    simpa using h2
  have hlen : (cs.toList.map numOf8).length = 32 := by simpa using hl
  refine ⟨cs.toList.map numOf8, ?_, hlen, ?_⟩
  · congr 1
    apply Array.ext'
    rw [List.toList_toArray]
    apply List.ext_getElem?
    intro i
    by_cases h32 : i < 32
    · obtain ⟨n, h1, _, hw⟩ := each i h32
      have hb := bounds_u8 hw
      rw [h1, cb_get _ _ (by omega), List.getD_eq_getElem?_getD, List.getElem?_map, h1]
      simp only [Option.map_some, Option.getD_some, numOf8, BitVec.toNat_ofInt]
      congr 2
      omega
    · rw [List.getElem?_eq_none (by omega), List.getElem?_eq_none (by rw [cb_len]; omega)]
  · simp only [Prod.mk.injEq] at hx
    rw [hx.2]
    intro x hmem
    obtain ⟨y, hy, hxy⟩ := List.mem_flatMap.1 hmem
    obtain ⟨i, hlt, rfl⟩ := List.getElem_of_mem hy
    obtain ⟨n, _, h2, _⟩ := each i (by omega)
    rw [List.getElem?_eq_getElem hlt] at h2
    rw [Option.some.inj h2] at hxy
    cases hxy
end Go.Proofs.YtfbdnhadcnmfoaaDoor
/- What a slice of digests that came in gives; five arguments that came in, opened and shut (for the statements of layer 7). -/
namespace Go.Proofs.YtfbdnhadcnmfoaaDoor
open Go.ChangeShapes Go.WideShapes Go.ChangeAt Go.WideMaps Go.WideElems Go.RowKit
set_option maxRecDepth 100000
set_option maxRecDepth 100000 in
theorem bulk_pos {H : Type} (d : DataW H) : 1 ≤ Rows.uptoBulk d := by
  cases d with
  | lit l => cases l <;> simp [Rows.uptoBulk]
  | _ => simp [Rows.uptoBulk]
set_option maxRecDepth 100000 in
theorem bulk_slice {H : Type} (e s : List (DataW H)) : Rows.uptoBulkAll e ≤ Rows.uptoBulk (DataW.slice e s) := by
  simp only [Rows.uptoBulk]; omega
set_option maxRecDepth 100000 in
theorem bulk_len {H : Type} : ∀ l : List (DataW H), l.length ≤ Rows.uptoBulkAll l
  | [] => Nat.zero_le _
  | d :: r => by
    have h1 := bulk_len r
    have h2 := bulk_pos d
    simp only [Rows.uptoBulkAll, List.length_cons]
    omega
theorem digest_of_cells {H : Type} {enc : TypeId × Value → H} {W : World} {cs : List Value} {d : DataW H} {p : List MemPlace} {fuel : Nat} (hf : DataW.trod enc Tryd.prog W 0 (fun _ => true) true fuel 23 cs = some (d, p)) :
    ∃ dg, cs = cb dg ∧ dg.length = 32 ∧ ∀ x ∈ p, x.block < W.heap.size := by
  obtain ⟨xs, m, _, hx, hl, hn, hi⟩ := DataW.trod_array Tryd.underlying23 hf
  rw [cells_digest] at hl
  rw [cells_byte] at hi
  have each : ∀ i, i < 32 → ∃ n, cs[i]? = some (.int .u8 n) ∧ xs[i]? = some (.lit (.int .u8 n), []) ∧ (Lit.int .u8 n).wf = true := by
    intro i h32
    have h1 := hi i h32
    rw [List.getElem?_eq_getElem (by omega)] at h1
    obtain ⟨n, hc, hxx, hw⟩ := DataW.trod_int Tryd.underlying5 h1
    refine ⟨n, ?_, by rw [List.getElem?_eq_getElem (by omega), hxx], hw⟩
    rw [Nat.mul_one] at hc
    have h2 := congrArg (fun l => l[0]?) hc
    simpa using h2
  have hlen : (cs.map numOf8).length = 32 := by simpa using hl
  refine ⟨cs.map numOf8, ?_, hlen, ?_⟩
  · apply List.ext_getElem?
    intro i
    by_cases h32 : i < 32
    · obtain ⟨n, h1, _, hw⟩ := each i h32
      have hb := bounds_u8 hw
      rw [h1, cb_get _ _ (by omega), List.getD_eq_getElem?_getD, List.getElem?_map, h1]
      simp only [Option.map_some, Option.getD_some, numOf8, BitVec.toNat_ofInt]
      congr 2
      omega
    · rw [List.getElem?_eq_none (by omega), List.getElem?_eq_none (by rw [cb_len]; omega)]
  · simp only [Prod.mk.injEq] at hx
    rw [hx.2]
    intro x hmem
    obtain ⟨y, hy, hxy⟩ := List.mem_flatMap.1 hmem
    obtain ⟨i, hlt, rfl⟩ := List.getElem_of_mem hy
    obtain ⟨n, _, h2, _⟩ := each i (by omega)
    rw [List.getElem?_eq_getElem hlt] at h2
    rw [Option.some.inj h2] at hxy
    cases hxy
set_option maxRecDepth 100000 in
theorem readable_digests : Tryd.prog.readableRec 47 = true := by kernel_rfl
set_option maxRecDepth 100000 in
theorem row_digests : 47 < Tryd.prog.types.size := of_decide_eq_true (by kernel_rfl)
theorem readsD_of_trod {H : Type} {enc : TypeId × Value → H} {W : World} {base : Nat} {v : Value} {d : DataW H} {p : List MemPlace} (hval : Value.okWide Tryd.prog W .any base 47 v)
    (h : DataW.Trod enc Tryd.prog W 0 (fun _ => true) true 47 v d p) :
    ∃ ds, ReadsD W v ds ∧ ds.length ≤ Rows.uptoBulk d ∧ ∀ x ∈ p, x.block < W.heap.size := by
  obtain ⟨a1, len, cap, rfl⟩ := okWide_slice Tryd.underlying47 hval
  obtain ⟨fuel, hf⟩ := h
  rcases Go.Deep.open_slice Tryd.underlying47 hf with ⟨hcs, hx⟩ | ⟨a, len', cap', m, n, D, Pl, hcs, _, hl, hm, hmm, hx, hV⟩
  · simp [Value.cells] at hcs
    obtain ⟨rfl, rfl, rfl⟩ := hcs
    simp only [Prod.mk.injEq] at hx
    obtain ⟨rfl, rfl⟩ := hx
    exact ⟨[], ⟨⟨none, 0, rfl, Nat.le_refl _, fun _ => rfl, fun h => by cases h⟩, fun _ h => by cases h⟩, Nat.zero_le _, fun _ h => by cases h⟩
  · simp [Value.cells] at hcs
    obtain ⟨rfl, rfl, rfl⟩ := hcs
    simp only [Prod.mk.injEq] at hx
    obtain ⟨rfl, rfl⟩ := hx
    simp only [if_true] at hmm
    subst hmm
    rw [cells_digest] at hV
    obtain ⟨B, hB⟩ := Go.Deep.choose_lt (α := List (BitVec 8)) (p := fun i dg => W.cells? 0 (a.add (i * 32)) 32 = some (cb dg) ∧ dg.length = 32 ∧ ∀ x ∈ Pl i, x.block < W.heap.size) (fun i hi => by
      obtain ⟨cs', h1, h2⟩ := hV i hi
      obtain ⟨dg, rfl, h3, h4⟩ := digest_of_cells h2
      exact ⟨dg, h1, h3, h4⟩)
    have hlen : ((List.range len).map B).length = len := by simp
    obtain ⟨ab, ao, spot⟩ := a
    have cell : ∀ i, i < m → ∀ j, j < 32 → W.cell? ((⟨ab, ao, spot⟩ : Addr).add (i * 32 + j)) = (cb (B i))[j]? := by
      intro i hi j hj
      obtain ⟨h1, _, _⟩ := hB i hi
      obtain ⟨_, _, h4⟩ := World.cells?_some h1
      have := h4 j hj
      rw [Go.Deep.add_add] at this
      exact this
    have hspot : 0 < m → spot = none := fun hp => by
      have h := cell 0 hp 0 (by omega)
      rw [cb_get _ 0 (by rw [(hB 0 hp).2.1]; omega)] at h
      simpa [Addr.add] using World.cell?_spot h
    refine ⟨(List.range len).map B, ⟨⟨some ⟨ab, ao, spot⟩, m, by rw [hlen], by rw [hlen]; exact hl, (fun h => by cases h), fun hp => ?_⟩, ?_⟩, by rw [hlen]; exact Nat.le_trans (by have := bulk_len ((List.range len).map D); simpa using this) (bulk_slice _ _), fun x hx => ?_⟩
    · rw [hlen] at hp ⊢
      have hs := hspot (by omega)
      subst hs
      refine ⟨ab, ao, rfl, fun j hj i v hv => ?_⟩
      have e : ((List.range len).map B).getD j [] = B j := by simp [hj]
      rw [e] at hv
      have hi : i < 32 := by have := (List.getElem?_eq_some_iff.1 hv).1; rwa [cb_len, (hB j (by omega)).2.1] at this
      have h := cell j (by omega) i hi
      rw [hv, Addr.add_lit] at h
      rw [Nat.add_assoc]; exact h
    · intro dg hd
      obtain ⟨i, hi, rfl⟩ := List.mem_map.1 hd
      exact (hB i (by have := List.mem_range.1 hi; omega)).2.1
    · rcases List.mem_append.1 hx with hx | hx
      · rw [cells_digest] at hx
        simp only [MemPlace.row, List.mem_map, List.mem_range] at hx
        obtain ⟨i, hi, rfl⟩ := hx
        have h := cell (i / 32) (by omega) (i % 32) (by omega)
        rw [cb_get _ _ (by rw [(hB (i / 32) (by omega)).2.1]; omega), show i / 32 * 32 + i % 32 = i by omega] at h
        have := block_lt_of_cell h
        simp only [Addr.add] at this
        split at this <;> exact this
      · obtain ⟨i, hi, hx⟩ := List.mem_flatMap.1 hx
        exact (hB i (List.mem_range.1 hi)).2.2 x hx
theorem trodAll_five {H : Type} {enc : TypeId × Value → H} {P : Program} {w : World} {base : Nat} {spare : Nat → Bool} {held : Bool} {t0 t1 t2 t3 t4 : TypeId} {args : Array Value} {ds : List (DataW H)} {ps : List MemPlace} (h : DataW.TrodAll enc P w base spare held [t0, t1, t2, t3, t4] args.toList ds ps) :
    ∃ v0 v1 v2 v3 v4 d0 d1 d2 d3 d4 p0 p1 p2 p3 p4, args = #[v0, v1, v2, v3, v4] ∧ ds = [d0, d1, d2, d3, d4] ∧ ps = p0 ++ p1 ++ p2 ++ p3 ++ p4 ∧ DataW.Trod enc P w base spare held t0 v0 d0 p0 ∧ DataW.Trod enc P w base spare held t1 v1 d1 p1 ∧ DataW.Trod enc P w base spare held t2 v2 d2 p2 ∧ DataW.Trod enc P w base spare held t3 v3 d3 p3 ∧ DataW.Trod enc P w base spare held t4 v4 d4 p4 := by
  obtain ⟨v0, vs0, d0, ds0, p0, q0, hargs, rfl, rfl, h0, r0⟩ := trodAll_cons h
  obtain ⟨v1, vs1, d1, ds1, p1, q1, rfl, rfl, rfl, h1, r1⟩ := trodAll_cons r0
  obtain ⟨v2, vs2, d2, ds2, p2, q2, rfl, rfl, rfl, h2, r2⟩ := trodAll_cons r1
  obtain ⟨v3, vs3, d3, ds3, p3, q3, rfl, rfl, rfl, h3, r3⟩ := trodAll_cons r2
  obtain ⟨v4, vs4, d4, ds4, p4, q4, rfl, rfl, rfl, h4, r4⟩ := trodAll_cons r3
  obtain ⟨rfl, rfl, rfl⟩ := trodAll_nil r4
  exact ⟨v0, v1, v2, v3, v4, d0, d1, d2, d3, d4, p0, p1, p2, p3, p4, by cases args; simp_all, rfl, by simp, h0, h1, h2, h3, h4⟩
theorem trodAll_mk5 {H : Type} {enc : TypeId × Value → H} {P : Program} {w : World} {base : Nat} {spare : Nat → Bool} {held : Bool} {t0 t1 t2 t3 t4 : TypeId} {v0 v1 v2 v3 v4 : Value} {d0 d1 d2 d3 d4 : DataW H} {p0 p1 p2 p3 p4 : List MemPlace} (h0 : DataW.Trod enc P w base spare held t0 v0 d0 p0) (h1 : DataW.Trod enc P w base spare held t1 v1 d1 p1) (h2 : DataW.Trod enc P w base spare held t2 v2 d2 p2) (h3 : DataW.Trod enc P w base spare held t3 v3 d3 p3) (h4 : DataW.Trod enc P w base spare held t4 v4 d4 p4) : DataW.TrodAll enc P w base spare held [t0, t1, t2, t3, t4] [v0, v1, v2, v3, v4] [d0, d1, d2, d3, d4] (p0 ++ (p1 ++ (p2 ++ (p3 ++ p4)))) :=
  ⟨p0, _, h0, trodAll_mk4 h1 h2 h3 h4, rfl⟩
end Go.Proofs.YtfbdnhadcnmfoaaDoor

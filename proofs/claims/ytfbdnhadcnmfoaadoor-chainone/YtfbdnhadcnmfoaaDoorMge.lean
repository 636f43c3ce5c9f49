/- Texts that the proof leans on, one behind the other: ChainPieces, over what chain's functions do (layer 11). ChainSeals, over what chain's functions do (layer 11). The walk of the reference's Pair (as in layer 9). .. -/
import Derived.Test.YtfbdnhadcnmfoaaDoorMgd
import Derived.Test.YtfbdnhadcnmfoaaDoorRows
import Derived.Test.YtfbdnhadcnmfoaaDoorMga
import Derived.ProofKit
import Derived.LaidMore
import Derived.OpenShut
import Derived.Stop.Joined
import Derived.Lib.LaidTab
import Derived.Carry
import Derived.ChangeSlices
import Derived.Test.YtfbdnhadcnmfoaaDoorMgc
import Derived.Deep.Slices
import Derived.ChangeSame
import Derived.Deep.Strs
import Derived.Lib.SmallJoins
/- ChainPieces, over what chain's functions do (layer 11). -/
namespace Go.Proofs.YtfbdnhadcnmfoaaDoor
open Go.RowKit Go.Shelf
set_option maxRecDepth 100000
theorem wrap_u64_nonneg (c : Int) : 0 ≤ IntKind.u64.wrap c := by rw [IntKind.wrap_u64]; omega
theorem walk_le : ∀ (l : List SgT) (h : HdT), (walkR h l).2.1 ≤ l.length
  | [], h => Nat.le_refl _
  | s :: l, h => by
    rw [walkR]
    split
    · have := walk_le l (followR h s).1
      rw [List.length_cons]
      show _ + 1 ≤ _
      omega
    · exact Nat.zero_le _
theorem wpSeq_remU {ops : Array Oper} {Q : Exit → Act → World → Prop} {rest : List Oper} {o : Oper} {a : Act} {w : World} (x y : Operand) (A M : Nat) (N : Int) (hN : N = (M : Int)) (hM : 0 < M) (ho : o.op = .binOp .rem 24 x y 24) (hx : a.eval x = .int .u64 (A : Int)) (hy : a.eval y = .int .u64 N) (hw : Region.wanted o (yielded ops a.tmps) = true)
    (h : wpList Tryd.prog ops Q rest (a.put o.dst (.int .u64 ((A % M : Nat) : Int))) w) : wpList Tryd.prog ops Q (o :: rest) a w := by
  subst hN
  refine wpSeq_val _ _ hw ?_ h
  unfold execOp
  rw [ho]
  simp only [hx, hy]
  simp [go_sem]
  rw [if_neg (by omega), Int.tmod_eq_emod_of_nonneg (by omega)]
/-- a beginning, and what is behind it -/
theorem ReadsS.take {w : World} {ad : Option Addr} {n cp k : Nat} {l : List SgT} (h : ReadsS w (.slice ad n cp) l) (hk : k ≤ l.length) : ReadsS w (.slice ad k cp) (l.take k) := by
  obtain ⟨⟨ad', cp', hv, hc, hn, hx⟩, hok⟩ := h
  simp only [Value.slice.injEq] at hv
  obtain ⟨rfl, rfl, rfl⟩ := hv
  have hl : (l.take k).length = k := by rw [List.length_take]; omega
  refine ⟨⟨ad, cp, by rw [hl], by rw [hl]; omega, hn, fun hp => ?_⟩, fun s hs => hok s (List.mem_of_mem_take hs)⟩
  rw [hl] at hp
  obtain ⟨b, off, rfl, hy⟩ := hx (by omega)
  refine ⟨b, off, rfl, fun j hj => ?_⟩
  rw [hl] at hj
  have e : (l.take k).getD j zeroS = l.getD j zeroS := by rw [List.getD_eq_getElem?_getD, List.getD_eq_getElem?_getD, List.getElem?_take_of_lt hj]
  rw [e]
  exact hy j (by omega)
theorem sizeOf_signed (w : World) : (sizeOf 31).run Tryd.prog w = .ok 98 w := by kernel_rfl
theorem takeS_op (f : Operand → Value) (o : Oper) (x hi : Operand) (ho : o.op = .slice 42 x none (some hi) none) (ad : Option Addr) (n cap k : Nat) (hx : f x = .slice ad n cap) (hk : f hi = .int .i64 (k : Int)) (hc : k ≤ cap) (w : World) :
    (execOp f o).run Tryd.prog w = .ok (.value (.slice ad k cap)) w := by
  have hr : (Instr.sliceAt 42 (.slice ad n cap) none (some (.int .i64 (k : Int))) none).run Tryd.prog w = .ok (.slice ad k cap) w := by
    rw [run_sliceAt_slice w 42 _ _ _ _ (by kernel_rfl), run_slice_h w 42 _ _ _ (by kernel_rfl) .i64 _ (by omega) (by omega)]
    rw [show Tryd.prog.elem 42 = 31 from by kernel_rfl, sizeOf_signed]
    cases ad with
    | none => simp [sliced]
    | some a => simp [sliced, Addr.add_zero']
  unfold execOp
  rw [ho]
  simp only [hx, hk, Option.map_some, Option.map_none, Sem.run_bind, hr]
  rfl
/-- from a place on: where it lies -/
def dropA (ad : Option Addr) (k cap : Nat) : Option Addr := if cap = k then ad else ad.map (·.add (k * 98))
theorem dropS_op (f : Operand → Value) (o : Oper) (x lo : Operand) (ho : o.op = .slice 42 x (some lo) none none) (ad : Option Addr) (n cap k : Nat) (hx : f x = .slice ad n cap) (hk : f lo = .int .i64 (k : Int)) (hc : k ≤ n) (w : World) :
    (execOp f o).run Tryd.prog w = .ok (.value (.slice (dropA ad k cap) (n - k) (cap - k))) w := by
  have hr : (Instr.sliceAt 42 (.slice ad n cap) (some (.int .i64 (k : Int))) none none).run Tryd.prog w = .ok (.slice (dropA ad k cap) (n - k) (cap - k)) w := by
    rw [run_sliceAt_slice w 42 _ _ _ _ (by kernel_rfl), run_slice_l w 42 _ _ _ (by kernel_rfl) .i64 _ (by omega) (by omega)]
    rw [show Tryd.prog.elem 42 = 31 from by kernel_rfl, sizeOf_signed]
    simp [sliced, dropA]
  unfold execOp
  rw [ho]
  simp only [hx, hk, Option.map_some, Option.map_none, Sem.run_bind, hr]
  rfl
theorem ReadsS.drop {w : World} {ad : Option Addr} {n cp k : Nat} {l : List SgT} (h : ReadsS w (.slice ad n cp) l) (hk : k ≤ l.length) : ReadsS w (.slice (dropA ad k cp) (n - k) (cp - k)) (l.drop k) := by
  obtain ⟨⟨ad', cp', hv, hc, hn, hx⟩, hok⟩ := h
  simp only [Value.slice.injEq] at hv
  obtain ⟨rfl, rfl, rfl⟩ := hv
  have hl : (l.drop k).length = l.length - k := List.length_drop
  refine ⟨⟨_, cp - k, by rw [hl], by rw [hl]; omega, fun hd => ?_, fun hp => ?_⟩, fun s hs => hok s (List.mem_of_mem_drop hs)⟩
  · unfold dropA at hd
    split at hd
    · omega
    · have := hn (by simpa using hd); omega
  · rw [hl] at hp
    obtain ⟨b, off, rfl, hy⟩ := hx (by omega)
    refine ⟨b, off + k * 98, by rw [dropA, if_neg (by omega)]; simp [Addr.add_mid], fun j hj => ?_⟩
    rw [hl] at hj
    have e : (l.drop k).getD j zeroS = l.getD (k + j) zeroS := by rw [List.getD_eq_getElem?_getD, List.getD_eq_getElem?_getD, List.getElem?_drop]
    rw [e, show off + k * 98 + j * 98 = off + (k + j) * 98 by omega]
    exact hy (k + j) (by omega)
/-- what two pieces tell -/
theorem walk_cut (h : HdT) (l : List SgT) (k : Nat) (hk : k ≤ l.length) : ((walkR h (l.take k)).2.2 ≠ 0 → walkR h l = walkR h (l.take k)) ∧ ((walkR h (l.take k)).2.2 = 0 → walkR h l = ((walkR (walkR h (l.take k)).1 (l.drop k)).1, k + (walkR (walkR h (l.take k)).1 (l.drop k)).2.1, (walkR (walkR h (l.take k)).1 (l.drop k)).2.2)) := by
  have e := walk_app (l.take k) (l.drop k) h
  rw [List.take_append_drop, List.length_take, Nat.min_eq_left hk] at e
  constructor
  · intro h0
    rw [e, if_neg h0]
  · intro h0
    rw [e, if_pos h0, Nat.add_comm k]
set_option maxRecDepth 100000 in
set_option maxHeartbeats 8000000 in
theorem chainPieces_law (hO : ChOps) (h : HdT) (v : Value) (l : List SgT) (c : Int) (w : World) (hK : KOk w) (oh : okH h) (hr : ReadsS w v l) :
    Calls Tryd.prog 8 #[.agg (hdC h).toArray, v, .int .i64 c] w fun e w' => e = .returned (.bool true) ∧ Below w.heap.size w w' := by
  obtain ⟨⟨ad, cp, hv, hcp, hq2, hq3⟩, hok⟩ := id hr
  clear hq2 hq3
  obtain ⟨n, HN⟩ : ∃ n, Hid (n = l.length) := ⟨_, rfl⟩
  rw [← HN.out] at hv hcp
  subst hv
  have HCP : Hid (n ≤ cp) := hcp
  have HR : Hid (ReadsS w (.slice ad n cp) l) := hr
  have HCW : Hid (∀ W : World, Below w.heap.size w W → Calls Tryd.prog 12 #[] W fun e w' => e = .returned (.bool true) ∧ Below W.heap.size W w') := fun W hh => works11_any hO W (hK.below hh hK.lt)
  have HOH : Hid (okH h) := oh
  have HOKL : Hid (∀ s ∈ l, okS s) := hok
  have HOP : Hid ChOps := hO
  have HKK0 : Hid (KOk w) := hK
  have HBW : Hid (Below w.heap.size w w) := Below.refl _ _
  obtain ⟨cu, hcu⟩ : ∃ cu : Nat, IntKind.u64.wrap c = (cu : Int) := ⟨(IntKind.u64.wrap c).toNat, by have := wrap_u64_nonneg c; omega⟩
  clear hO hK oh hr hok hcp
  go_enter Tryd.func8, Tryd.ntmps8
  have tk0 : Hid True := trivial
  have tk1 : Hid True := trivial
  go_upto_if 17 with (first
    | (clear tk0; with_reducible refine wpSeq_boxW 26 (.tmp 0) (hdC h) ?_ ?_ ?_ ?_
       · rfl
       · rfl
       · rfl
       intro g3 y1 nn
       replace HR : Hid (ReadsS y1 (.slice ad n cp) l) := HR.out.below nn.below
       replace HBW : Hid (Below w.heap.size w y1) := HBW.out.trans (nn.below.mono HBW.out.size)
       have HG3 : Hid (Blk y1 g3 (hdC h) 26) := nn.blk
       clear nn)
    | (clear tk1; go_at_call 16; refine (few11_any _ l _ HR.out).mono ?_; rintro e yf ⟨b, rfl, hb40, rfl⟩))
  cases b with
  | false =>
    simp only [Bool.not_false]
    have tk20 : Hid True := trivial
    go_wp2_with (first
      | (clear tk20; go_at_call 12; refine (HCW.out yf HBW.out).mono ?_; rintro e y21 ⟨rfl, hbz⟩
         replace HG3 : Hid (Blk y21 g3 (hdC h) 26) := HG3.out.below hbz HG3.out.lt
         replace HR : Hid (ReadsS y21 (.slice ad n cp) l) := HR.out.below hbz
         replace HBW : Hid (Below w.heap.size w y21) := HBW.out.trans (hbz.mono HBW.out.size)
         clear hbz ))
    go_ret
    first | exact ⟨rfl, HBW.out⟩ | exact ⟨trivial, HBW.out⟩
  | true =>
    have HL40 : Hid (n ≤ 40) := by show _ ≤ _; rw [HN.out]; exact hb40 rfl
    clear hb40
    simp only [Bool.not_true]
    have f1 : IntKind.i64.wrap ((n : Int) + 1) = (n : Int) + 1 := by have := HL40.out; rw [IntKind.wrap_i64]; omega
    have f2 : IntKind.u64.wrap ((n : Int) + 1) = (n : Int) + 1 := by have := HL40.out; rw [IntKind.wrap_u64]; omega
    obtain ⟨kk, HKK⟩ : ∃ k, Hid (k = cu % (n + 1)) := ⟨_, rfl⟩
    have HKN : Hid (kk ≤ n) := by have h1 := HKK.out; have h2 : cu % (n + 1) < n + 1 := Nat.mod_lt cu (Nat.succ_pos n); show _ ≤ _; rw [h1]; exact Nat.le_of_lt_succ h2
    have f3 : IntKind.i64.wrap (kk : Int) = (kk : Int) := by have := HKN.out; have := HL40.out; rw [IntKind.wrap_i64]; omega
    have HKL : Hid (kk ≤ l.length) := by have := HKN.out; have := HN.out; show _ ≤ _; omega
    have HLL : Hid (l.length < 1000) := by have := HL40.out; have := HN.out; show _ < _; omega
    obtain ⟨ha, HHA⟩ : ∃ c, Hid (c = (walkR h l).1) := ⟨_, rfl⟩
    obtain ⟨na, HNA⟩ : ∃ c, Hid (c = (walkR h l).2.1) := ⟨_, rfl⟩
    obtain ⟨ea, HEA⟩ : ∃ c, Hid (c = (walkR h l).2.2) := ⟨_, rfl⟩
    have HOA : Hid (okH ha) := by rw [HHA.out]; exact walk_okH l h HOH.out HOKL.out
    obtain ⟨hb, HHB⟩ : ∃ c, Hid (c = (walkR h (l.take kk)).1) := ⟨_, rfl⟩
    obtain ⟨nb, HNB⟩ : ∃ c, Hid (c = (walkR h (l.take kk)).2.1) := ⟨_, rfl⟩
    obtain ⟨eb, HEB⟩ : ∃ c, Hid (c = (walkR h (l.take kk)).2.2) := ⟨_, rfl⟩
    have HOB : Hid (okH hb) := by rw [HHB.out]; exact walk_okH _ h HOH.out (fun s hs => HOKL.out s (List.mem_of_mem_take hs))
    obtain ⟨hc, HHC⟩ : ∃ c, Hid (c = (walkR hb (l.drop kk)).1) := ⟨_, rfl⟩
    obtain ⟨nc, HNC⟩ : ∃ c, Hid (c = (walkR hb (l.drop kk)).2.1) := ⟨_, rfl⟩
    obtain ⟨ec, HEC⟩ : ∃ c, Hid (c = (walkR hb (l.drop kk)).2.2) := ⟨_, rfl⟩
    have HOC : Hid (okH hc) := by rw [HHC.out]; exact walk_okH _ hb HOB.out (fun s hs => HOKL.out s (List.mem_of_mem_drop hs))
    have HCUT : Hid ((eb ≠ 0 → na = nb ∧ ea = eb) ∧ (eb = 0 → ha = hc ∧ na = kk + nc ∧ ea = ec)) := by
      have hw := walk_cut h l kk HKL.out
      rw [HEB.out, HNA.out, HNB.out, HEA.out, HHA.out, HHC.out, HNC.out, HEC.out, HHB.out]
      exact ⟨fun q => by rw [hw.1 q]; exact ⟨rfl, rfl⟩, fun q => by rw [hw.2 q]; exact ⟨rfl, rfl, rfl⟩⟩
    have HNC2 : Hid (nc ≤ 1000) := by show _ ≤ _; rw [HNC.out]; exact Nat.le_trans (walk_le _ _) (by have := HLL.out; rw [List.length_drop]; omega)
    have HC1 : Hid (∀ W : World, Below w.heap.size w W → ReadsS W (.slice ad n cp) l → Calls Tryd.prog 17 #[.agg (hdC h).toArray, .slice ad n cp] W fun e w' => e = .returned (.tuple #[.agg (hdC ha).toArray, .int .i64 (na : Int), .int .i64 ea]) ∧ Below W.heap.size W w') := fun W hh hr => by rw [HHA.out, HNA.out, HEA.out]; exact HOP.out.walk W h _ l (HKK0.out.below hh HKK0.out.lt) HOH.out hr (by have := HLL.out; omega)
    have HC2 : Hid (∀ W : World, Below w.heap.size w W → ReadsS W (.slice ad n cp) l → Calls Tryd.prog 17 #[.agg (hdC h).toArray, .slice ad kk cp] W fun e w' => e = .returned (.tuple #[.agg (hdC hb).toArray, .int .i64 (nb : Int), .int .i64 eb]) ∧ Below W.heap.size W w') := fun W hh hr => by rw [HHB.out, HNB.out, HEB.out]; exact HOP.out.walk W h _ (l.take kk) (HKK0.out.below hh HKK0.out.lt) HOH.out (hr.take HKL.out) (by have := HLL.out; rw [List.length_take]; omega)
    have HC3 : Hid (∀ W : World, Below w.heap.size w W → ReadsS W (.slice ad n cp) l → Calls Tryd.prog 17 #[.agg (hdC hb).toArray, .slice (dropA ad kk cp) (n - kk) (cp - kk)] W fun e w' => e = .returned (.tuple #[.agg (hdC hc).toArray, .int .i64 (nc : Int), .int .i64 ec]) ∧ Below W.heap.size W w') := fun W hh hr => by rw [HHC.out, HNC.out, HEC.out]; exact HOP.out.walk W hb _ (l.drop kk) (HKK0.out.below hh HKK0.out.lt) HOB.out (hr.drop HKL.out) (by have := HLL.out; rw [List.length_drop]; omega)
    clear HHA HNA HEA HHB HNB HEB HHC HNC HEC HN HKL HLL HOKL
    have tk20 : Hid True := trivial
    have tk21 : Hid True := trivial
    have tk22 : Hid True := trivial
    have tk23 : Hid True := trivial
    have tk24 : Hid True := trivial
    go_wp2_with (first
      | (clear tk20; with_reducible refine wpSeq_remU (.tmp 20) (.tmp 24) cu (n + 1) ((n : Int) + 1) ?_ ?_ ?_ ?_ ?_ ?_ ?_
         · rfl
         · exact Nat.succ_pos _
         · rfl
         · rfl
         · rfl
         · rfl
         rw [← HKK.out])
      | (clear tk21; with_reducible refine wpSeq_loadW 26 (.tmp 3) g3 0 (hdC h) _ ?_ Tryd.underlying26 rfl ?_ ?_ ?_ ?_ ?_
         · exact HG3.out.range
         · exact info_hdC HOH.out
         · rfl
         · rfl
         · rfl)
      | (clear tk22; go_at_call 17; refine (HC1.out yf HBW.out HR.out).mono ?_; rintro e y21 ⟨rfl, hbz⟩
         replace HG3 : Hid (Blk y21 g3 (hdC h) 26) := HG3.out.below hbz HG3.out.lt
         replace HR : Hid (ReadsS y21 (.slice ad n cp) l) := HR.out.below hbz
         replace HBW : Hid (Below w.heap.size w y21) := HBW.out.trans (hbz.mono HBW.out.size)
         clear hbz )
      | (clear tk23; with_reducible refine wpSeq_allocH ?_ ?_ ?_
         · rfl
         · rfl
         intro g8 y22 nn)
      | (clear tk24; with_reducible refine wpSeq_storeRow 26 (.tmp 8) (.tmp 31) g8 (hdC zeroH) (hdC ha) ?_ ?_ ?_ ?_ ?_ ?_ ?_ ?_ ?_
         · exact nn.blk
         · first | (with_reducible rfl) | rw [len_hdC HOA.out, len_hdC okH_zero]
         · exact info_hdC HOA.out
         · exact hdC_one _
         · rfl
         · rfl
         · rfl
         · rfl
         intro y23 hs
         have hbz := nn.below.trans (hs.only.below nn.ge nn.below.size)
         replace HG3 : Hid (Blk y23 g3 (hdC h) 26) := HG3.out.below hbz HG3.out.lt
         replace HR : Hid (ReadsS y23 (.slice ad n cp) l) := HR.out.below hbz
         replace HBW : Hid (Below w.heap.size w y23) := HBW.out.trans (hbz.mono HBW.out.size)
         have HG8 : Hid (Blk y23 g8 (hdC ha) 26) := hs.blk
         clear nn hs hbz))
    go_cut [11, 12, 13] from 34 to 42 (fun a b c W => ∃ g11, a = .pointer (some ⟨g11, 0, none⟩) ∧ b = .int .i64 (nb : Int) ∧ c = .int .i64 eb ∧ Blk W g3 (hdC h) 26 ∧ Blk W g8 (hdC ha) 26 ∧ ReadsS W (.slice ad n cp) l ∧ Below w.heap.size w W ∧ Blk W g11 (hdC hb) 26)
    case first =>
      refine wp_region_held_drew (S := Over (World.drew y23)) (by kernel_rfl) (Over.refl _) ?_
      intro hS
      replace HG3 : Hid (Blk (World.drew y23) g3 (hdC h) 26) := HG3.out.drew
      replace HG8 : Hid (Blk (World.drew y23) g8 (hdC ha) 26) := HG8.out.drew
      replace HR : Hid (ReadsS (World.drew y23) (.slice ad n cp) l) := HR.out.below (Below.refl _ _).drew
      replace HBW : Hid (Below w.heap.size w (World.drew y23)) := HBW.out.drew
      change wpAnyH _ _ _ _ _ _ _ _ (World.drew y23)
      generalize World.drew y23 = y0 at *
      try simp only [Act.put, List.setIfInBounds_toArray, List.set_cons_zero, List.set_cons_succ]
      refine wpAnyH_take (i := 0) (v := .agg (hdC h).toArray) rfl (by kernel_rfl) (by kernel_rfl) (by kernel_rfl) (fun _ _ _ h => h) (Or.inl ⟨by rfl, fun wx hx => by exact loadHdAt _ g3 0 h ((HG3.out.below hx HG3.out.lt).hdAt HOH.out) rfl rfl⟩) hS ?_
      simp only [Act.put, List.getElem_toArray, List.getElem_cons_zero, List.setIfInBounds_toArray, List.set_cons_zero, List.set_cons_succ]
      refine wpAnyH_take (i := 1) (v := .slice ad n cp) rfl (by kernel_rfl) (by kernel_rfl) (by kernel_rfl) (fun _ _ _ h => h) (Or.inl ⟨by rfl, fun wx hx => by simp [go_sem]⟩) hS ?_
      simp only [Act.put, List.getElem_toArray, List.getElem_cons_succ, List.getElem_cons_zero, List.setIfInBounds_toArray, List.set_cons_zero, List.set_cons_succ]
      refine wpAnyH_take (i := 2) (v := .int .i64 (kk : Int)) rfl (by kernel_rfl) (by kernel_rfl) (by kernel_rfl) (fun _ _ _ h => h) (Or.inl ⟨by rfl, fun wx hx => by simp [go_sem]⟩) hS ?_
      simp only [Act.put, List.getElem_toArray, List.getElem_cons_succ, List.getElem_cons_zero, List.setIfInBounds_toArray, List.set_cons_zero, List.set_cons_succ]
      refine wpAnyH_take (i := 3) (v := .slice ad kk cp) rfl (by kernel_rfl) (by kernel_rfl) (by kernel_rfl) (fun _ _ _ h => h) (Or.inl ⟨by rfl, fun wx hx => by exact takeS_op _ _ _ _ rfl ad n cp kk rfl rfl (by have h1 := HKN.out; have h2 := HCP.out; omega) _⟩) hS ?_
      simp only [Act.put, List.getElem_toArray, List.getElem_cons_succ, List.getElem_cons_zero, List.setIfInBounds_toArray, List.set_cons_zero, List.set_cons_succ]
      refine wpAnyH_pair 4 9 (by kernel_rfl) ?_ ?_
      · refine wpOp_en 4 (by rfl) (by rfl) (f := 17) (args := #[.agg (hdC h).toArray, .slice ad kk cp]) (by simp [go_sem]) (HC2.out _ (HBW.out.trans (Below.mono hS HBW.out.size)) (HR.out.below hS)) ?_
        rintro e z1 ⟨rfl, hb⟩
        replace hS := Over.more hS hb
        refine ⟨_, rfl, hS, ?_⟩
        clear hb
        simp only [Act.put, List.getElem_toArray, List.getElem_cons_succ, List.getElem_cons_zero, List.setIfInBounds_toArray, List.set_cons_zero, List.set_cons_succ]
        refine wpAnyH_take (i := 5) (v := .tuple #[.agg (hdC hb).toArray, .int .i64 (nb : Int), .int .i64 eb]) rfl (by kernel_rfl) (by kernel_rfl) (by kernel_rfl) (fun _ _ _ h => h) (Or.inl ⟨by rfl, fun wx hx => by simp [go_sem]⟩) hS ?_
        simp only [Act.put, List.getElem_toArray, List.getElem_cons_succ, List.getElem_cons_zero, List.setIfInBounds_toArray, List.set_cons_zero, List.set_cons_succ]
        refine wpAnyH_take (i := 6) (v := .agg (hdC hb).toArray) rfl (by kernel_rfl) (by kernel_rfl) (by kernel_rfl) (fun _ _ _ h => h) (Or.inl ⟨by rfl, fun wx hx => by simp [go_sem]⟩) hS ?_
        simp only [Act.put, List.getElem_toArray, List.getElem_cons_succ, List.getElem_cons_zero, List.setIfInBounds_toArray, List.set_cons_zero, List.set_cons_succ]
        refine wpAnyH_take (i := 7) (v := .int .i64 (nb : Int)) rfl (by kernel_rfl) (by kernel_rfl) (by kernel_rfl) (fun _ _ _ h => h) (Or.inl ⟨by rfl, fun wx hx => by simp [go_sem]⟩) hS ?_
        simp only [Act.put, List.getElem_toArray, List.getElem_cons_succ, List.getElem_cons_zero, List.setIfInBounds_toArray, List.set_cons_zero, List.set_cons_succ]
        refine wpAnyH_take (i := 8) (v := .int .i64 eb) rfl (by kernel_rfl) (by kernel_rfl) (by kernel_rfl) (fun _ _ _ h => h) (Or.inl ⟨by rfl, fun wx hx => by simp [go_sem]⟩) hS ?_
        simp only [Act.put, List.getElem_toArray, List.getElem_cons_succ, List.getElem_cons_zero, List.setIfInBounds_toArray, List.set_cons_zero, List.set_cons_succ]
        have hb := below_alloc z1 (.cells (hdC zeroH).toArray 26)
        have hba : Blk (z1.alloc (.cells (hdC zeroH).toArray 26)) z1.heap.size (hdC zeroH) 26 := Blk.new _ _ _
        have hsz : y0.heap.size ≤ z1.heap.size := Below.size hS
        replace hS := Over.more hS hb
        refine wpAnyH_step 9 (.pointer (some ⟨z1.heap.size, 0, none⟩)) (z1.alloc (.cells (hdC zeroH).toArray 26)) (by kernel_rfl) rfl (by rfl) (alloc_hd _ _ rfl _) hS ?_
        simp only [Act.put, List.getElem_toArray, List.getElem_cons_succ, List.getElem_cons_zero, List.setIfInBounds_toArray, List.set_cons_zero, List.set_cons_succ]
        clear hb
        generalize z1.alloc (.cells (hdC zeroH).toArray 26) = z2 at *
        obtain ⟨ga, HGA⟩ : ∃ z, Hid (z = z1.heap.size) := ⟨_, rfl⟩
        have hgw : y0.heap.size ≤ ga := by rw [HGA.out]; exact hsz
        rw [← HGA.out] at hba ⊢
        clear HGA hsz
        refine wpAnyH_storeRow 10 26 (.tmp 11) (.tmp 40) ga (hdC zeroH) (hdC hb) hba (by rw [len_hdC HOB.out, len_hdC okH_zero]) (info_hdC HOB.out) (hdC_one _) (by kernel_rfl) rfl (by rfl) rfl rfl rfl ?_
        intro yE hs
        replace hS : Over y0 yE := Below.trans hS (hs.only.below hgw (Below.size hS))
        refine ⟨hS, ?_⟩
        simp only [Act.put, List.getElem_toArray, List.getElem_cons_succ, List.getElem_cons_zero]
        refine wpAnyH_take (i := 11) (v := .int .i64 (nb : Int)) rfl (by kernel_rfl) (by kernel_rfl) (by kernel_rfl) (fun _ _ _ h => h) (Or.inl ⟨by rfl, fun wx hx => by simp [go_sem]⟩) hS ?_
        simp only [Act.put, List.getElem_toArray, List.getElem_cons_succ, List.getElem_cons_zero, List.setIfInBounds_toArray, List.set_cons_zero, List.set_cons_succ]
        refine wpAnyH_take (i := 12) (v := .int .i64 eb) rfl (by kernel_rfl) (by kernel_rfl) (by kernel_rfl) (fun _ _ _ h => h) (Or.inl ⟨by rfl, fun wx hx => by simp [go_sem]⟩) hS ?_
        simp only [Act.put, List.getElem_toArray, List.getElem_cons_succ, List.getElem_cons_zero, List.setIfInBounds_toArray, List.set_cons_zero, List.set_cons_succ]
        refine wpAnyH_done (by kernel_rfl) ?_ _
        go_wp2
        go_meet
        case rel => exact ⟨ga, rfl, rfl, rfl, HG3.out.below hS HG3.out.lt, HG8.out.below hS HG8.out.lt, HR.out.below hS, HBW.out.trans (Below.mono hS HBW.out.size), hs.blk⟩
      · have hb := below_alloc y0 (.cells (hdC zeroH).toArray 26)
        have hba : Blk (y0.alloc (.cells (hdC zeroH).toArray 26)) y0.heap.size (hdC zeroH) 26 := Blk.new _ _ _
        have hsz : y0.heap.size ≤ y0.heap.size := Below.size hS
        replace hS := Over.more hS hb
        refine wpOp_vl 9 (.pointer (some ⟨y0.heap.size, 0, none⟩)) (y0.alloc (.cells (hdC zeroH).toArray 26)) (by rfl) (by rfl) (alloc_hd _ _ rfl _) ⟨hS, ?_⟩
        simp only [Act.put, List.getElem_toArray, List.getElem_cons_succ, List.getElem_cons_zero, List.setIfInBounds_toArray, List.set_cons_zero, List.set_cons_succ]
        clear hb
        generalize y0.alloc (.cells (hdC zeroH).toArray 26) = z1 at *
        obtain ⟨ga, HGA⟩ : ∃ z, Hid (z = y0.heap.size) := ⟨_, rfl⟩
        have hgw : y0.heap.size ≤ ga := by rw [HGA.out]; exact hsz
        rw [← HGA.out] at hba ⊢
        clear HGA hsz
        refine wpAnyH_enter 4 (by kernel_rfl) rfl (by rfl) (f := 17) (args := #[.agg (hdC h).toArray, .slice ad kk cp]) (by simp [go_sem]) (HC2.out _ (HBW.out.trans (Below.mono hS HBW.out.size)) (HR.out.below hS)) ?_
        rintro e z2 ⟨rfl, hb⟩
        replace hS := Over.more hS hb
        replace hba := hba.below hb hba.lt
        refine ⟨_, rfl, hS, ?_⟩
        clear hb
        simp only [Act.put, List.getElem_toArray, List.getElem_cons_succ, List.getElem_cons_zero, List.setIfInBounds_toArray, List.set_cons_zero, List.set_cons_succ]
        refine wpAnyH_take (i := 5) (v := .tuple #[.agg (hdC hb).toArray, .int .i64 (nb : Int), .int .i64 eb]) rfl (by kernel_rfl) (by kernel_rfl) (by kernel_rfl) (fun _ _ _ h => h) (Or.inl ⟨by rfl, fun wx hx => by simp [go_sem]⟩) hS ?_
        simp only [Act.put, List.getElem_toArray, List.getElem_cons_succ, List.getElem_cons_zero, List.setIfInBounds_toArray, List.set_cons_zero, List.set_cons_succ]
        refine wpAnyH_take (i := 6) (v := .agg (hdC hb).toArray) rfl (by kernel_rfl) (by kernel_rfl) (by kernel_rfl) (fun _ _ _ h => h) (Or.inl ⟨by rfl, fun wx hx => by simp [go_sem]⟩) hS ?_
        simp only [Act.put, List.getElem_toArray, List.getElem_cons_succ, List.getElem_cons_zero, List.setIfInBounds_toArray, List.set_cons_zero, List.set_cons_succ]
        refine wpAnyH_take (i := 7) (v := .int .i64 (nb : Int)) rfl (by kernel_rfl) (by kernel_rfl) (by kernel_rfl) (fun _ _ _ h => h) (Or.inl ⟨by rfl, fun wx hx => by simp [go_sem]⟩) hS ?_
        simp only [Act.put, List.getElem_toArray, List.getElem_cons_succ, List.getElem_cons_zero, List.setIfInBounds_toArray, List.set_cons_zero, List.set_cons_succ]
        refine wpAnyH_take (i := 8) (v := .int .i64 eb) rfl (by kernel_rfl) (by kernel_rfl) (by kernel_rfl) (fun _ _ _ h => h) (Or.inl ⟨by rfl, fun wx hx => by simp [go_sem]⟩) hS ?_
        simp only [Act.put, List.getElem_toArray, List.getElem_cons_succ, List.getElem_cons_zero, List.setIfInBounds_toArray, List.set_cons_zero, List.set_cons_succ]
        refine wpAnyH_storeRow 10 26 (.tmp 11) (.tmp 40) ga (hdC zeroH) (hdC hb) hba (by rw [len_hdC HOB.out, len_hdC okH_zero]) (info_hdC HOB.out) (hdC_one _) (by kernel_rfl) rfl (by rfl) rfl rfl rfl ?_
        intro yE hs
        replace hS : Over y0 yE := Below.trans hS (hs.only.below hgw (Below.size hS))
        refine ⟨hS, ?_⟩
        simp only [Act.put, List.getElem_toArray, List.getElem_cons_succ, List.getElem_cons_zero]
        refine wpAnyH_take (i := 11) (v := .int .i64 (nb : Int)) rfl (by kernel_rfl) (by kernel_rfl) (by kernel_rfl) (fun _ _ _ h => h) (Or.inl ⟨by rfl, fun wx hx => by simp [go_sem]⟩) hS ?_
        simp only [Act.put, List.getElem_toArray, List.getElem_cons_succ, List.getElem_cons_zero, List.setIfInBounds_toArray, List.set_cons_zero, List.set_cons_succ]
        refine wpAnyH_take (i := 12) (v := .int .i64 eb) rfl (by kernel_rfl) (by kernel_rfl) (by kernel_rfl) (fun _ _ _ h => h) (Or.inl ⟨by rfl, fun wx hx => by simp [go_sem]⟩) hS ?_
        simp only [Act.put, List.getElem_toArray, List.getElem_cons_succ, List.getElem_cons_zero, List.setIfInBounds_toArray, List.set_cons_zero, List.set_cons_succ]
        refine wpAnyH_done (by kernel_rfl) ?_ _
        go_wp2
        go_meet
        case rel => exact ⟨ga, rfl, rfl, rfl, HG3.out.below hS HG3.out.lt, HG8.out.below hS HG8.out.lt, HR.out.below hS, HBW.out.trans (Below.mono hS HBW.out.size), hs.blk⟩
    case rest =>
      obtain ⟨g11, rfl, rfl, rfl, h3, h8, hr, hbw, h11⟩ := hcut
      clear HG3 HG8 HR HBW
      have HG3 : Hid (Blk wc g3 (hdC h) 26) := h3
      have HG8 : Hid (Blk wc g8 (hdC ha) 26) := h8
      have HG11 : Hid (Blk wc g11 (hdC hb) 26) := h11
      have HR : Hid (ReadsS wc (.slice ad n cp) l) := hr
      have HBW : Hid (Below w.heap.size w wc) := hbw
      clear h3 h8 h11 hr hbw
      by_cases hez : eb = 0
      case neg =>
        have k1 : (eb == 0) = false := by rw [beq_eq_false_iff_ne]; exact hez
        have k2 : (eb != 0) = true := by rw [bne, k1]; rfl
        obtain ⟨q1, q2⟩ := HCUT.out.1 hez
        have k3 : (ea == eb) = true := by rw [q2]; simp
        have k4 : ((na : Int) == (nb : Int)) = true := by rw [q1]; simp
        clear hez q1 q2
        have tk40 : Hid True := trivial
        go_wp2_with (first
          | (clear tk40; go_at_call 12; refine (HCW.out wc HBW.out).mono ?_; rintro e y41 ⟨rfl, hbz⟩
             replace HG3 : Hid (Blk y41 g3 (hdC h) 26) := HG3.out.below hbz HG3.out.lt
             replace HG8 : Hid (Blk y41 g8 (hdC ha) 26) := HG8.out.below hbz HG8.out.lt
             replace HG11 : Hid (Blk y41 g11 (hdC hb) 26) := HG11.out.below hbz HG11.out.lt
             replace HR : Hid (ReadsS y41 (.slice ad n cp) l) := HR.out.below hbz
             replace HBW : Hid (Below w.heap.size w y41) := HBW.out.trans (hbz.mono HBW.out.size)
             clear hbz ))
        go_ret
        first | exact ⟨rfl, HBW.out⟩ | exact ⟨trivial, HBW.out⟩
      case pos =>
        have k1 : (eb == 0) = true := by rw [beq_iff_eq]; exact hez
        have k2 : (eb != 0) = false := by rw [bne, k1]; rfl
        obtain ⟨q1, q2, q3⟩ := HCUT.out.2 hez
        have HQ1 : Hid (ha = hc) := q1
        have f4 : IntKind.i64.wrap ((kk : Int) + (nc : Int)) = (kk : Int) + (nc : Int) := by have := HKN.out; have := HL40.out; have := HNC2.out; rw [IntKind.wrap_i64]; omega
        have k3 : (ea == ec) = true := by rw [q3]; simp
        have k4 : ((na : Int) == (kk : Int) + (nc : Int)) = true := by rw [beq_iff_eq, q2]; omega
        clear hez q1 q2 q3
        go_wp2
        go_cut [14, 12, 13] from 56 to 64 (fun a b c W => ∃ g14, a = .pointer (some ⟨g14, 0, none⟩) ∧ b = .int .i64 (nc : Int) ∧ c = .int .i64 ec ∧ Blk W g3 (hdC h) 26 ∧ Blk W g8 (hdC ha) 26 ∧ ReadsS W (.slice ad n cp) l ∧ Below w.heap.size w W ∧ Blk W g14 (hdC hc) 26)
        case first =>
          refine wp_region_held_drew (S := Over (World.drew wc)) (by kernel_rfl) (Over.refl _) ?_
          intro hS
          replace HG3 : Hid (Blk (World.drew wc) g3 (hdC h) 26) := HG3.out.drew
          replace HG8 : Hid (Blk (World.drew wc) g8 (hdC ha) 26) := HG8.out.drew
          replace HG11 : Hid (Blk (World.drew wc) g11 (hdC hb) 26) := HG11.out.drew
          replace HR : Hid (ReadsS (World.drew wc) (.slice ad n cp) l) := HR.out.below (Below.refl _ _).drew
          replace HBW : Hid (Below w.heap.size w (World.drew wc)) := HBW.out.drew
          change wpAnyH _ _ _ _ _ _ _ _ (World.drew wc)
          generalize World.drew wc = y0 at *
          try simp only [Act.put, List.setIfInBounds_toArray, List.set_cons_zero, List.set_cons_succ]
          refine wpAnyH_take (i := 0) (v := .agg (hdC hb).toArray) rfl (by kernel_rfl) (by kernel_rfl) (by kernel_rfl) (fun _ _ _ h => h) (Or.inl ⟨by rfl, fun wx hx => by exact loadHdAt _ g11 0 hb ((HG11.out.below hx HG11.out.lt).hdAt HOB.out) rfl rfl⟩) hS ?_
          simp only [Act.put, List.getElem_toArray, List.getElem_cons_zero, List.setIfInBounds_toArray, List.set_cons_zero, List.set_cons_succ]
          refine wpAnyH_take (i := 1) (v := .slice ad n cp) rfl (by kernel_rfl) (by kernel_rfl) (by kernel_rfl) (fun _ _ _ h => h) (Or.inl ⟨by rfl, fun wx hx => by simp [go_sem]⟩) hS ?_
          simp only [Act.put, List.getElem_toArray, List.getElem_cons_succ, List.getElem_cons_zero, List.setIfInBounds_toArray, List.set_cons_zero, List.set_cons_succ]
          refine wpAnyH_take (i := 2) (v := .int .i64 (kk : Int)) rfl (by kernel_rfl) (by kernel_rfl) (by kernel_rfl) (fun _ _ _ h => h) (Or.inl ⟨by rfl, fun wx hx => by simp [go_sem]⟩) hS ?_
          simp only [Act.put, List.getElem_toArray, List.getElem_cons_succ, List.getElem_cons_zero, List.setIfInBounds_toArray, List.set_cons_zero, List.set_cons_succ]
          refine wpAnyH_take (i := 3) (v := .slice (dropA ad kk cp) (n - kk) (cp - kk)) rfl (by kernel_rfl) (by kernel_rfl) (by kernel_rfl) (fun _ _ _ h => h) (Or.inl ⟨by rfl, fun wx hx => by exact dropS_op _ _ _ _ rfl ad n cp kk rfl rfl HKN.out _⟩) hS ?_
          simp only [Act.put, List.getElem_toArray, List.getElem_cons_succ, List.getElem_cons_zero, List.setIfInBounds_toArray, List.set_cons_zero, List.set_cons_succ]
          refine wpAnyH_pair 4 9 (by kernel_rfl) ?_ ?_
          · refine wpOp_en 4 (by rfl) (by rfl) (f := 17) (args := #[.agg (hdC hb).toArray, .slice (dropA ad kk cp) (n - kk) (cp - kk)]) (by simp [go_sem]) (HC3.out _ (HBW.out.trans (Below.mono hS HBW.out.size)) (HR.out.below hS)) ?_
            rintro e z1 ⟨rfl, hb⟩
            replace hS := Over.more hS hb
            refine ⟨_, rfl, hS, ?_⟩
            clear hb
            simp only [Act.put, List.getElem_toArray, List.getElem_cons_succ, List.getElem_cons_zero, List.setIfInBounds_toArray, List.set_cons_zero, List.set_cons_succ]
            refine wpAnyH_take (i := 5) (v := .tuple #[.agg (hdC hc).toArray, .int .i64 (nc : Int), .int .i64 ec]) rfl (by kernel_rfl) (by kernel_rfl) (by kernel_rfl) (fun _ _ _ h => h) (Or.inl ⟨by rfl, fun wx hx => by simp [go_sem]⟩) hS ?_
            simp only [Act.put, List.getElem_toArray, List.getElem_cons_succ, List.getElem_cons_zero, List.setIfInBounds_toArray, List.set_cons_zero, List.set_cons_succ]
            refine wpAnyH_take (i := 6) (v := .agg (hdC hc).toArray) rfl (by kernel_rfl) (by kernel_rfl) (by kernel_rfl) (fun _ _ _ h => h) (Or.inl ⟨by rfl, fun wx hx => by simp [go_sem]⟩) hS ?_
            simp only [Act.put, List.getElem_toArray, List.getElem_cons_succ, List.getElem_cons_zero, List.setIfInBounds_toArray, List.set_cons_zero, List.set_cons_succ]
            refine wpAnyH_take (i := 7) (v := .int .i64 (nc : Int)) rfl (by kernel_rfl) (by kernel_rfl) (by kernel_rfl) (fun _ _ _ h => h) (Or.inl ⟨by rfl, fun wx hx => by simp [go_sem]⟩) hS ?_
            simp only [Act.put, List.getElem_toArray, List.getElem_cons_succ, List.getElem_cons_zero, List.setIfInBounds_toArray, List.set_cons_zero, List.set_cons_succ]
            refine wpAnyH_take (i := 8) (v := .int .i64 ec) rfl (by kernel_rfl) (by kernel_rfl) (by kernel_rfl) (fun _ _ _ h => h) (Or.inl ⟨by rfl, fun wx hx => by simp [go_sem]⟩) hS ?_
            simp only [Act.put, List.getElem_toArray, List.getElem_cons_succ, List.getElem_cons_zero, List.setIfInBounds_toArray, List.set_cons_zero, List.set_cons_succ]
            have hb := below_alloc z1 (.cells (hdC zeroH).toArray 26)
            have hba : Blk (z1.alloc (.cells (hdC zeroH).toArray 26)) z1.heap.size (hdC zeroH) 26 := Blk.new _ _ _
            have hsz : y0.heap.size ≤ z1.heap.size := Below.size hS
            replace hS := Over.more hS hb
            refine wpAnyH_step 9 (.pointer (some ⟨z1.heap.size, 0, none⟩)) (z1.alloc (.cells (hdC zeroH).toArray 26)) (by kernel_rfl) rfl (by rfl) (alloc_hd _ _ rfl _) hS ?_
            simp only [Act.put, List.getElem_toArray, List.getElem_cons_succ, List.getElem_cons_zero, List.setIfInBounds_toArray, List.set_cons_zero, List.set_cons_succ]
            clear hb
            generalize z1.alloc (.cells (hdC zeroH).toArray 26) = z2 at *
            obtain ⟨ga, HGA⟩ : ∃ z, Hid (z = z1.heap.size) := ⟨_, rfl⟩
            have hgw : y0.heap.size ≤ ga := by rw [HGA.out]; exact hsz
            rw [← HGA.out] at hba ⊢
            clear HGA hsz
            refine wpAnyH_storeRow 10 26 (.tmp 14) (.tmp 62) ga (hdC zeroH) (hdC hc) hba (by rw [len_hdC HOC.out, len_hdC okH_zero]) (info_hdC HOC.out) (hdC_one _) (by kernel_rfl) rfl (by rfl) rfl rfl rfl ?_
            intro yE hs
            replace hS : Over y0 yE := Below.trans hS (hs.only.below hgw (Below.size hS))
            refine ⟨hS, ?_⟩
            simp only [Act.put, List.getElem_toArray, List.getElem_cons_succ, List.getElem_cons_zero]
            refine wpAnyH_take (i := 11) (v := .int .i64 (nc : Int)) rfl (by kernel_rfl) (by kernel_rfl) (by kernel_rfl) (fun _ _ _ h => h) (Or.inl ⟨by rfl, fun wx hx => by simp [go_sem]⟩) hS ?_
            simp only [Act.put, List.getElem_toArray, List.getElem_cons_succ, List.getElem_cons_zero, List.setIfInBounds_toArray, List.set_cons_zero, List.set_cons_succ]
            refine wpAnyH_take (i := 12) (v := .int .i64 ec) rfl (by kernel_rfl) (by kernel_rfl) (by kernel_rfl) (fun _ _ _ h => h) (Or.inl ⟨by rfl, fun wx hx => by simp [go_sem]⟩) hS ?_
            simp only [Act.put, List.getElem_toArray, List.getElem_cons_succ, List.getElem_cons_zero, List.setIfInBounds_toArray, List.set_cons_zero, List.set_cons_succ]
            refine wpAnyH_done (by kernel_rfl) ?_ _
            go_wp2
            go_meet
            case rel => exact ⟨ga, rfl, rfl, rfl, HG3.out.below hS HG3.out.lt, HG8.out.below hS HG8.out.lt, HR.out.below hS, HBW.out.trans (Below.mono hS HBW.out.size), hs.blk⟩
          · have hb := below_alloc y0 (.cells (hdC zeroH).toArray 26)
            have hba : Blk (y0.alloc (.cells (hdC zeroH).toArray 26)) y0.heap.size (hdC zeroH) 26 := Blk.new _ _ _
            have hsz : y0.heap.size ≤ y0.heap.size := Below.size hS
            replace hS := Over.more hS hb
            refine wpOp_vl 9 (.pointer (some ⟨y0.heap.size, 0, none⟩)) (y0.alloc (.cells (hdC zeroH).toArray 26)) (by rfl) (by rfl) (alloc_hd _ _ rfl _) ⟨hS, ?_⟩
            simp only [Act.put, List.getElem_toArray, List.getElem_cons_succ, List.getElem_cons_zero, List.setIfInBounds_toArray, List.set_cons_zero, List.set_cons_succ]
            clear hb
            generalize y0.alloc (.cells (hdC zeroH).toArray 26) = z1 at *
            obtain ⟨ga, HGA⟩ : ∃ z, Hid (z = y0.heap.size) := ⟨_, rfl⟩
            have hgw : y0.heap.size ≤ ga := by rw [HGA.out]; exact hsz
            rw [← HGA.out] at hba ⊢
            clear HGA hsz
            refine wpAnyH_enter 4 (by kernel_rfl) rfl (by rfl) (f := 17) (args := #[.agg (hdC hb).toArray, .slice (dropA ad kk cp) (n - kk) (cp - kk)]) (by simp [go_sem]) (HC3.out _ (HBW.out.trans (Below.mono hS HBW.out.size)) (HR.out.below hS)) ?_
            rintro e z2 ⟨rfl, hb⟩
            replace hS := Over.more hS hb
            replace hba := hba.below hb hba.lt
            refine ⟨_, rfl, hS, ?_⟩
            clear hb
            simp only [Act.put, List.getElem_toArray, List.getElem_cons_succ, List.getElem_cons_zero, List.setIfInBounds_toArray, List.set_cons_zero, List.set_cons_succ]
            refine wpAnyH_take (i := 5) (v := .tuple #[.agg (hdC hc).toArray, .int .i64 (nc : Int), .int .i64 ec]) rfl (by kernel_rfl) (by kernel_rfl) (by kernel_rfl) (fun _ _ _ h => h) (Or.inl ⟨by rfl, fun wx hx => by simp [go_sem]⟩) hS ?_
            simp only [Act.put, List.getElem_toArray, List.getElem_cons_succ, List.getElem_cons_zero, List.setIfInBounds_toArray, List.set_cons_zero, List.set_cons_succ]
            refine wpAnyH_take (i := 6) (v := .agg (hdC hc).toArray) rfl (by kernel_rfl) (by kernel_rfl) (by kernel_rfl) (fun _ _ _ h => h) (Or.inl ⟨by rfl, fun wx hx => by simp [go_sem]⟩) hS ?_
            simp only [Act.put, List.getElem_toArray, List.getElem_cons_succ, List.getElem_cons_zero, List.setIfInBounds_toArray, List.set_cons_zero, List.set_cons_succ]
            refine wpAnyH_take (i := 7) (v := .int .i64 (nc : Int)) rfl (by kernel_rfl) (by kernel_rfl) (by kernel_rfl) (fun _ _ _ h => h) (Or.inl ⟨by rfl, fun wx hx => by simp [go_sem]⟩) hS ?_
            simp only [Act.put, List.getElem_toArray, List.getElem_cons_succ, List.getElem_cons_zero, List.setIfInBounds_toArray, List.set_cons_zero, List.set_cons_succ]
            refine wpAnyH_take (i := 8) (v := .int .i64 ec) rfl (by kernel_rfl) (by kernel_rfl) (by kernel_rfl) (fun _ _ _ h => h) (Or.inl ⟨by rfl, fun wx hx => by simp [go_sem]⟩) hS ?_
            simp only [Act.put, List.getElem_toArray, List.getElem_cons_succ, List.getElem_cons_zero, List.setIfInBounds_toArray, List.set_cons_zero, List.set_cons_succ]
            refine wpAnyH_storeRow 10 26 (.tmp 14) (.tmp 62) ga (hdC zeroH) (hdC hc) hba (by rw [len_hdC HOC.out, len_hdC okH_zero]) (info_hdC HOC.out) (hdC_one _) (by kernel_rfl) rfl (by rfl) rfl rfl rfl ?_
            intro yE hs
            replace hS : Over y0 yE := Below.trans hS (hs.only.below hgw (Below.size hS))
            refine ⟨hS, ?_⟩
            simp only [Act.put, List.getElem_toArray, List.getElem_cons_succ, List.getElem_cons_zero]
            refine wpAnyH_take (i := 11) (v := .int .i64 (nc : Int)) rfl (by kernel_rfl) (by kernel_rfl) (by kernel_rfl) (fun _ _ _ h => h) (Or.inl ⟨by rfl, fun wx hx => by simp [go_sem]⟩) hS ?_
            simp only [Act.put, List.getElem_toArray, List.getElem_cons_succ, List.getElem_cons_zero, List.setIfInBounds_toArray, List.set_cons_zero, List.set_cons_succ]
            refine wpAnyH_take (i := 12) (v := .int .i64 ec) rfl (by kernel_rfl) (by kernel_rfl) (by kernel_rfl) (fun _ _ _ h => h) (Or.inl ⟨by rfl, fun wx hx => by simp [go_sem]⟩) hS ?_
            simp only [Act.put, List.getElem_toArray, List.getElem_cons_succ, List.getElem_cons_zero, List.setIfInBounds_toArray, List.set_cons_zero, List.set_cons_succ]
            refine wpAnyH_done (by kernel_rfl) ?_ _
            go_wp2
            go_meet
            case rel => exact ⟨ga, rfl, rfl, rfl, HG3.out.below hS HG3.out.lt, HG8.out.below hS HG8.out.lt, HR.out.below hS, HBW.out.trans (Below.mono hS HBW.out.size), hs.blk⟩
        case rest =>
          obtain ⟨g14, rfl, rfl, rfl, h3, h8, hr, hbw, h14⟩ := hcut
          clear HG3 HG8 HR HBW HG11
          have HG3 : Hid (Blk wc g3 (hdC h) 26) := h3
          have HG8 : Hid (Blk wc g8 (hdC ha) 26) := h8
          have HG14 : Hid (Blk wc g14 (hdC hc) 26) := h14
          have HR : Hid (ReadsS wc (.slice ad n cp) l) := hr
          have HBW : Hid (Below w.heap.size w wc) := hbw
          clear h3 h8 h14 hr hbw
          have tk60 : Hid True := trivial
          have tk61 : Hid True := trivial
          have tk62 : Hid True := trivial
          have tk63 : Hid True := trivial
          go_wp2_with (first
            | (clear tk60; with_reducible refine wpSeq_loadW 26 (.tmp 8) g8 0 (hdC ha) _ ?_ Tryd.underlying26 rfl ?_ ?_ ?_ ?_ ?_
               · exact HG8.out.range
               · exact info_hdC HOA.out
               · rfl
               · rfl
               · rfl)
            | (clear tk61; with_reducible refine wpSeq_loadW 26 (.tmp 14) g14 0 (hdC hc) _ ?_ Tryd.underlying26 rfl ?_ ?_ ?_ ?_ ?_
               · exact HG14.out.range
               · exact info_hdC HOC.out
               · rfl
               · rfl
               · rfl)
            | (clear tk62; with_reducible refine wpSeq_eqH (.tmp 65) (.tmp 66) ha hc HOA.out HOC.out true ?_ ?_ ?_ ?_ ?_ ?_
               · exact (decide_eq_true HQ1.out).symm
               · rfl
               · rfl
               · rfl
               · rfl)
            | (clear tk63; go_at_call 12; refine (HCW.out wc HBW.out).mono ?_; rintro e y61 ⟨rfl, hbz⟩
               replace HG3 : Hid (Blk y61 g3 (hdC h) 26) := HG3.out.below hbz HG3.out.lt
               replace HG8 : Hid (Blk y61 g8 (hdC ha) 26) := HG8.out.below hbz HG8.out.lt
               replace HG14 : Hid (Blk y61 g14 (hdC hc) 26) := HG14.out.below hbz HG14.out.lt
               replace HR : Hid (ReadsS y61 (.slice ad n cp) l) := HR.out.below hbz
               replace HBW : Hid (Below w.heap.size w y61) := HBW.out.trans (hbz.mono HBW.out.size)
               clear hbz ))
          go_ret
          first | exact ⟨rfl, HBW.out⟩ | exact ⟨trivial, HBW.out⟩
end Go.Proofs.YtfbdnhadcnmfoaaDoor
/- ChainSeals, over what chain's functions do (layer 11). -/
namespace Go.Proofs.YtfbdnhadcnmfoaaDoor
open Go.RowKit Go.Shelf
set_option maxRecDepth 100000
theorem eq_rt (s t : SgT) (os : okS s) (ot : okS t) (w : World) : (Op.equalIn 10000 28 (.agg (rtC s).toArray) (.agg (rtC t).toArray)).run Tryd.prog w = .ok (decide (s.1 = t.1)) w := by
  have h := eq_root s.1.1 t.1.1 s.1.2.1 s.1.2.2.1 s.1.2.2.2 t.1.2.1 t.1.2.2.1 t.1.2.2.2 os.1 os.2.1 os.2.2.1 ot.1 ot.2.1 ot.2.2.1 w
  have e : decide (s.1 = t.1) = decide (s.1.1 = t.1.1 ∧ s.1.2.1 = t.1.2.1 ∧ s.1.2.2.1 = t.1.2.2.1 ∧ s.1.2.2.2 = t.1.2.2.2) := by
    obtain ⟨⟨n, x, y, z⟩, g⟩ := s
    obtain ⟨⟨m, a, b, c⟩, g'⟩ := t
    simp
  rw [e]
  exact h
theorem wpSeq_eqR {ops : Array Oper} {Q : Exit → Act → World → Prop} {rest : List Oper} {o : Oper} {a : Act} {w : World} (x y : Operand) (s t : SgT) (os : okS s) (ot : okS t) (b : Bool) (hb : b = decide (s.1 = t.1)) (ho : o.op = .binOp .eql 28 x y 28) (hx : a.eval x = .agg (rtC s).toArray) (hy : a.eval y = .agg (rtC t).toArray) (hw : Region.wanted o (yielded ops a.tmps) = true)
    (hh : wpList Tryd.prog ops Q rest (a.put o.dst (.bool b)) w) : wpList Tryd.prog ops Q (o :: rest) a w := by
  refine wpSeq_val _ _ hw ?_ hh
  have he := eq_rt s t os ot w
  have hg := run_eqGuard_agg (P := Tryd.prog) (w := w) .eql 28 x y (rtC s).toArray (rtC t).toArray (by kernel_rfl)
  unfold execOp
  rw [ho]
  simp only [hx, hy, Sem.run_bind, hg, run_eql_struct, he, Result.andThen_ok, hb, Sem.run_pure]
set_option maxRecDepth 100000 in
set_option maxHeartbeats 8000000 in
theorem sameS_any (s : SgT) (va vb : Value) (w : World) (os : okS s) (ha : Reads w va s.2) (hb : Reads w vb s.2) :
    Calls Tryd.prog 11 #[.agg (sgC s va).toArray, .agg (sgC s vb).toArray] w fun e w' => e = .returned (.bool true) ∧ Below w.heap.size w w' := by
  obtain ⟨aa, na, ca, hva⟩ := ha.form
  obtain ⟨ab, nb, cbb, hvb⟩ := hb.form
  subst hva hvb
  have HRA : Hid (Reads w (.slice aa na ca) s.2) := ha
  have HRB : Hid (Reads w (.slice ab nb cbb) s.2) := hb
  have HOS : Hid (okS s) := os
  have HBW : Hid (Below w.heap.size w w) := Below.refl _ _
  clear ha hb os
  go_enter Tryd.func11, Tryd.ntmps11
  have tk0 : Hid True := trivial
  have tk1 : Hid True := trivial
  have tk2 : Hid True := trivial
  have tk3 : Hid True := trivial
  have tk4 : Hid True := trivial
  go_wp2_with (first
    | (clear tk0; with_reducible refine wpSeq_boxW 31 (.tmp 0) (sgC s (.slice aa na ca)) ?_ ?_ ?_ ?_
       · rfl
       · rfl
       · rfl
       intro g2 y1 nn
       replace HRA : Hid (Reads y1 (.slice aa na ca) s.2) := HRA.out.below nn.below
       replace HRB : Hid (Reads y1 (.slice ab nb cbb) s.2) := HRB.out.below nn.below
       replace HBW : Hid (Below w.heap.size w y1) := HBW.out.trans (nn.below.mono HBW.out.size)
       have HG2 : Hid (Blk y1 g2 (sgC s (.slice aa na ca)) 31) := nn.blk
       clear nn)
    | (clear tk1; with_reducible refine wpSeq_boxW 31 (.tmp 1) (sgC s (.slice ab nb cbb)) ?_ ?_ ?_ ?_
       · rfl
       · rfl
       · rfl
       intro g3 y2 nn
       replace HG2 : Hid (Blk y2 g2 (sgC s (.slice aa na ca)) 31) := HG2.out.below nn.below HG2.out.lt
       replace HRA : Hid (Reads y2 (.slice aa na ca) s.2) := HRA.out.below nn.below
       replace HRB : Hid (Reads y2 (.slice ab nb cbb) s.2) := HRB.out.below nn.below
       replace HBW : Hid (Below w.heap.size w y2) := HBW.out.trans (nn.below.mono HBW.out.size)
       have HG3 : Hid (Blk y2 g3 (sgC s (.slice ab nb cbb)) 31) := nn.blk
       have c2 : y2.cell? ⟨g2, 97, none⟩ = some (.slice aa na ca) := by have := (HG2.out.sgAt HOS.out).sig; rwa [Nat.zero_add] at this
       have c3 : y2.cell? ⟨g3, 97, none⟩ = some (.slice ab nb cbb) := by have := (HG3.out.sgAt HOS.out).sig; rwa [Nat.zero_add] at this
       have v2 := conv_reads HRA.out
       have v3 := conv_reads HRB.out
       have q2 := strB_inj s.2 s.2
       rw [decide_eq_true rfl] at q2
       clear nn)
    | (clear tk2; with_reducible refine wpSeq_loadW 28 (.tmp 5) g2 0 (rtC s) _ ?_ Tryd.underlying28 rfl ?_ ?_ ?_ ?_ ?_
       · exact (HG2.out.sgAt HOS.out).root
       · exact info_rtC HOS.out
       · rfl
       · rfl
       · rfl)
    | (clear tk3; with_reducible refine wpSeq_loadW 28 (.tmp 7) g3 0 (rtC s) _ ?_ Tryd.underlying28 rfl ?_ ?_ ?_ ?_ ?_
       · exact (HG3.out.sgAt HOS.out).root
       · exact info_rtC HOS.out
       · rfl
       · rfl
       · rfl)
    | (clear tk4; with_reducible refine wpSeq_eqR (.tmp 6) (.tmp 8) s s HOS.out HOS.out true ?_ ?_ ?_ ?_ ?_ ?_
       · exact (decide_eq_true rfl).symm
       · rfl
       · rfl
       · rfl
       · rfl))
  go_ret
  first | exact ⟨rfl, HBW.out⟩ | exact ⟨trivial, HBW.out⟩
theorem hdC_key (n : Nat) (r k : List (BitVec 8)) : hdC (n, r, k) = (Value.int .u64 (n : Int) :: cb r) ++ (cb k ++ []) := by simp [hdC]
theorem wpSeq_storeKey {ops : Array Oper} {Q : Exit → Act → World → Prop} {rest : List Oper} {o : Oper} {a : Act} {w : World} (x y : Operand) (g n : Nat) (r k l : List (BitVec 8)) (hb : Blk w g (hdC (n, r, k)) 26) (hr : r.length = 32) (hk : k.length = 32) (hl : l.length = 32) (ho : o.op = .store 23 x y) (hx : a.eval x = .pointer (some ⟨g, 33, none⟩)) (hy : a.eval y = .agg (cb l).toArray) (hgd : o.guard = none)
    (h : ∀ w', SetR (hdC (n, r, l)) 26 w g w' → wpList Tryd.prog ops Q rest (a.put o.dst undef) w') : wpList Tryd.prog ops Q (o :: rest) a w := by
  rw [hdC_key] at hb h
  exact wpSeq_storeSeg x y g 33 _ (cb k) [] l 26 hb (by rw [List.length_cons, cb_len, hr]) (by rw [cb_len, hk]) hl ho hx hy hgd h
theorem build_zd (f : Operand → Value) (o : Oper) (ho : o.op = .build 23 #[]) (w : World) : (execOp f o).run Tryd.prog w = .ok (.value (.agg (cb zb32).toArray)) w := by
  unfold execOp
  rw [ho]
  kernel_rfl
theorem wpSeq_buildZD {ops : Array Oper} {Q : Exit → Act → World → Prop} {rest : List Oper} {o : Oper} {a : Act} {w : World} (ho : o.op = .build 23 #[]) (hw : Region.wanted o (yielded ops a.tmps) = true)
    (h : wpList Tryd.prog ops Q rest (a.put o.dst (.agg (cb zb32).toArray)) w) : wpList Tryd.prog ops Q (o :: rest) a w :=
  wpSeq_val _ _ hw (build_zd _ _ ho _) h
theorem Reads.apartB {w w' : World} {ad : Option Addr} {n c g : Nat} {l : List (BitVec 8)} (h : Reads w (.slice ad n c) l) (ho : Only g w w') (hne : ∀ k, (Value.slice ad n c).ownBlock = some k → k ≠ g) : Reads w' (.slice ad n c) l := by
  obtain ⟨ad', c', hv, hc, hn, hx⟩ := h
  refine ⟨ad', c', hv, hc, hn, fun hp => ?_⟩
  obtain ⟨b, off, rfl, hy⟩ := hx hp
  simp only [Value.slice.injEq] at hv
  obtain ⟨rfl, _⟩ := hv
  exact ⟨b, off, rfl, fun j hj => ho.cell (p := ⟨b, off + j, none⟩) (hne b rfl) (hy j hj)⟩
set_option maxRecDepth 100000 in
set_option maxHeartbeats 8000000 in
theorem chainSeals_law (hO : ChOps) (seed tree : List (BitVec 8)) (h : HdT) (w : World) (hK : KOk w) (hs : seed.length = 32) (oh : okH h) (ht : tree.length = 32) :
    Calls Tryd.prog 3 #[.agg (cb seed).toArray, .agg (hdC h).toArray, .agg (cb tree).toArray] w fun e w' => e = .returned (.bool true) ∧ Below w.heap.size w w' := by
  obtain ⟨n, rt, ky⟩ := h
  have HCW : Hid (∀ W : World, Below w.heap.size w W → Calls Tryd.prog 12 #[] W fun e w' => e = .returned (.bool true) ∧ Below W.heap.size W w') := fun W hh => works11_any hO W (hK.below hh hK.lt)
  have HOH : Hid (okH (n, rt, ky)) := oh
  have HID : Hid ((Tryd.prog.info? 23).map (·.size) = some (cb seed).length ∧ (Tryd.prog.info? 23).map (·.size) = some (cb tree).length) := by rw [cb_len, hs, cb_len, ht]; exact ⟨info_digest, info_digest⟩
  obtain ⟨s, HS⟩ : ∃ c, Hid (c = (sealR seed (n, rt, ky) tree).1) := ⟨_, rfl⟩
  obtain ⟨es, HES⟩ : ∃ c, Hid (c = (sealR seed (n, rt, ky) tree).2) := ⟨_, rfl⟩
  have HOS : Hid (okS s) := by rw [HS.out]; exact seal_okS seed _ tree oh ht
  have HC1 : Hid (∀ W : World, Below w.heap.size w W → Calls Tryd.prog 9 #[.agg (cb seed).toArray, .agg (hdC (n, rt, ky)).toArray, .agg (cb tree).toArray] W fun e w' => ∃ ad m c, e = .returned (.tuple #[.agg (sgC s (.slice ad m c)).toArray, .int .i64 es]) ∧ Reads w' (.slice ad m c) s.2 ∧ (∀ k, (Value.slice ad m c).ownBlock = some k → W.heap.size ≤ k) ∧ Below W.heap.size W w') := fun W hh => by rw [HS.out, HES.out]; exact hO.seals W seed tree _ (hK.below hh hK.lt) hs oh ht
  have HC2 : Hid (∀ W : World, Below w.heap.size w W → Calls Tryd.prog 10 #[.agg (cb seed).toArray, .agg (hdC (n, rt, ky)).toArray, .agg (cb tree).toArray] W fun e w' => ∃ ad m c, e = .returned (.tuple #[.agg (sgC s (.slice ad m c)).toArray, .int .i64 es]) ∧ Reads w' (.slice ad m c) s.2 ∧ (∀ k, (Value.slice ad m c).ownBlock = some k → W.heap.size ≤ k) ∧ Below W.heap.size W w') := fun W hh => by rw [HS.out, HES.out]; exact qcSeal_fresh seed tree _ W hs oh ht
  obtain ⟨pk, HPK⟩ : ∃ c, Hid (c = pubR seed 1) := ⟨_, rfl⟩
  have HPL : Hid (pk.length = 32) := by show _ = _; rw [HPK.out]; exact len_pubR _ _
  have HC5 : Hid (∀ W : World, Below w.heap.size w W → Calls Tryd.prog 13 #[.agg (cb seed).toArray] W fun e w' => e = .returned (.agg (cb pk).toArray) ∧ Below W.heap.size W w') := fun W hh => by rw [HPK.out]; exact hO.pin W seed (hK.below hh hK.lt) hs
  have HBW : Hid (Below w.heap.size w w) := Below.refl _ _
  have HOP : Hid ChOps := hO
  have HKK : Hid (KOk w) := hK
  clear hO hK oh hs ht
  by_cases h64 : 64 ≤ n
  · have HE : Hid (es = 12) := by show _ = _; rw [HES.out, sealR, if_pos h64]
    have k1 : (es == 0) = false := by rw [HE.out]; rfl
    have k2 : (es != 0) = true := by rw [bne, k1]; rfl
    have k3 : (es == es) = true := by simp
    have k4 : (es != es) = false := by rw [bne, k3]; rfl
    clear HE h64
    go_enter Tryd.func3, Tryd.ntmps3
    have tk0 : Hid True := trivial
    have tk1 : Hid True := trivial
    have tk2 : Hid True := trivial
    have tk3 : Hid True := trivial
    have tk4 : Hid True := trivial
    have tk5 : Hid True := trivial
    have tk6 : Hid True := trivial
    have tk7 : Hid True := trivial
    have tk8 : Hid True := trivial
    have tk9 : Hid True := trivial
    have tk10 : Hid True := trivial
    have tk11 : Hid True := trivial
    have tk12 : Hid True := trivial
    have tk13 : Hid True := trivial
    have tk14 : Hid True := trivial
    have tk15 : Hid True := trivial
    have tk16 : Hid True := trivial
    have tk17 : Hid True := trivial
    have tk18 : Hid True := trivial
    go_wp2_with (first
      | (clear tk0; with_reducible refine wpSeq_boxW 23 (.tmp 0) (cb seed) ?_ ?_ ?_ ?_
         · rfl
         · rfl
         · rfl
         intro g3 y1 nn
         replace HBW : Hid (Below w.heap.size w y1) := HBW.out.trans (nn.below.mono HBW.out.size)
         have HG3 : Hid (Blk y1 g3 (cb seed) 23) := nn.blk
         clear nn)
      | (clear tk1; with_reducible refine wpSeq_boxW 26 (.tmp 1) (hdC (n, rt, ky)) ?_ ?_ ?_ ?_
         · rfl
         · rfl
         · rfl
         intro g4 y2 nn
         have HGE4 : Hid (w.heap.size ≤ g4) := Nat.le_trans HBW.out.size nn.ge
         have HN3 : Hid (g3 < g4) := by have h1 := HG3.out.lt; have h2 := nn.ge; show _ < _; omega
         replace HG3 : Hid (Blk y2 g3 (cb seed) 23) := HG3.out.below nn.below HG3.out.lt
         replace HBW : Hid (Below w.heap.size w y2) := HBW.out.trans (nn.below.mono HBW.out.size)
         have HG4 : Hid (Blk y2 g4 (hdC (n, rt, ky)) 26) := nn.blk
         clear nn)
      | (clear tk2; with_reducible refine wpSeq_boxW 23 (.tmp 2) (cb tree) ?_ ?_ ?_ ?_
         · rfl
         · rfl
         · rfl
         intro g5 y3 nn
         have HLT : Hid (g4 < g5 ∧ w.heap.size ≤ g4) := ⟨by have h1 := HG4.out.lt; have h2 := nn.ge; omega, HGE4.out⟩
         replace HG3 : Hid (Blk y3 g3 (cb seed) 23) := HG3.out.below nn.below HG3.out.lt
         replace HG4 : Hid (Blk y3 g4 (hdC (n, rt, ky)) 26) := HG4.out.below nn.below HG4.out.lt
         replace HBW : Hid (Below w.heap.size w y3) := HBW.out.trans (nn.below.mono HBW.out.size)
         have HG5 : Hid (Blk y3 g5 (cb tree) 23) := nn.blk
         clear nn)
      | (clear tk3; with_reducible refine wpSeq_loadW 23 (.tmp 3) g3 0 (cb seed) _ ?_ Tryd.underlying23 rfl ?_ ?_ ?_ ?_ ?_
         · exact HG3.out.range
         · exact HID.out.1
         · rfl
         · rfl
         · rfl)
      | (clear tk4; with_reducible refine wpSeq_loadW 26 (.tmp 4) g4 0 (hdC (n, rt, ky)) _ ?_ Tryd.underlying26 rfl ?_ ?_ ?_ ?_ ?_
         · exact HG4.out.range
         · exact info_hdC HOH.out
         · rfl
         · rfl
         · rfl)
      | (clear tk5; with_reducible refine wpSeq_loadW 23 (.tmp 5) g5 0 (cb tree) _ ?_ Tryd.underlying23 rfl ?_ ?_ ?_ ?_ ?_
         · exact HG5.out.range
         · exact HID.out.2
         · rfl
         · rfl
         · rfl)
      | (clear tk6; go_at_call 9; refine (HC1.out y3 HBW.out).mono ?_; rintro e y4 ⟨a1, n1, c1, rfl, hrd, hfr, hbz⟩
         have HF1 : Hid (∀ k, (Value.slice a1 n1 c1).ownBlock = some k → k ≠ g4) := fun k hk => by have h1 := hfr k hk; have h2 := HG4.out.lt; omega
         clear hfr
         replace HG3 : Hid (Blk y4 g3 (cb seed) 23) := HG3.out.below hbz HG3.out.lt
         replace HG4 : Hid (Blk y4 g4 (hdC (n, rt, ky)) 26) := HG4.out.below hbz HG4.out.lt
         replace HG5 : Hid (Blk y4 g5 (cb tree) 23) := HG5.out.below hbz HG5.out.lt
         replace HBW : Hid (Below w.heap.size w y4) := HBW.out.trans (hbz.mono HBW.out.size)
         have HR1 : Hid (Reads y4 (.slice a1 n1 c1) s.2) := hrd
         clear hbz hrd)
      | (clear tk7; with_reducible refine wpSeq_allocS ?_ ?_ ?_
         · rfl
         · rfl
         intro g7 y5 nn
         have HN7 : Hid (g4 < g7) := by have h4 := HG4.out.lt; have h5 := nn.ge; show _ < _; omega)
      | (clear tk8; with_reducible refine wpSeq_storeRow 31 (.tmp 7) (.tmp 20) g7 (sgC zeroS (.slice none 0 0)) (sgC s (.slice a1 n1 c1)) ?_ ?_ ?_ ?_ ?_ ?_ ?_ ?_ ?_
         · exact nn.blk
         · first | (with_reducible rfl) | rw [len_sgC HOS.out, len_sgC okS_zero]
         · exact info_sgC HOS.out _
         · exact sgC_one _ _ _ _
         · rfl
         · rfl
         · rfl
         · rfl
         intro y6 hs
         have hbz := nn.below.trans (hs.only.below nn.ge nn.below.size)
         replace HG3 : Hid (Blk y6 g3 (cb seed) 23) := HG3.out.below hbz HG3.out.lt
         replace HG4 : Hid (Blk y6 g4 (hdC (n, rt, ky)) 26) := HG4.out.below hbz HG4.out.lt
         replace HG5 : Hid (Blk y6 g5 (cb tree) 23) := HG5.out.below hbz HG5.out.lt
         replace HR1 : Hid (Reads y6 (.slice a1 n1 c1) s.2) := HR1.out.below hbz
         replace HBW : Hid (Below w.heap.size w y6) := HBW.out.trans (hbz.mono HBW.out.size)
         have HG7 : Hid (Blk y6 g7 (sgC s (.slice a1 n1 c1)) 31) := hs.blk
         clear nn hs hbz)
      | (clear tk9; with_reducible refine wpSeq_loadW 23 (.tmp 3) g3 0 (cb seed) _ ?_ Tryd.underlying23 rfl ?_ ?_ ?_ ?_ ?_
         · exact HG3.out.range
         · exact HID.out.1
         · rfl
         · rfl
         · rfl)
      | (clear tk10; with_reducible refine wpSeq_loadW 26 (.tmp 4) g4 0 (hdC (n, rt, ky)) _ ?_ Tryd.underlying26 rfl ?_ ?_ ?_ ?_ ?_
         · exact HG4.out.range
         · exact info_hdC HOH.out
         · rfl
         · rfl
         · rfl)
      | (clear tk11; with_reducible refine wpSeq_loadW 23 (.tmp 5) g5 0 (cb tree) _ ?_ Tryd.underlying23 rfl ?_ ?_ ?_ ?_ ?_
         · exact HG5.out.range
         · exact HID.out.2
         · rfl
         · rfl
         · rfl)
      | (clear tk12; go_at_call 10; refine (HC2.out y6 HBW.out).mono ?_; rintro e y7 ⟨a2, n2, c2, rfl, hrd, hfr, hbz⟩
         have HF2 : Hid (∀ k, (Value.slice a2 n2 c2).ownBlock = some k → k ≠ g4) := fun k hk => by have h1 := hfr k hk; have h2 := HG4.out.lt; omega
         clear hfr
         replace HG3 : Hid (Blk y7 g3 (cb seed) 23) := HG3.out.below hbz HG3.out.lt
         replace HG4 : Hid (Blk y7 g4 (hdC (n, rt, ky)) 26) := HG4.out.below hbz HG4.out.lt
         replace HG5 : Hid (Blk y7 g5 (cb tree) 23) := HG5.out.below hbz HG5.out.lt
         replace HG7 : Hid (Blk y7 g7 (sgC s (.slice a1 n1 c1)) 31) := HG7.out.below hbz HG7.out.lt
         replace HR1 : Hid (Reads y7 (.slice a1 n1 c1) s.2) := HR1.out.below hbz
         replace HBW : Hid (Below w.heap.size w y7) := HBW.out.trans (hbz.mono HBW.out.size)
         have HR2 : Hid (Reads y7 (.slice a2 n2 c2) s.2) := hrd
         clear hbz hrd)
      | (clear tk13; with_reducible refine wpSeq_allocS ?_ ?_ ?_
         · rfl
         · rfl
         intro g9 y8 nn
         have HN4 : Hid (g3 < g4 ∧ g4 < g5 ∧ g4 < g7 ∧ g4 < g9) := by have h1 := HN3.out; have h2 := HLT.out.1; have h3 := HN7.out; have h4 := HG4.out.lt; have h5 := nn.ge; exact ⟨by omega, by omega, by omega, by omega⟩)
      | (clear tk14; with_reducible refine wpSeq_storeRow 31 (.tmp 9) (.tmp 27) g9 (sgC zeroS (.slice none 0 0)) (sgC s (.slice a2 n2 c2)) ?_ ?_ ?_ ?_ ?_ ?_ ?_ ?_ ?_
         · exact nn.blk
         · first | (with_reducible rfl) | rw [len_sgC HOS.out, len_sgC okS_zero]
         · exact info_sgC HOS.out _
         · exact sgC_one _ _ _ _
         · rfl
         · rfl
         · rfl
         · rfl
         intro y9 hs
         have hbz := nn.below.trans (hs.only.below nn.ge nn.below.size)
         replace HG3 : Hid (Blk y9 g3 (cb seed) 23) := HG3.out.below hbz HG3.out.lt
         replace HG4 : Hid (Blk y9 g4 (hdC (n, rt, ky)) 26) := HG4.out.below hbz HG4.out.lt
         replace HG5 : Hid (Blk y9 g5 (cb tree) 23) := HG5.out.below hbz HG5.out.lt
         replace HG7 : Hid (Blk y9 g7 (sgC s (.slice a1 n1 c1)) 31) := HG7.out.below hbz HG7.out.lt
         replace HR1 : Hid (Reads y9 (.slice a1 n1 c1) s.2) := HR1.out.below hbz
         replace HR2 : Hid (Reads y9 (.slice a2 n2 c2) s.2) := HR2.out.below hbz
         replace HBW : Hid (Below w.heap.size w y9) := HBW.out.trans (hbz.mono HBW.out.size)
         have HG9 : Hid (Blk y9 g9 (sgC s (.slice a2 n2 c2)) 31) := hs.blk
         clear nn hs hbz)
      | (clear tk15; with_reducible refine wpSeq_loadW 31 (.tmp 7) g7 0 (sgC s (.slice a1 n1 c1)) _ ?_ Tryd.underlying31 rfl ?_ ?_ ?_ ?_ ?_
         · exact HG7.out.range
         · exact info_sgC HOS.out _
         · rfl
         · rfl
         · rfl)
      | (clear tk16; with_reducible refine wpSeq_loadW 31 (.tmp 9) g9 0 (sgC s (.slice a2 n2 c2)) _ ?_ Tryd.underlying31 rfl ?_ ?_ ?_ ?_ ?_
         · exact HG9.out.range
         · exact info_sgC HOS.out _
         · rfl
         · rfl
         · rfl)
      | (clear tk17; go_at_call 11; refine (sameS_any s _ _ y9 HOS.out HR1.out HR2.out).mono ?_; rintro e y10 ⟨rfl, hbz⟩
         replace HG3 : Hid (Blk y10 g3 (cb seed) 23) := HG3.out.below hbz HG3.out.lt
         replace HG4 : Hid (Blk y10 g4 (hdC (n, rt, ky)) 26) := HG4.out.below hbz HG4.out.lt
         replace HG5 : Hid (Blk y10 g5 (cb tree) 23) := HG5.out.below hbz HG5.out.lt
         replace HG7 : Hid (Blk y10 g7 (sgC s (.slice a1 n1 c1)) 31) := HG7.out.below hbz HG7.out.lt
         replace HG9 : Hid (Blk y10 g9 (sgC s (.slice a2 n2 c2)) 31) := HG9.out.below hbz HG9.out.lt
         replace HR1 : Hid (Reads y10 (.slice a1 n1 c1) s.2) := HR1.out.below hbz
         replace HR2 : Hid (Reads y10 (.slice a2 n2 c2) s.2) := HR2.out.below hbz
         replace HBW : Hid (Below w.heap.size w y10) := HBW.out.trans (hbz.mono HBW.out.size)
         clear hbz )
      | (clear tk18; go_at_call 12; refine (HCW.out y10 HBW.out).mono ?_; rintro e y11 ⟨rfl, hbz⟩
         replace HG3 : Hid (Blk y11 g3 (cb seed) 23) := HG3.out.below hbz HG3.out.lt
         replace HG4 : Hid (Blk y11 g4 (hdC (n, rt, ky)) 26) := HG4.out.below hbz HG4.out.lt
         replace HG5 : Hid (Blk y11 g5 (cb tree) 23) := HG5.out.below hbz HG5.out.lt
         replace HG7 : Hid (Blk y11 g7 (sgC s (.slice a1 n1 c1)) 31) := HG7.out.below hbz HG7.out.lt
         replace HG9 : Hid (Blk y11 g9 (sgC s (.slice a2 n2 c2)) 31) := HG9.out.below hbz HG9.out.lt
         replace HR1 : Hid (Reads y11 (.slice a1 n1 c1) s.2) := HR1.out.below hbz
         replace HR2 : Hid (Reads y11 (.slice a2 n2 c2) s.2) := HR2.out.below hbz
         replace HBW : Hid (Below w.heap.size w y11) := HBW.out.trans (hbz.mono HBW.out.size)
         clear hbz ))
    go_ret
    first | exact ⟨rfl, HBW.out⟩ | exact ⟨trivial, HBW.out⟩
  have HE : Hid (es = 0) := by show _ = _; rw [HES.out, sealR, if_neg h64]
  have k1 : (es == 0) = true := by rw [HE.out]; rfl
  have k2 : (es != 0) = false := by rw [bne, k1]; rfl
  have k3 : (es == es) = true := by simp
  have k4 : (es != es) = false := by rw [bne, k3]; rfl
  have HL64 : Hid (n < 64) := Nat.lt_of_not_le h64
  clear HE h64
  by_cases hn0 : n = 0
  · have HOK : Hid (okH (n, rt, pk)) := okH_mk HOH.out.1 HPL.out HOH.out.2.2
    obtain ⟨hf, HHF⟩ : ∃ c, Hid (c = (followR (n, rt, pk) s).1) := ⟨_, rfl⟩
    obtain ⟨ef, HEF⟩ : ∃ c, Hid (c = (followR (n, rt, pk) s).2) := ⟨_, rfl⟩
    have HOF : Hid (okH hf) := by rw [HHF.out]; exact follow_okH _ s HOS.out
    have HC3 : Hid (∀ (W : World) (vs : Value), Below w.heap.size w W → Reads W vs s.2 → Calls Tryd.prog 14 #[.agg (hdC (n, rt, pk)).toArray, .agg (sgC s vs).toArray] W fun e w' => e = .returned (.tuple #[.agg (hdC hf).toArray, .int .i64 ef]) ∧ Below W.heap.size W w') := fun W vs hh hr => by rw [HHF.out, HEF.out]; exact HOP.out.follow W _ s vs (HKK.out.below hh HKK.out.lt) HOK.out HOS.out hr
    have HC4 : Hid (∀ (W : World) (vs : Value), Below w.heap.size w W → Reads W vs s.2 → Calls Tryd.prog 15 #[.agg (hdC (n, rt, pk)).toArray, .agg (sgC s vs).toArray] W fun e w' => e = .returned (.tuple #[.agg (hdC hf).toArray, .int .i64 ef]) ∧ Below W.heap.size W w') := fun W vs hh hr => by rw [HHF.out, HEF.out]; exact qcFollow_any _ s vs W HOK.out HOS.out hr
    have HEZ : Hid (ef = 0) := by
      show _ = _
      rw [HEF.out, HS.out]
      have hq := seal_follow seed (n, rt, pk) tree (by show pk = _; rw [HPK.out, hn0]) HL64.out
      have e : sealR seed (n, rt, ky) tree = sealR seed (n, rt, pk) tree := by unfold sealR; rfl
      rw [e, hq]
    have m1 : ((n : Int) == 0) = true := by rw [hn0]; rfl
    have m2 : ((n : Int) != 0) = false := by rw [bne, m1]; rfl
    have m3 : (ef == 0) = true := by rw [HEZ.out]; rfl
    have m4 : (ef == ef) = true := by simp
    clear hn0 HEZ HEF HHF HS HES HPK
    go_enter Tryd.func3, Tryd.ntmps3
    have tk0 : Hid True := trivial
    have tk1 : Hid True := trivial
    have tk2 : Hid True := trivial
    have tk3 : Hid True := trivial
    have tk4 : Hid True := trivial
    have tk5 : Hid True := trivial
    have tk6 : Hid True := trivial
    have tk7 : Hid True := trivial
    have tk8 : Hid True := trivial
    have tk9 : Hid True := trivial
    have tk10 : Hid True := trivial
    have tk11 : Hid True := trivial
    have tk12 : Hid True := trivial
    have tk13 : Hid True := trivial
    have tk14 : Hid True := trivial
    have tk15 : Hid True := trivial
    have tk16 : Hid True := trivial
    have tk17 : Hid True := trivial
    have tk18 : Hid True := trivial
    have tk19 : Hid True := trivial
    have tk20 : Hid True := trivial
    have tk21 : Hid True := trivial
    have tk22 : Hid True := trivial
    have tk23 : Hid True := trivial
    have tk24 : Hid True := trivial
    have tk25 : Hid True := trivial
    have tk26 : Hid True := trivial
    have tk27 : Hid True := trivial
    have tk28 : Hid True := trivial
    have tk29 : Hid True := trivial
    have tk30 : Hid True := trivial
    have tk31 : Hid True := trivial
    have tk32 : Hid True := trivial
    have tk33 : Hid True := trivial
    have tk34 : Hid True := trivial
    go_wp2_with (first
      | (clear tk0; with_reducible refine wpSeq_boxW 23 (.tmp 0) (cb seed) ?_ ?_ ?_ ?_
         · rfl
         · rfl
         · rfl
         intro g3 y1 nn
         replace HBW : Hid (Below w.heap.size w y1) := HBW.out.trans (nn.below.mono HBW.out.size)
         have HG3 : Hid (Blk y1 g3 (cb seed) 23) := nn.blk
         clear nn)
      | (clear tk1; with_reducible refine wpSeq_boxW 26 (.tmp 1) (hdC (n, rt, ky)) ?_ ?_ ?_ ?_
         · rfl
         · rfl
         · rfl
         intro g4 y2 nn
         have HGE4 : Hid (w.heap.size ≤ g4) := Nat.le_trans HBW.out.size nn.ge
         have HN3 : Hid (g3 < g4) := by have h1 := HG3.out.lt; have h2 := nn.ge; show _ < _; omega
         replace HG3 : Hid (Blk y2 g3 (cb seed) 23) := HG3.out.below nn.below HG3.out.lt
         replace HBW : Hid (Below w.heap.size w y2) := HBW.out.trans (nn.below.mono HBW.out.size)
         have HG4 : Hid (Blk y2 g4 (hdC (n, rt, ky)) 26) := nn.blk
         clear nn)
      | (clear tk2; with_reducible refine wpSeq_boxW 23 (.tmp 2) (cb tree) ?_ ?_ ?_ ?_
         · rfl
         · rfl
         · rfl
         intro g5 y3 nn
         have HLT : Hid (g4 < g5 ∧ w.heap.size ≤ g4) := ⟨by have h1 := HG4.out.lt; have h2 := nn.ge; omega, HGE4.out⟩
         replace HG3 : Hid (Blk y3 g3 (cb seed) 23) := HG3.out.below nn.below HG3.out.lt
         replace HG4 : Hid (Blk y3 g4 (hdC (n, rt, ky)) 26) := HG4.out.below nn.below HG4.out.lt
         replace HBW : Hid (Below w.heap.size w y3) := HBW.out.trans (nn.below.mono HBW.out.size)
         have HG5 : Hid (Blk y3 g5 (cb tree) 23) := nn.blk
         clear nn)
      | (clear tk3; with_reducible refine wpSeq_loadW 23 (.tmp 3) g3 0 (cb seed) _ ?_ Tryd.underlying23 rfl ?_ ?_ ?_ ?_ ?_
         · exact HG3.out.range
         · exact HID.out.1
         · rfl
         · rfl
         · rfl)
      | (clear tk4; with_reducible refine wpSeq_loadW 26 (.tmp 4) g4 0 (hdC (n, rt, ky)) _ ?_ Tryd.underlying26 rfl ?_ ?_ ?_ ?_ ?_
         · exact HG4.out.range
         · exact info_hdC HOH.out
         · rfl
         · rfl
         · rfl)
      | (clear tk5; with_reducible refine wpSeq_loadW 23 (.tmp 5) g5 0 (cb tree) _ ?_ Tryd.underlying23 rfl ?_ ?_ ?_ ?_ ?_
         · exact HG5.out.range
         · exact HID.out.2
         · rfl
         · rfl
         · rfl)
      | (clear tk6; go_at_call 9; refine (HC1.out y3 HBW.out).mono ?_; rintro e y4 ⟨a1, n1, c1, rfl, hrd, hfr, hbz⟩
         have HF1 : Hid (∀ k, (Value.slice a1 n1 c1).ownBlock = some k → k ≠ g4) := fun k hk => by have h1 := hfr k hk; have h2 := HG4.out.lt; omega
         clear hfr
         replace HG3 : Hid (Blk y4 g3 (cb seed) 23) := HG3.out.below hbz HG3.out.lt
         replace HG4 : Hid (Blk y4 g4 (hdC (n, rt, ky)) 26) := HG4.out.below hbz HG4.out.lt
         replace HG5 : Hid (Blk y4 g5 (cb tree) 23) := HG5.out.below hbz HG5.out.lt
         replace HBW : Hid (Below w.heap.size w y4) := HBW.out.trans (hbz.mono HBW.out.size)
         have HR1 : Hid (Reads y4 (.slice a1 n1 c1) s.2) := hrd
         clear hbz hrd)
      | (clear tk7; with_reducible refine wpSeq_allocS ?_ ?_ ?_
         · rfl
         · rfl
         intro g7 y5 nn
         have HN7 : Hid (g4 < g7) := by have h4 := HG4.out.lt; have h5 := nn.ge; show _ < _; omega)
      | (clear tk8; with_reducible refine wpSeq_storeRow 31 (.tmp 7) (.tmp 20) g7 (sgC zeroS (.slice none 0 0)) (sgC s (.slice a1 n1 c1)) ?_ ?_ ?_ ?_ ?_ ?_ ?_ ?_ ?_
         · exact nn.blk
         · first | (with_reducible rfl) | rw [len_sgC HOS.out, len_sgC okS_zero]
         · exact info_sgC HOS.out _
         · exact sgC_one _ _ _ _
         · rfl
         · rfl
         · rfl
         · rfl
         intro y6 hs
         have hbz := nn.below.trans (hs.only.below nn.ge nn.below.size)
         replace HG3 : Hid (Blk y6 g3 (cb seed) 23) := HG3.out.below hbz HG3.out.lt
         replace HG4 : Hid (Blk y6 g4 (hdC (n, rt, ky)) 26) := HG4.out.below hbz HG4.out.lt
         replace HG5 : Hid (Blk y6 g5 (cb tree) 23) := HG5.out.below hbz HG5.out.lt
         replace HR1 : Hid (Reads y6 (.slice a1 n1 c1) s.2) := HR1.out.below hbz
         replace HBW : Hid (Below w.heap.size w y6) := HBW.out.trans (hbz.mono HBW.out.size)
         have HG7 : Hid (Blk y6 g7 (sgC s (.slice a1 n1 c1)) 31) := hs.blk
         clear nn hs hbz)
      | (clear tk9; with_reducible refine wpSeq_loadW 23 (.tmp 3) g3 0 (cb seed) _ ?_ Tryd.underlying23 rfl ?_ ?_ ?_ ?_ ?_
         · exact HG3.out.range
         · exact HID.out.1
         · rfl
         · rfl
         · rfl)
      | (clear tk10; with_reducible refine wpSeq_loadW 26 (.tmp 4) g4 0 (hdC (n, rt, ky)) _ ?_ Tryd.underlying26 rfl ?_ ?_ ?_ ?_ ?_
         · exact HG4.out.range
         · exact info_hdC HOH.out
         · rfl
         · rfl
         · rfl)
      | (clear tk11; with_reducible refine wpSeq_loadW 23 (.tmp 5) g5 0 (cb tree) _ ?_ Tryd.underlying23 rfl ?_ ?_ ?_ ?_ ?_
         · exact HG5.out.range
         · exact HID.out.2
         · rfl
         · rfl
         · rfl)
      | (clear tk12; go_at_call 10; refine (HC2.out y6 HBW.out).mono ?_; rintro e y7 ⟨a2, n2, c2, rfl, hrd, hfr, hbz⟩
         have HF2 : Hid (∀ k, (Value.slice a2 n2 c2).ownBlock = some k → k ≠ g4) := fun k hk => by have h1 := hfr k hk; have h2 := HG4.out.lt; omega
         clear hfr
         replace HG3 : Hid (Blk y7 g3 (cb seed) 23) := HG3.out.below hbz HG3.out.lt
         replace HG4 : Hid (Blk y7 g4 (hdC (n, rt, ky)) 26) := HG4.out.below hbz HG4.out.lt
         replace HG5 : Hid (Blk y7 g5 (cb tree) 23) := HG5.out.below hbz HG5.out.lt
         replace HG7 : Hid (Blk y7 g7 (sgC s (.slice a1 n1 c1)) 31) := HG7.out.below hbz HG7.out.lt
         replace HR1 : Hid (Reads y7 (.slice a1 n1 c1) s.2) := HR1.out.below hbz
         replace HBW : Hid (Below w.heap.size w y7) := HBW.out.trans (hbz.mono HBW.out.size)
         have HR2 : Hid (Reads y7 (.slice a2 n2 c2) s.2) := hrd
         clear hbz hrd)
      | (clear tk13; with_reducible refine wpSeq_allocS ?_ ?_ ?_
         · rfl
         · rfl
         intro g9 y8 nn
         have HN4 : Hid (g3 < g4 ∧ g4 < g5 ∧ g4 < g7 ∧ g4 < g9) := by have h1 := HN3.out; have h2 := HLT.out.1; have h3 := HN7.out; have h4 := HG4.out.lt; have h5 := nn.ge; exact ⟨by omega, by omega, by omega, by omega⟩)
      | (clear tk14; with_reducible refine wpSeq_storeRow 31 (.tmp 9) (.tmp 27) g9 (sgC zeroS (.slice none 0 0)) (sgC s (.slice a2 n2 c2)) ?_ ?_ ?_ ?_ ?_ ?_ ?_ ?_ ?_
         · exact nn.blk
         · first | (with_reducible rfl) | rw [len_sgC HOS.out, len_sgC okS_zero]
         · exact info_sgC HOS.out _
         · exact sgC_one _ _ _ _
         · rfl
         · rfl
         · rfl
         · rfl
         intro y9 hs
         have hbz := nn.below.trans (hs.only.below nn.ge nn.below.size)
         replace HG3 : Hid (Blk y9 g3 (cb seed) 23) := HG3.out.below hbz HG3.out.lt
         replace HG4 : Hid (Blk y9 g4 (hdC (n, rt, ky)) 26) := HG4.out.below hbz HG4.out.lt
         replace HG5 : Hid (Blk y9 g5 (cb tree) 23) := HG5.out.below hbz HG5.out.lt
         replace HG7 : Hid (Blk y9 g7 (sgC s (.slice a1 n1 c1)) 31) := HG7.out.below hbz HG7.out.lt
         replace HR1 : Hid (Reads y9 (.slice a1 n1 c1) s.2) := HR1.out.below hbz
         replace HR2 : Hid (Reads y9 (.slice a2 n2 c2) s.2) := HR2.out.below hbz
         replace HBW : Hid (Below w.heap.size w y9) := HBW.out.trans (hbz.mono HBW.out.size)
         have HG9 : Hid (Blk y9 g9 (sgC s (.slice a2 n2 c2)) 31) := hs.blk
         clear nn hs hbz)
      | (clear tk15; with_reducible refine wpSeq_loadW 31 (.tmp 7) g7 0 (sgC s (.slice a1 n1 c1)) _ ?_ Tryd.underlying31 rfl ?_ ?_ ?_ ?_ ?_
         · exact HG7.out.range
         · exact info_sgC HOS.out _
         · rfl
         · rfl
         · rfl)
      | (clear tk16; with_reducible refine wpSeq_loadW 31 (.tmp 9) g9 0 (sgC s (.slice a2 n2 c2)) _ ?_ Tryd.underlying31 rfl ?_ ?_ ?_ ?_ ?_
         · exact HG9.out.range
         · exact info_sgC HOS.out _
         · rfl
         · rfl
         · rfl)
      | (clear tk17; go_at_call 11; refine (sameS_any s _ _ y9 HOS.out HR1.out HR2.out).mono ?_; rintro e y10 ⟨rfl, hbz⟩
         replace HG3 : Hid (Blk y10 g3 (cb seed) 23) := HG3.out.below hbz HG3.out.lt
         replace HG4 : Hid (Blk y10 g4 (hdC (n, rt, ky)) 26) := HG4.out.below hbz HG4.out.lt
         replace HG5 : Hid (Blk y10 g5 (cb tree) 23) := HG5.out.below hbz HG5.out.lt
         replace HG7 : Hid (Blk y10 g7 (sgC s (.slice a1 n1 c1)) 31) := HG7.out.below hbz HG7.out.lt
         replace HG9 : Hid (Blk y10 g9 (sgC s (.slice a2 n2 c2)) 31) := HG9.out.below hbz HG9.out.lt
         replace HR1 : Hid (Reads y10 (.slice a1 n1 c1) s.2) := HR1.out.below hbz
         replace HR2 : Hid (Reads y10 (.slice a2 n2 c2) s.2) := HR2.out.below hbz
         replace HBW : Hid (Below w.heap.size w y10) := HBW.out.trans (hbz.mono HBW.out.size)
         clear hbz )
      | (clear tk18; with_reducible refine wpSeq_loadW 23 (.tmp 3) g3 0 (cb seed) _ ?_ Tryd.underlying23 rfl ?_ ?_ ?_ ?_ ?_
         · exact HG3.out.range
         · exact HID.out.1
         · rfl
         · rfl
         · rfl)
      | (clear tk19; go_at_call 13; refine (HC5.out y10 HBW.out).mono ?_; rintro e y11 ⟨rfl, hbz⟩
         replace HG3 : Hid (Blk y11 g3 (cb seed) 23) := HG3.out.below hbz HG3.out.lt
         replace HG4 : Hid (Blk y11 g4 (hdC (n, rt, ky)) 26) := HG4.out.below hbz HG4.out.lt
         replace HG5 : Hid (Blk y11 g5 (cb tree) 23) := HG5.out.below hbz HG5.out.lt
         replace HG7 : Hid (Blk y11 g7 (sgC s (.slice a1 n1 c1)) 31) := HG7.out.below hbz HG7.out.lt
         replace HG9 : Hid (Blk y11 g9 (sgC s (.slice a2 n2 c2)) 31) := HG9.out.below hbz HG9.out.lt
         replace HR1 : Hid (Reads y11 (.slice a1 n1 c1) s.2) := HR1.out.below hbz
         replace HR2 : Hid (Reads y11 (.slice a2 n2 c2) s.2) := HR2.out.below hbz
         replace HBW : Hid (Below w.heap.size w y11) := HBW.out.trans (hbz.mono HBW.out.size)
         clear hbz )
      | (clear tk20; with_reducible refine wpSeq_storeKey (.tmp 43) (.tmp 42) g4 n rt ky pk ?_ ?_ ?_ ?_ ?_ ?_ ?_ ?_ ?_
         · exact HG4.out
         · exact HOH.out.1
         · exact HOH.out.2.1
         · exact HPL.out
         · rfl
         · rfl
         · rfl
         · rfl
         intro y12 hs
         have HXX : Hid (g4 < g5 ∧ w.heap.size ≤ g4) := HLT.out
         replace HG3 : Hid (Blk y12 g3 (cb seed) 23) := HG3.out.only hs.only (by have := HN4.out; omega)
         replace HG5 : Hid (Blk y12 g5 (cb tree) 23) := HG5.out.only hs.only (by have := HN4.out; omega)
         replace HG7 : Hid (Blk y12 g7 (sgC s (.slice a1 n1 c1)) 31) := HG7.out.only hs.only (by have := HN4.out; omega)
         replace HG9 : Hid (Blk y12 g9 (sgC s (.slice a2 n2 c2)) 31) := HG9.out.only hs.only (by have := HN4.out; omega)
         replace HR1 : Hid (Reads y12 (.slice a1 n1 c1) s.2) := HR1.out.apartB hs.only (HF1.out)
         replace HR2 : Hid (Reads y12 (.slice a2 n2 c2) s.2) := HR2.out.apartB hs.only (HF2.out)
         replace HG4 : Hid (Blk y12 g4 (hdC (n, rt, pk)) 26) := hs.blk
         replace HBW : Hid (Below w.heap.size w y12) := HBW.out.trans (hs.only.below HLT.out.2 HBW.out.size)
         have ce : y12.cell? ⟨g4, 0, none⟩ = some (.int .u64 (n : Int)) := HG4.out.cell 0
         clear hs HXX)
      | (clear tk21; with_reducible refine wpSeq_loadW 26 (.tmp 4) g4 0 (hdC (n, rt, pk)) _ ?_ Tryd.underlying26 rfl ?_ ?_ ?_ ?_ ?_
         · exact HG4.out.range
         · exact info_hdC HOK.out
         · rfl
         · rfl
         · rfl)
      | (clear tk22; with_reducible refine wpSeq_loadW 31 (.tmp 7) g7 0 (sgC s (.slice a1 n1 c1)) _ ?_ Tryd.underlying31 rfl ?_ ?_ ?_ ?_ ?_
         · exact HG7.out.range
         · exact info_sgC HOS.out _
         · rfl
         · rfl
         · rfl)
      | (clear tk23; go_at_call 14; refine (HC3.out y12 _ HBW.out HR1.out).mono ?_; rintro e y13 ⟨rfl, hbz⟩
         clear ce
         replace HG3 : Hid (Blk y13 g3 (cb seed) 23) := HG3.out.below hbz HG3.out.lt
         replace HG4 : Hid (Blk y13 g4 (hdC (n, rt, pk)) 26) := HG4.out.below hbz HG4.out.lt
         replace HG5 : Hid (Blk y13 g5 (cb tree) 23) := HG5.out.below hbz HG5.out.lt
         replace HG7 : Hid (Blk y13 g7 (sgC s (.slice a1 n1 c1)) 31) := HG7.out.below hbz HG7.out.lt
         replace HG9 : Hid (Blk y13 g9 (sgC s (.slice a2 n2 c2)) 31) := HG9.out.below hbz HG9.out.lt
         replace HR1 : Hid (Reads y13 (.slice a1 n1 c1) s.2) := HR1.out.below hbz
         replace HR2 : Hid (Reads y13 (.slice a2 n2 c2) s.2) := HR2.out.below hbz
         replace HBW : Hid (Below w.heap.size w y13) := HBW.out.trans (hbz.mono HBW.out.size)
         clear hbz )
      | (clear tk24; with_reducible refine wpSeq_allocH ?_ ?_ ?_
         · rfl
         · rfl
         intro g11 y14 nn)
      | (clear tk25; with_reducible refine wpSeq_storeRow 26 (.tmp 11) (.tmp 53) g11 (hdC zeroH) (hdC hf) ?_ ?_ ?_ ?_ ?_ ?_ ?_ ?_ ?_
         · exact nn.blk
         · first | (with_reducible rfl) | rw [len_hdC HOF.out, len_hdC okH_zero]
         · exact info_hdC HOF.out
         · exact hdC_one _
         · rfl
         · rfl
         · rfl
         · rfl
         intro y15 hs
         have hbz := nn.below.trans (hs.only.below nn.ge nn.below.size)
         replace HG3 : Hid (Blk y15 g3 (cb seed) 23) := HG3.out.below hbz HG3.out.lt
         replace HG4 : Hid (Blk y15 g4 (hdC (n, rt, pk)) 26) := HG4.out.below hbz HG4.out.lt
         replace HG5 : Hid (Blk y15 g5 (cb tree) 23) := HG5.out.below hbz HG5.out.lt
         replace HG7 : Hid (Blk y15 g7 (sgC s (.slice a1 n1 c1)) 31) := HG7.out.below hbz HG7.out.lt
         replace HG9 : Hid (Blk y15 g9 (sgC s (.slice a2 n2 c2)) 31) := HG9.out.below hbz HG9.out.lt
         replace HR1 : Hid (Reads y15 (.slice a1 n1 c1) s.2) := HR1.out.below hbz
         replace HR2 : Hid (Reads y15 (.slice a2 n2 c2) s.2) := HR2.out.below hbz
         replace HBW : Hid (Below w.heap.size w y15) := HBW.out.trans (hbz.mono HBW.out.size)
         have HG11 : Hid (Blk y15 g11 (hdC hf) 26) := hs.blk
         clear nn hs hbz)
      | (clear tk26; with_reducible refine wpSeq_loadW 26 (.tmp 4) g4 0 (hdC (n, rt, pk)) _ ?_ Tryd.underlying26 rfl ?_ ?_ ?_ ?_ ?_
         · exact HG4.out.range
         · exact info_hdC HOK.out
         · rfl
         · rfl
         · rfl)
      | (clear tk27; with_reducible refine wpSeq_loadW 31 (.tmp 9) g9 0 (sgC s (.slice a2 n2 c2)) _ ?_ Tryd.underlying31 rfl ?_ ?_ ?_ ?_ ?_
         · exact HG9.out.range
         · exact info_sgC HOS.out _
         · rfl
         · rfl
         · rfl)
      | (clear tk28; go_at_call 15; refine (HC4.out y15 _ HBW.out HR2.out).mono ?_; rintro e y16 ⟨rfl, hbz⟩
         replace HG3 : Hid (Blk y16 g3 (cb seed) 23) := HG3.out.below hbz HG3.out.lt
         replace HG4 : Hid (Blk y16 g4 (hdC (n, rt, pk)) 26) := HG4.out.below hbz HG4.out.lt
         replace HG5 : Hid (Blk y16 g5 (cb tree) 23) := HG5.out.below hbz HG5.out.lt
         replace HG7 : Hid (Blk y16 g7 (sgC s (.slice a1 n1 c1)) 31) := HG7.out.below hbz HG7.out.lt
         replace HG9 : Hid (Blk y16 g9 (sgC s (.slice a2 n2 c2)) 31) := HG9.out.below hbz HG9.out.lt
         replace HG11 : Hid (Blk y16 g11 (hdC hf) 26) := HG11.out.below hbz HG11.out.lt
         replace HR1 : Hid (Reads y16 (.slice a1 n1 c1) s.2) := HR1.out.below hbz
         replace HR2 : Hid (Reads y16 (.slice a2 n2 c2) s.2) := HR2.out.below hbz
         replace HBW : Hid (Below w.heap.size w y16) := HBW.out.trans (hbz.mono HBW.out.size)
         clear hbz )
      | (clear tk29; with_reducible refine wpSeq_allocH ?_ ?_ ?_
         · rfl
         · rfl
         intro g13 y17 nn)
      | (clear tk30; with_reducible refine wpSeq_storeRow 26 (.tmp 13) (.tmp 59) g13 (hdC zeroH) (hdC hf) ?_ ?_ ?_ ?_ ?_ ?_ ?_ ?_ ?_
         · exact nn.blk
         · first | (with_reducible rfl) | rw [len_hdC HOF.out, len_hdC okH_zero]
         · exact info_hdC HOF.out
         · exact hdC_one _
         · rfl
         · rfl
         · rfl
         · rfl
         intro y18 hs
         have hbz := nn.below.trans (hs.only.below nn.ge nn.below.size)
         replace HG3 : Hid (Blk y18 g3 (cb seed) 23) := HG3.out.below hbz HG3.out.lt
         replace HG4 : Hid (Blk y18 g4 (hdC (n, rt, pk)) 26) := HG4.out.below hbz HG4.out.lt
         replace HG5 : Hid (Blk y18 g5 (cb tree) 23) := HG5.out.below hbz HG5.out.lt
         replace HG7 : Hid (Blk y18 g7 (sgC s (.slice a1 n1 c1)) 31) := HG7.out.below hbz HG7.out.lt
         replace HG9 : Hid (Blk y18 g9 (sgC s (.slice a2 n2 c2)) 31) := HG9.out.below hbz HG9.out.lt
         replace HG11 : Hid (Blk y18 g11 (hdC hf) 26) := HG11.out.below hbz HG11.out.lt
         replace HR1 : Hid (Reads y18 (.slice a1 n1 c1) s.2) := HR1.out.below hbz
         replace HR2 : Hid (Reads y18 (.slice a2 n2 c2) s.2) := HR2.out.below hbz
         replace HBW : Hid (Below w.heap.size w y18) := HBW.out.trans (hbz.mono HBW.out.size)
         have HG13 : Hid (Blk y18 g13 (hdC hf) 26) := hs.blk
         have ce2 : y18.cell? ⟨g4, 0, none⟩ = some (.int .u64 (n : Int)) := HG4.out.cell 0
         clear nn hs hbz)
      | (clear tk31; with_reducible refine wpSeq_loadW 26 (.tmp 11) g11 0 (hdC hf) _ ?_ Tryd.underlying26 rfl ?_ ?_ ?_ ?_ ?_
         · exact HG11.out.range
         · exact info_hdC HOF.out
         · rfl
         · rfl
         · rfl)
      | (clear tk32; with_reducible refine wpSeq_loadW 26 (.tmp 13) g13 0 (hdC hf) _ ?_ Tryd.underlying26 rfl ?_ ?_ ?_ ?_ ?_
         · exact HG13.out.range
         · exact info_hdC HOF.out
         · rfl
         · rfl
         · rfl)
      | (clear tk33; with_reducible refine wpSeq_eqH (.tmp 61) (.tmp 62) hf hf HOF.out HOF.out true ?_ ?_ ?_ ?_ ?_ ?_
         · exact (decide_eq_true rfl).symm
         · rfl
         · rfl
         · rfl
         · rfl)
      | (clear tk34; go_at_call 12; refine (HCW.out y18 HBW.out).mono ?_; rintro e y19 ⟨rfl, hbz⟩
         replace HG3 : Hid (Blk y19 g3 (cb seed) 23) := HG3.out.below hbz HG3.out.lt
         replace HG4 : Hid (Blk y19 g4 (hdC (n, rt, pk)) 26) := HG4.out.below hbz HG4.out.lt
         replace HG5 : Hid (Blk y19 g5 (cb tree) 23) := HG5.out.below hbz HG5.out.lt
         replace HG7 : Hid (Blk y19 g7 (sgC s (.slice a1 n1 c1)) 31) := HG7.out.below hbz HG7.out.lt
         replace HG9 : Hid (Blk y19 g9 (sgC s (.slice a2 n2 c2)) 31) := HG9.out.below hbz HG9.out.lt
         replace HG11 : Hid (Blk y19 g11 (hdC hf) 26) := HG11.out.below hbz HG11.out.lt
         replace HG13 : Hid (Blk y19 g13 (hdC hf) 26) := HG13.out.below hbz HG13.out.lt
         replace HR1 : Hid (Reads y19 (.slice a1 n1 c1) s.2) := HR1.out.below hbz
         replace HR2 : Hid (Reads y19 (.slice a2 n2 c2) s.2) := HR2.out.below hbz
         replace HBW : Hid (Below w.heap.size w y19) := HBW.out.trans (hbz.mono HBW.out.size)
         clear hbz ))
    go_ret
    first | exact ⟨rfl, HBW.out⟩ | exact ⟨trivial, HBW.out⟩
  · have HOK : Hid (okH (n, rt, zb32)) := okH_mk HOH.out.1 rfl HOH.out.2.2
    obtain ⟨hf, HHF⟩ : ∃ c, Hid (c = (followR (n, rt, zb32) s).1) := ⟨_, rfl⟩
    obtain ⟨ef, HEF⟩ : ∃ c, Hid (c = (followR (n, rt, zb32) s).2) := ⟨_, rfl⟩
    have HOF : Hid (okH hf) := by rw [HHF.out]; exact follow_okH _ s HOS.out
    have HC3 : Hid (∀ (W : World) (vs : Value), Below w.heap.size w W → Reads W vs s.2 → Calls Tryd.prog 14 #[.agg (hdC (n, rt, zb32)).toArray, .agg (sgC s vs).toArray] W fun e w' => e = .returned (.tuple #[.agg (hdC hf).toArray, .int .i64 ef]) ∧ Below W.heap.size W w') := fun W vs hh hr => by rw [HHF.out, HEF.out]; exact HOP.out.follow W _ s vs (HKK.out.below hh HKK.out.lt) HOK.out HOS.out hr
    have HC4 : Hid (∀ (W : World) (vs : Value), Below w.heap.size w W → Reads W vs s.2 → Calls Tryd.prog 15 #[.agg (hdC (n, rt, zb32)).toArray, .agg (sgC s vs).toArray] W fun e w' => e = .returned (.tuple #[.agg (hdC hf).toArray, .int .i64 ef]) ∧ Below W.heap.size W w') := fun W vs hh hr => by rw [HHF.out, HEF.out]; exact qcFollow_any _ s vs W HOK.out HOS.out hr
    have m1 : ((n : Int) == 0) = false := by rw [beq_eq_false_iff_ne]; omega
    have m2 : ((n : Int) != 0) = true := by rw [bne, m1]; rfl
    have m4 : (ef == ef) = true := by simp
    clear hn0 HEF HHF HS HES HPK
    go_enter Tryd.func3, Tryd.ntmps3
    have tk0 : Hid True := trivial
    have tk1 : Hid True := trivial
    have tk2 : Hid True := trivial
    have tk3 : Hid True := trivial
    have tk4 : Hid True := trivial
    have tk5 : Hid True := trivial
    have tk6 : Hid True := trivial
    have tk7 : Hid True := trivial
    have tk8 : Hid True := trivial
    have tk9 : Hid True := trivial
    have tk10 : Hid True := trivial
    have tk11 : Hid True := trivial
    have tk12 : Hid True := trivial
    have tk13 : Hid True := trivial
    have tk14 : Hid True := trivial
    have tk15 : Hid True := trivial
    have tk16 : Hid True := trivial
    have tk17 : Hid True := trivial
    have tk18 : Hid True := trivial
    have tk19 : Hid True := trivial
    have tk20 : Hid True := trivial
    have tk21 : Hid True := trivial
    have tk22 : Hid True := trivial
    have tk23 : Hid True := trivial
    have tk24 : Hid True := trivial
    have tk25 : Hid True := trivial
    have tk26 : Hid True := trivial
    have tk27 : Hid True := trivial
    have tk28 : Hid True := trivial
    have tk29 : Hid True := trivial
    have tk30 : Hid True := trivial
    have tk31 : Hid True := trivial
    have tk32 : Hid True := trivial
    have tk33 : Hid True := trivial
    have tk34 : Hid True := trivial
    have tk35 : Hid True := trivial
    have tk36 : Hid True := trivial
    go_wp2_with (first
      | (clear tk0; with_reducible refine wpSeq_boxW 23 (.tmp 0) (cb seed) ?_ ?_ ?_ ?_
         · rfl
         · rfl
         · rfl
         intro g3 y1 nn
         replace HBW : Hid (Below w.heap.size w y1) := HBW.out.trans (nn.below.mono HBW.out.size)
         have HG3 : Hid (Blk y1 g3 (cb seed) 23) := nn.blk
         clear nn)
      | (clear tk1; with_reducible refine wpSeq_boxW 26 (.tmp 1) (hdC (n, rt, ky)) ?_ ?_ ?_ ?_
         · rfl
         · rfl
         · rfl
         intro g4 y2 nn
         have HGE4 : Hid (w.heap.size ≤ g4) := Nat.le_trans HBW.out.size nn.ge
         have HN3 : Hid (g3 < g4) := by have h1 := HG3.out.lt; have h2 := nn.ge; show _ < _; omega
         replace HG3 : Hid (Blk y2 g3 (cb seed) 23) := HG3.out.below nn.below HG3.out.lt
         replace HBW : Hid (Below w.heap.size w y2) := HBW.out.trans (nn.below.mono HBW.out.size)
         have HG4 : Hid (Blk y2 g4 (hdC (n, rt, ky)) 26) := nn.blk
         clear nn)
      | (clear tk2; with_reducible refine wpSeq_boxW 23 (.tmp 2) (cb tree) ?_ ?_ ?_ ?_
         · rfl
         · rfl
         · rfl
         intro g5 y3 nn
         have HLT : Hid (g4 < g5 ∧ w.heap.size ≤ g4) := ⟨by have h1 := HG4.out.lt; have h2 := nn.ge; omega, HGE4.out⟩
         replace HG3 : Hid (Blk y3 g3 (cb seed) 23) := HG3.out.below nn.below HG3.out.lt
         replace HG4 : Hid (Blk y3 g4 (hdC (n, rt, ky)) 26) := HG4.out.below nn.below HG4.out.lt
         replace HBW : Hid (Below w.heap.size w y3) := HBW.out.trans (nn.below.mono HBW.out.size)
         have HG5 : Hid (Blk y3 g5 (cb tree) 23) := nn.blk
         clear nn)
      | (clear tk3; with_reducible refine wpSeq_loadW 23 (.tmp 3) g3 0 (cb seed) _ ?_ Tryd.underlying23 rfl ?_ ?_ ?_ ?_ ?_
         · exact HG3.out.range
         · exact HID.out.1
         · rfl
         · rfl
         · rfl)
      | (clear tk4; with_reducible refine wpSeq_loadW 26 (.tmp 4) g4 0 (hdC (n, rt, ky)) _ ?_ Tryd.underlying26 rfl ?_ ?_ ?_ ?_ ?_
         · exact HG4.out.range
         · exact info_hdC HOH.out
         · rfl
         · rfl
         · rfl)
      | (clear tk5; with_reducible refine wpSeq_loadW 23 (.tmp 5) g5 0 (cb tree) _ ?_ Tryd.underlying23 rfl ?_ ?_ ?_ ?_ ?_
         · exact HG5.out.range
         · exact HID.out.2
         · rfl
         · rfl
         · rfl)
      | (clear tk6; go_at_call 9; refine (HC1.out y3 HBW.out).mono ?_; rintro e y4 ⟨a1, n1, c1, rfl, hrd, hfr, hbz⟩
         have HF1 : Hid (∀ k, (Value.slice a1 n1 c1).ownBlock = some k → k ≠ g4) := fun k hk => by have h1 := hfr k hk; have h2 := HG4.out.lt; omega
         clear hfr
         replace HG3 : Hid (Blk y4 g3 (cb seed) 23) := HG3.out.below hbz HG3.out.lt
         replace HG4 : Hid (Blk y4 g4 (hdC (n, rt, ky)) 26) := HG4.out.below hbz HG4.out.lt
         replace HG5 : Hid (Blk y4 g5 (cb tree) 23) := HG5.out.below hbz HG5.out.lt
         replace HBW : Hid (Below w.heap.size w y4) := HBW.out.trans (hbz.mono HBW.out.size)
         have HR1 : Hid (Reads y4 (.slice a1 n1 c1) s.2) := hrd
         clear hbz hrd)
      | (clear tk7; with_reducible refine wpSeq_allocS ?_ ?_ ?_
         · rfl
         · rfl
         intro g7 y5 nn
         have HN7 : Hid (g4 < g7) := by have h4 := HG4.out.lt; have h5 := nn.ge; show _ < _; omega)
      | (clear tk8; with_reducible refine wpSeq_storeRow 31 (.tmp 7) (.tmp 20) g7 (sgC zeroS (.slice none 0 0)) (sgC s (.slice a1 n1 c1)) ?_ ?_ ?_ ?_ ?_ ?_ ?_ ?_ ?_
         · exact nn.blk
         · first | (with_reducible rfl) | rw [len_sgC HOS.out, len_sgC okS_zero]
         · exact info_sgC HOS.out _
         · exact sgC_one _ _ _ _
         · rfl
         · rfl
         · rfl
         · rfl
         intro y6 hs
         have hbz := nn.below.trans (hs.only.below nn.ge nn.below.size)
         replace HG3 : Hid (Blk y6 g3 (cb seed) 23) := HG3.out.below hbz HG3.out.lt
         replace HG4 : Hid (Blk y6 g4 (hdC (n, rt, ky)) 26) := HG4.out.below hbz HG4.out.lt
         replace HG5 : Hid (Blk y6 g5 (cb tree) 23) := HG5.out.below hbz HG5.out.lt
         replace HR1 : Hid (Reads y6 (.slice a1 n1 c1) s.2) := HR1.out.below hbz
         replace HBW : Hid (Below w.heap.size w y6) := HBW.out.trans (hbz.mono HBW.out.size)
         have HG7 : Hid (Blk y6 g7 (sgC s (.slice a1 n1 c1)) 31) := hs.blk
         clear nn hs hbz)
      | (clear tk9; with_reducible refine wpSeq_loadW 23 (.tmp 3) g3 0 (cb seed) _ ?_ Tryd.underlying23 rfl ?_ ?_ ?_ ?_ ?_
         · exact HG3.out.range
         · exact HID.out.1
         · rfl
         · rfl
         · rfl)
      | (clear tk10; with_reducible refine wpSeq_loadW 26 (.tmp 4) g4 0 (hdC (n, rt, ky)) _ ?_ Tryd.underlying26 rfl ?_ ?_ ?_ ?_ ?_
         · exact HG4.out.range
         · exact info_hdC HOH.out
         · rfl
         · rfl
         · rfl)
      | (clear tk11; with_reducible refine wpSeq_loadW 23 (.tmp 5) g5 0 (cb tree) _ ?_ Tryd.underlying23 rfl ?_ ?_ ?_ ?_ ?_
         · exact HG5.out.range
         · exact HID.out.2
         · rfl
         · rfl
         · rfl)
      | (clear tk12; go_at_call 10; refine (HC2.out y6 HBW.out).mono ?_; rintro e y7 ⟨a2, n2, c2, rfl, hrd, hfr, hbz⟩
         have HF2 : Hid (∀ k, (Value.slice a2 n2 c2).ownBlock = some k → k ≠ g4) := fun k hk => by have h1 := hfr k hk; have h2 := HG4.out.lt; omega
         clear hfr
         replace HG3 : Hid (Blk y7 g3 (cb seed) 23) := HG3.out.below hbz HG3.out.lt
         replace HG4 : Hid (Blk y7 g4 (hdC (n, rt, ky)) 26) := HG4.out.below hbz HG4.out.lt
         replace HG5 : Hid (Blk y7 g5 (cb tree) 23) := HG5.out.below hbz HG5.out.lt
         replace HG7 : Hid (Blk y7 g7 (sgC s (.slice a1 n1 c1)) 31) := HG7.out.below hbz HG7.out.lt
         replace HR1 : Hid (Reads y7 (.slice a1 n1 c1) s.2) := HR1.out.below hbz
         replace HBW : Hid (Below w.heap.size w y7) := HBW.out.trans (hbz.mono HBW.out.size)
         have HR2 : Hid (Reads y7 (.slice a2 n2 c2) s.2) := hrd
         clear hbz hrd)
      | (clear tk13; with_reducible refine wpSeq_allocS ?_ ?_ ?_
         · rfl
         · rfl
         intro g9 y8 nn
         have HN4 : Hid (g3 < g4 ∧ g4 < g5 ∧ g4 < g7 ∧ g4 < g9) := by have h1 := HN3.out; have h2 := HLT.out.1; have h3 := HN7.out; have h4 := HG4.out.lt; have h5 := nn.ge; exact ⟨by omega, by omega, by omega, by omega⟩)
      | (clear tk14; with_reducible refine wpSeq_storeRow 31 (.tmp 9) (.tmp 27) g9 (sgC zeroS (.slice none 0 0)) (sgC s (.slice a2 n2 c2)) ?_ ?_ ?_ ?_ ?_ ?_ ?_ ?_ ?_
         · exact nn.blk
         · first | (with_reducible rfl) | rw [len_sgC HOS.out, len_sgC okS_zero]
         · exact info_sgC HOS.out _
         · exact sgC_one _ _ _ _
         · rfl
         · rfl
         · rfl
         · rfl
         intro y9 hs
         have hbz := nn.below.trans (hs.only.below nn.ge nn.below.size)
         replace HG3 : Hid (Blk y9 g3 (cb seed) 23) := HG3.out.below hbz HG3.out.lt
         replace HG4 : Hid (Blk y9 g4 (hdC (n, rt, ky)) 26) := HG4.out.below hbz HG4.out.lt
         replace HG5 : Hid (Blk y9 g5 (cb tree) 23) := HG5.out.below hbz HG5.out.lt
         replace HG7 : Hid (Blk y9 g7 (sgC s (.slice a1 n1 c1)) 31) := HG7.out.below hbz HG7.out.lt
         replace HR1 : Hid (Reads y9 (.slice a1 n1 c1) s.2) := HR1.out.below hbz
         replace HR2 : Hid (Reads y9 (.slice a2 n2 c2) s.2) := HR2.out.below hbz
         replace HBW : Hid (Below w.heap.size w y9) := HBW.out.trans (hbz.mono HBW.out.size)
         have HG9 : Hid (Blk y9 g9 (sgC s (.slice a2 n2 c2)) 31) := hs.blk
         clear nn hs hbz)
      | (clear tk15; with_reducible refine wpSeq_loadW 31 (.tmp 7) g7 0 (sgC s (.slice a1 n1 c1)) _ ?_ Tryd.underlying31 rfl ?_ ?_ ?_ ?_ ?_
         · exact HG7.out.range
         · exact info_sgC HOS.out _
         · rfl
         · rfl
         · rfl)
      | (clear tk16; with_reducible refine wpSeq_loadW 31 (.tmp 9) g9 0 (sgC s (.slice a2 n2 c2)) _ ?_ Tryd.underlying31 rfl ?_ ?_ ?_ ?_ ?_
         · exact HG9.out.range
         · exact info_sgC HOS.out _
         · rfl
         · rfl
         · rfl)
      | (clear tk17; go_at_call 11; refine (sameS_any s _ _ y9 HOS.out HR1.out HR2.out).mono ?_; rintro e y10 ⟨rfl, hbz⟩
         replace HG3 : Hid (Blk y10 g3 (cb seed) 23) := HG3.out.below hbz HG3.out.lt
         replace HG4 : Hid (Blk y10 g4 (hdC (n, rt, ky)) 26) := HG4.out.below hbz HG4.out.lt
         replace HG5 : Hid (Blk y10 g5 (cb tree) 23) := HG5.out.below hbz HG5.out.lt
         replace HG7 : Hid (Blk y10 g7 (sgC s (.slice a1 n1 c1)) 31) := HG7.out.below hbz HG7.out.lt
         replace HG9 : Hid (Blk y10 g9 (sgC s (.slice a2 n2 c2)) 31) := HG9.out.below hbz HG9.out.lt
         replace HR1 : Hid (Reads y10 (.slice a1 n1 c1) s.2) := HR1.out.below hbz
         replace HR2 : Hid (Reads y10 (.slice a2 n2 c2) s.2) := HR2.out.below hbz
         replace HBW : Hid (Below w.heap.size w y10) := HBW.out.trans (hbz.mono HBW.out.size)
         clear hbz )
      | (clear tk18; with_reducible refine wpSeq_loadW 23 (.tmp 3) g3 0 (cb seed) _ ?_ Tryd.underlying23 rfl ?_ ?_ ?_ ?_ ?_
         · exact HG3.out.range
         · exact HID.out.1
         · rfl
         · rfl
         · rfl)
      | (clear tk19; go_at_call 13; refine (HC5.out y10 HBW.out).mono ?_; rintro e y11 ⟨rfl, hbz⟩
         replace HG3 : Hid (Blk y11 g3 (cb seed) 23) := HG3.out.below hbz HG3.out.lt
         replace HG4 : Hid (Blk y11 g4 (hdC (n, rt, ky)) 26) := HG4.out.below hbz HG4.out.lt
         replace HG5 : Hid (Blk y11 g5 (cb tree) 23) := HG5.out.below hbz HG5.out.lt
         replace HG7 : Hid (Blk y11 g7 (sgC s (.slice a1 n1 c1)) 31) := HG7.out.below hbz HG7.out.lt
         replace HG9 : Hid (Blk y11 g9 (sgC s (.slice a2 n2 c2)) 31) := HG9.out.below hbz HG9.out.lt
         replace HR1 : Hid (Reads y11 (.slice a1 n1 c1) s.2) := HR1.out.below hbz
         replace HR2 : Hid (Reads y11 (.slice a2 n2 c2) s.2) := HR2.out.below hbz
         replace HBW : Hid (Below w.heap.size w y11) := HBW.out.trans (hbz.mono HBW.out.size)
         clear hbz )
      | (clear tk20; with_reducible refine wpSeq_storeKey (.tmp 43) (.tmp 42) g4 n rt ky pk ?_ ?_ ?_ ?_ ?_ ?_ ?_ ?_ ?_
         · exact HG4.out
         · exact HOH.out.1
         · exact HOH.out.2.1
         · exact HPL.out
         · rfl
         · rfl
         · rfl
         · rfl
         intro y12 hs
         have HXX : Hid (g4 < g5 ∧ w.heap.size ≤ g4) := HLT.out
         replace HG3 : Hid (Blk y12 g3 (cb seed) 23) := HG3.out.only hs.only (by have := HN4.out; omega)
         replace HG5 : Hid (Blk y12 g5 (cb tree) 23) := HG5.out.only hs.only (by have := HN4.out; omega)
         replace HG7 : Hid (Blk y12 g7 (sgC s (.slice a1 n1 c1)) 31) := HG7.out.only hs.only (by have := HN4.out; omega)
         replace HG9 : Hid (Blk y12 g9 (sgC s (.slice a2 n2 c2)) 31) := HG9.out.only hs.only (by have := HN4.out; omega)
         replace HR1 : Hid (Reads y12 (.slice a1 n1 c1) s.2) := HR1.out.apartB hs.only (HF1.out)
         replace HR2 : Hid (Reads y12 (.slice a2 n2 c2) s.2) := HR2.out.apartB hs.only (HF2.out)
         replace HG4 : Hid (Blk y12 g4 (hdC (n, rt, pk)) 26) := hs.blk
         replace HBW : Hid (Below w.heap.size w y12) := HBW.out.trans (hs.only.below HLT.out.2 HBW.out.size)
         have ce : y12.cell? ⟨g4, 0, none⟩ = some (.int .u64 (n : Int)) := HG4.out.cell 0
         clear hs HXX)
      | (clear tk21; with_reducible refine wpSeq_buildZD ?_ ?_ ?_
         · rfl
         · rfl
         clear ce)
      | (clear tk22; with_reducible refine wpSeq_storeKey (.tmp 48) (.tmp 47) g4 n rt pk zb32 ?_ ?_ ?_ ?_ ?_ ?_ ?_ ?_ ?_
         · exact HG4.out
         · exact HOH.out.1
         · exact HPL.out
         · exact rfl
         · rfl
         · rfl
         · rfl
         · rfl
         intro y13 hs
         have HXX : Hid (g4 < g5 ∧ w.heap.size ≤ g4) := HLT.out
         replace HG3 : Hid (Blk y13 g3 (cb seed) 23) := HG3.out.only hs.only (by have := HN4.out; omega)
         replace HG5 : Hid (Blk y13 g5 (cb tree) 23) := HG5.out.only hs.only (by have := HN4.out; omega)
         replace HG7 : Hid (Blk y13 g7 (sgC s (.slice a1 n1 c1)) 31) := HG7.out.only hs.only (by have := HN4.out; omega)
         replace HG9 : Hid (Blk y13 g9 (sgC s (.slice a2 n2 c2)) 31) := HG9.out.only hs.only (by have := HN4.out; omega)
         replace HR1 : Hid (Reads y13 (.slice a1 n1 c1) s.2) := HR1.out.apartB hs.only (HF1.out)
         replace HR2 : Hid (Reads y13 (.slice a2 n2 c2) s.2) := HR2.out.apartB hs.only (HF2.out)
         replace HG4 : Hid (Blk y13 g4 (hdC (n, rt, zb32)) 26) := hs.blk
         replace HBW : Hid (Below w.heap.size w y13) := HBW.out.trans (hs.only.below HLT.out.2 HBW.out.size)
         clear hs HXX)
      | (clear tk23; with_reducible refine wpSeq_loadW 26 (.tmp 4) g4 0 (hdC (n, rt, zb32)) _ ?_ Tryd.underlying26 rfl ?_ ?_ ?_ ?_ ?_
         · exact HG4.out.range
         · exact info_hdC HOK.out
         · rfl
         · rfl
         · rfl)
      | (clear tk24; with_reducible refine wpSeq_loadW 31 (.tmp 7) g7 0 (sgC s (.slice a1 n1 c1)) _ ?_ Tryd.underlying31 rfl ?_ ?_ ?_ ?_ ?_
         · exact HG7.out.range
         · exact info_sgC HOS.out _
         · rfl
         · rfl
         · rfl)
      | (clear tk25; go_at_call 14; refine (HC3.out y13 _ HBW.out HR1.out).mono ?_; rintro e y14 ⟨rfl, hbz⟩
         replace HG3 : Hid (Blk y14 g3 (cb seed) 23) := HG3.out.below hbz HG3.out.lt
         replace HG4 : Hid (Blk y14 g4 (hdC (n, rt, zb32)) 26) := HG4.out.below hbz HG4.out.lt
         replace HG5 : Hid (Blk y14 g5 (cb tree) 23) := HG5.out.below hbz HG5.out.lt
         replace HG7 : Hid (Blk y14 g7 (sgC s (.slice a1 n1 c1)) 31) := HG7.out.below hbz HG7.out.lt
         replace HG9 : Hid (Blk y14 g9 (sgC s (.slice a2 n2 c2)) 31) := HG9.out.below hbz HG9.out.lt
         replace HR1 : Hid (Reads y14 (.slice a1 n1 c1) s.2) := HR1.out.below hbz
         replace HR2 : Hid (Reads y14 (.slice a2 n2 c2) s.2) := HR2.out.below hbz
         replace HBW : Hid (Below w.heap.size w y14) := HBW.out.trans (hbz.mono HBW.out.size)
         clear hbz )
      | (clear tk26; with_reducible refine wpSeq_allocH ?_ ?_ ?_
         · rfl
         · rfl
         intro g11 y15 nn)
      | (clear tk27; with_reducible refine wpSeq_storeRow 26 (.tmp 11) (.tmp 53) g11 (hdC zeroH) (hdC hf) ?_ ?_ ?_ ?_ ?_ ?_ ?_ ?_ ?_
         · exact nn.blk
         · first | (with_reducible rfl) | rw [len_hdC HOF.out, len_hdC okH_zero]
         · exact info_hdC HOF.out
         · exact hdC_one _
         · rfl
         · rfl
         · rfl
         · rfl
         intro y16 hs
         have hbz := nn.below.trans (hs.only.below nn.ge nn.below.size)
         replace HG3 : Hid (Blk y16 g3 (cb seed) 23) := HG3.out.below hbz HG3.out.lt
         replace HG4 : Hid (Blk y16 g4 (hdC (n, rt, zb32)) 26) := HG4.out.below hbz HG4.out.lt
         replace HG5 : Hid (Blk y16 g5 (cb tree) 23) := HG5.out.below hbz HG5.out.lt
         replace HG7 : Hid (Blk y16 g7 (sgC s (.slice a1 n1 c1)) 31) := HG7.out.below hbz HG7.out.lt
         replace HG9 : Hid (Blk y16 g9 (sgC s (.slice a2 n2 c2)) 31) := HG9.out.below hbz HG9.out.lt
         replace HR1 : Hid (Reads y16 (.slice a1 n1 c1) s.2) := HR1.out.below hbz
         replace HR2 : Hid (Reads y16 (.slice a2 n2 c2) s.2) := HR2.out.below hbz
         replace HBW : Hid (Below w.heap.size w y16) := HBW.out.trans (hbz.mono HBW.out.size)
         have HG11 : Hid (Blk y16 g11 (hdC hf) 26) := hs.blk
         clear nn hs hbz)
      | (clear tk28; with_reducible refine wpSeq_loadW 26 (.tmp 4) g4 0 (hdC (n, rt, zb32)) _ ?_ Tryd.underlying26 rfl ?_ ?_ ?_ ?_ ?_
         · exact HG4.out.range
         · exact info_hdC HOK.out
         · rfl
         · rfl
         · rfl)
      | (clear tk29; with_reducible refine wpSeq_loadW 31 (.tmp 9) g9 0 (sgC s (.slice a2 n2 c2)) _ ?_ Tryd.underlying31 rfl ?_ ?_ ?_ ?_ ?_
         · exact HG9.out.range
         · exact info_sgC HOS.out _
         · rfl
         · rfl
         · rfl)
      | (clear tk30; go_at_call 15; refine (HC4.out y16 _ HBW.out HR2.out).mono ?_; rintro e y17 ⟨rfl, hbz⟩
         replace HG3 : Hid (Blk y17 g3 (cb seed) 23) := HG3.out.below hbz HG3.out.lt
         replace HG4 : Hid (Blk y17 g4 (hdC (n, rt, zb32)) 26) := HG4.out.below hbz HG4.out.lt
         replace HG5 : Hid (Blk y17 g5 (cb tree) 23) := HG5.out.below hbz HG5.out.lt
         replace HG7 : Hid (Blk y17 g7 (sgC s (.slice a1 n1 c1)) 31) := HG7.out.below hbz HG7.out.lt
         replace HG9 : Hid (Blk y17 g9 (sgC s (.slice a2 n2 c2)) 31) := HG9.out.below hbz HG9.out.lt
         replace HG11 : Hid (Blk y17 g11 (hdC hf) 26) := HG11.out.below hbz HG11.out.lt
         replace HR1 : Hid (Reads y17 (.slice a1 n1 c1) s.2) := HR1.out.below hbz
         replace HR2 : Hid (Reads y17 (.slice a2 n2 c2) s.2) := HR2.out.below hbz
         replace HBW : Hid (Below w.heap.size w y17) := HBW.out.trans (hbz.mono HBW.out.size)
         clear hbz )
      | (clear tk31; with_reducible refine wpSeq_allocH ?_ ?_ ?_
         · rfl
         · rfl
         intro g13 y18 nn)
      | (clear tk32; with_reducible refine wpSeq_storeRow 26 (.tmp 13) (.tmp 59) g13 (hdC zeroH) (hdC hf) ?_ ?_ ?_ ?_ ?_ ?_ ?_ ?_ ?_
         · exact nn.blk
         · first | (with_reducible rfl) | rw [len_hdC HOF.out, len_hdC okH_zero]
         · exact info_hdC HOF.out
         · exact hdC_one _
         · rfl
         · rfl
         · rfl
         · rfl
         intro y19 hs
         have hbz := nn.below.trans (hs.only.below nn.ge nn.below.size)
         replace HG3 : Hid (Blk y19 g3 (cb seed) 23) := HG3.out.below hbz HG3.out.lt
         replace HG4 : Hid (Blk y19 g4 (hdC (n, rt, zb32)) 26) := HG4.out.below hbz HG4.out.lt
         replace HG5 : Hid (Blk y19 g5 (cb tree) 23) := HG5.out.below hbz HG5.out.lt
         replace HG7 : Hid (Blk y19 g7 (sgC s (.slice a1 n1 c1)) 31) := HG7.out.below hbz HG7.out.lt
         replace HG9 : Hid (Blk y19 g9 (sgC s (.slice a2 n2 c2)) 31) := HG9.out.below hbz HG9.out.lt
         replace HG11 : Hid (Blk y19 g11 (hdC hf) 26) := HG11.out.below hbz HG11.out.lt
         replace HR1 : Hid (Reads y19 (.slice a1 n1 c1) s.2) := HR1.out.below hbz
         replace HR2 : Hid (Reads y19 (.slice a2 n2 c2) s.2) := HR2.out.below hbz
         replace HBW : Hid (Below w.heap.size w y19) := HBW.out.trans (hbz.mono HBW.out.size)
         have HG13 : Hid (Blk y19 g13 (hdC hf) 26) := hs.blk
         have ce2 : y19.cell? ⟨g4, 0, none⟩ = some (.int .u64 (n : Int)) := HG4.out.cell 0
         clear nn hs hbz)
      | (clear tk33; with_reducible refine wpSeq_loadW 26 (.tmp 11) g11 0 (hdC hf) _ ?_ Tryd.underlying26 rfl ?_ ?_ ?_ ?_ ?_
         · exact HG11.out.range
         · exact info_hdC HOF.out
         · rfl
         · rfl
         · rfl)
      | (clear tk34; with_reducible refine wpSeq_loadW 26 (.tmp 13) g13 0 (hdC hf) _ ?_ Tryd.underlying26 rfl ?_ ?_ ?_ ?_ ?_
         · exact HG13.out.range
         · exact info_hdC HOF.out
         · rfl
         · rfl
         · rfl)
      | (clear tk35; with_reducible refine wpSeq_eqH (.tmp 61) (.tmp 62) hf hf HOF.out HOF.out true ?_ ?_ ?_ ?_ ?_ ?_
         · exact (decide_eq_true rfl).symm
         · rfl
         · rfl
         · rfl
         · rfl)
      | (clear tk36; go_at_call 12; refine (HCW.out y19 HBW.out).mono ?_; rintro e y20 ⟨rfl, hbz⟩
         replace HG3 : Hid (Blk y20 g3 (cb seed) 23) := HG3.out.below hbz HG3.out.lt
         replace HG4 : Hid (Blk y20 g4 (hdC (n, rt, zb32)) 26) := HG4.out.below hbz HG4.out.lt
         replace HG5 : Hid (Blk y20 g5 (cb tree) 23) := HG5.out.below hbz HG5.out.lt
         replace HG7 : Hid (Blk y20 g7 (sgC s (.slice a1 n1 c1)) 31) := HG7.out.below hbz HG7.out.lt
         replace HG9 : Hid (Blk y20 g9 (sgC s (.slice a2 n2 c2)) 31) := HG9.out.below hbz HG9.out.lt
         replace HG11 : Hid (Blk y20 g11 (hdC hf) 26) := HG11.out.below hbz HG11.out.lt
         replace HG13 : Hid (Blk y20 g13 (hdC hf) 26) := HG13.out.below hbz HG13.out.lt
         replace HR1 : Hid (Reads y20 (.slice a1 n1 c1) s.2) := HR1.out.below hbz
         replace HR2 : Hid (Reads y20 (.slice a2 n2 c2) s.2) := HR2.out.below hbz
         replace HBW : Hid (Below w.heap.size w y20) := HBW.out.trans (hbz.mono HBW.out.size)
         clear hbz ))
    go_ret
    first | exact ⟨rfl, HBW.out⟩ | exact ⟨trivial, HBW.out⟩
end Go.Proofs.YtfbdnhadcnmfoaaDoor
/- The walk of the reference's Pair (as in layer 9). -/
namespace Go.Proofs.YtfbdnhadcnmfoaaDoor
open Go.RowKit
set_option maxRecDepth 100000
def pairB9 (a b : List (BitVec 8)) : Bool := decide (a ≠ b) && decide (dig a = dig b)
set_option maxRecDepth 100000 in
set_option maxHeartbeats 4000000 in
theorem qPair_any (va vb : Value) (a b : List (BitVec 8)) (w : World) (ha : Reads w va a) (hb : Reads w vb b) (hla : a.length < 140737488355000) (hlb : b.length < 140737488355000) :
    Calls Tryd.prog 22 #[va, vb] w fun e w' => e = .returned (.bool (pairB9 a b)) ∧ Below w.heap.size w w' := by
  have HA : Hid (Reads w va a) := ha
  have HB : Hid (Reads w vb b) := hb
  have HLA : Hid (a.length < 140737488355000) := hla
  have HLB : Hid (b.length < 140737488355000) := hlb
  have hca := conv_reads ha
  have hcb := conv_reads hb
  obtain ⟨aa, na, ca, hva⟩ := ha.form
  subst hva
  obtain ⟨ab, nb, cbb, hvb⟩ := hb.form
  subst hvb
  have hne := strB_inj a b
  obtain ⟨da, HDA⟩ : ∃ d, Hid (d = dig a) := ⟨_, rfl⟩
  obtain ⟨db, HDB⟩ : ∃ d, Hid (d = dig b) := ⟨_, rfl⟩
  have HLS : Hid (da.length = 32) := by show _ = _; rw [HDA.out]; exact len_dig' _
  have HLT : Hid (db.length = 32) := by show _ = _; rw [HDB.out]; exact len_dig' _
  clear ha hb hla hlb
  by_cases hst : a = b
  · rw [decide_eq_true hst] at hne
    have HP : Hid (pairB9 a b = false) := by show _ = _; rw [hst]; simp [pairB9]
    rw [HP.out]
    clear hst HP
    go_enter Tryd.func22, Tryd.ntmps22
    go_wp2
    go_ret
    exact ⟨rfl, Below.refl _ _⟩
  · rw [decide_eq_false hst] at hne
    have HP : Hid (pairB9 a b = decide (da = db)) := by show _ = _; rw [HDA.out, HDB.out]; simp [pairB9, hst]
    rw [HP.out]
    clear hst HP
    have heq : ∀ wx : World, (Op.equalIn 10000 23 (.agg (cb da).toArray) (.agg (cb db).toArray)).run Tryd.prog wx = .ok (decide (da = db)) wx := fun wx => eq_dig da db HLS.out HLT.out wx
    obtain ⟨o, HO⟩ : ∃ o, Hid (o = decide (da = db)) := ⟨_, rfl⟩
    rw [← HO.out] at heq ⊢
    clear HO
    go_enter Tryd.func22, Tryd.ntmps22
    go_wp2_with (first
      | (go_at_call 32; refine (rOf_big (.slice aa na ca) a _ HA.out HLA.out).mono ?_; rintro e w1 ⟨rfl, hb1⟩; rw [← HDA.out]
         have HB1 : Hid (Below w.heap.size w w1) := hb1
         replace HB : Hid (Reads w1 (.slice ab nb cbb) b) := HB.out.below hb1
         clear hb1 hca hcb HA)
      | (go_at_call 32; refine (rOf_big (.slice ab nb cbb) b _ HB.out HLB.out).mono ?_; rintro e w2 ⟨rfl, hb2⟩; rw [← HDB.out]
         replace HB1 : Hid (Below w.heap.size w w2) := HB1.out.trans (hb2.mono HB1.out.size)
         clear hb2))
    go_ret
    exact ⟨rfl, HB1.out⟩
end Go.Proofs.YtfbdnhadcnmfoaaDoor
/- ChainOne, over what chain's functions do (layer 11). -/
namespace Go.Proofs.YtfbdnhadcnmfoaaDoor
open Go.RowKit Go.Shelf
set_option maxRecDepth 100000
/-- both lists in memory -/
structure OnI (w : World) (vl vm : Value) (l m : List SgT) (W : World) : Prop where
  l : ReadsS W vl l
  m : ReadsS W vm m
  bel : Below w.heap.size w W
theorem OnI.next {w : World} {vl vm : Value} {l m : List SgT} {W W' : World} (h : OnI w vl vm l m W) (hb : Below W.heap.size W W') : OnI w vl vm l m W' := ⟨h.l.below hb, h.m.below hb, h.bel.trans (hb.mono h.bel.size)⟩
theorem neqR_op (f : Operand → Value) (o : Oper) (x y : Operand) (s t : SgT) (os : okS s) (ot : okS t) (hst : s.1 = t.1) (ca cb2 : List Value) (hca : ca = rtC s) (hcb : cb2 = rtC t) (ho : o.op = .binOp .neq 28 x y 28) (hx : f x = .agg ca.toArray) (hy : f y = .agg cb2.toArray) (w : World) :
    (execOp f o).run Tryd.prog w = .ok (.value (.bool false)) w := by
  subst hca hcb
  have he := eq_rt s t os ot w
  rw [decide_eq_true hst] at he
  have hg := run_eqGuard_agg (P := Tryd.prog) (w := w) .neq 28 x y (rtC s).toArray (rtC t).toArray (by kernel_rfl)
  unfold execOp
  rw [ho]
  simp only [hx, hy, Sem.run_bind, hg, run_neq_struct, he, Result.andThen_ok, Sem.run_pure, Bool.not_true]
/-- a root's bytes out of a list -/
theorem ReadsS.rootAt {w : World} {b off n cp : Nat} {l : List SgT} (h : ReadsS w (.slice (some ⟨b, off, none⟩) n cp) l) {j : Nat} (hj : j < l.length) : w.rangeAt b (off + j * 98) (rtC (l.getD j zeroS)) := by
  obtain ⟨b', off', cp', hv, hy⟩ := h.at (by omega)
  simp only [Value.slice.injEq, Option.some.injEq, Addr.mk.injEq, and_true] at hv
  obtain ⟨⟨rfl, rfl⟩, _⟩ := hv
  obtain ⟨vs, h1, _⟩ := hy j hj
  exact h1.root
set_option maxRecDepth 100000 in
set_option maxHeartbeats 8000000 in
theorem chainOne_law (hO : ChOps) (h : HdT) (vl vm : Value) (l m : List SgT) (w : World) (hK : KOk w) (oh : okH h) (hl : ReadsS w vl l) (hm : ReadsS w vm m) :
    Calls Tryd.prog 7 #[.agg (hdC h).toArray, vl, vm] w fun e w' => e = .returned (.bool true) ∧ Below w.heap.size w w' := by
  obtain ⟨⟨al, cl, hv, hq1, hq2, hq3⟩, hokl⟩ := id hl
  clear hq1 hq2 hq3
  obtain ⟨⟨am, cm, hv2, hq1, hq2, hq3⟩, hokm⟩ := id hm
  clear hq1 hq2 hq3
  obtain ⟨n, HN⟩ : ∃ n, Hid (n = l.length) := ⟨_, rfl⟩
  obtain ⟨n2, HN2⟩ : ∃ n, Hid (n = m.length) := ⟨_, rfl⟩
  rw [← HN.out] at hv
  rw [← HN2.out] at hv2
  subst hv hv2
  have HRL : Hid (ReadsS w (.slice al n cl) l) := hl
  have HRM : Hid (ReadsS w (.slice am n2 cm) m) := hm
  have HCW : Hid (∀ W : World, Below w.heap.size w W → Calls Tryd.prog 12 #[] W fun e w' => e = .returned (.bool true) ∧ Below W.heap.size W w') := fun W hh => works11_any hO W (hK.below hh hK.lt)
  have HOH : Hid (okH h) := oh
  have HOKL : Hid ((∀ s ∈ l, okS s) ∧ (∀ s ∈ m, okS s)) := ⟨hokl, hokm⟩
  have HOP : Hid ChOps := hO
  have HKK : Hid (KOk w) := hK
  have HBW : Hid (Below w.heap.size w w) := Below.refl _ _
  clear hO hK oh hl hm hokl hokm
  go_enter Tryd.func7, Tryd.ntmps7
  have tk0 : Hid True := trivial
  go_upto_region 1 with (first
    | (clear tk0; with_reducible refine wpSeq_boxW 26 (.tmp 0) (hdC h) ?_ ?_ ?_ ?_
       · rfl
       · rfl
       · rfl
       intro g3 y1 nn
       replace HRL : Hid (ReadsS y1 (.slice al n cl) l) := HRL.out.below nn.below
       replace HRM : Hid (ReadsS y1 (.slice am n2 cm) m) := HRM.out.below nn.below
       replace HBW : Hid (Below w.heap.size w y1) := HBW.out.trans (nn.below.mono HBW.out.size)
       have HG3 : Hid (Blk y1 g3 (hdC h) 26) := nn.blk
       clear nn))
  go_cut [30] from 16 to 30 (fun t W => ∃ o, t = .bool o ∧ W = y1 ∧ (o = false → l.length ≤ 40 ∧ m.length ≤ 40 ∧ n = n2))
  case first =>
    have tk1 : Hid True := trivial
    go_wp2_with (first
      | (clear tk1; go_at_call 16; refine (few11_any _ l _ HRL.out).mono ?_; rintro e yf ⟨b1, rfl, hb1, rfl⟩; cases b1)
      | (go_at_call 16; refine (few11_any _ m _ HRM.out).mono ?_; rintro e yg ⟨b2, rfl, hb2, rfl⟩; cases b2))
    all_goals (go_meet; refine ⟨_, rfl, rfl, fun ho => ?_⟩)
    all_goals first | (cases ho; done) | (simp at ho; done) | skip
    all_goals exact ⟨hb1 (by trivial), hb2 (by trivial), by have hz := ho; simp at hz; omega⟩
  case rest =>
    obtain ⟨o, rfl, rfl, ho⟩ := hcut
    cases o with
    | true =>
      clear ho
      have tk20 : Hid True := trivial
      go_wp2_with (first
        | (clear tk20; go_at_call 12; refine (HCW.out wc HBW.out).mono ?_; rintro e y21 ⟨rfl, hbz⟩
           replace HG3 : Hid (Blk y21 g3 (hdC h) 26) := HG3.out.below hbz HG3.out.lt
           replace HRL : Hid (ReadsS y21 (.slice al n cl) l) := HRL.out.below hbz
           replace HRM : Hid (ReadsS y21 (.slice am n2 cm) m) := HRM.out.below hbz
           replace HBW : Hid (Below w.heap.size w y21) := HBW.out.trans (hbz.mono HBW.out.size)
           clear hbz ))
      go_ret
      first | exact ⟨rfl, HBW.out⟩ | exact ⟨trivial, HBW.out⟩
    | false =>
      obtain ⟨h40, h41, hnn⟩ := ho rfl
      subst hnn
      have HL40 : Hid (l.length ≤ 40 ∧ m.length ≤ 40) := ⟨h40, h41⟩
      clear ho h40 h41
      obtain ⟨ha, HHA⟩ : ∃ c, Hid (c = (walkR h l).1) := ⟨_, rfl⟩
      obtain ⟨na, HNA⟩ : ∃ c, Hid (c = (walkR h l).2.1) := ⟨_, rfl⟩
      obtain ⟨ea, HEA⟩ : ∃ c, Hid (c = (walkR h l).2.2) := ⟨_, rfl⟩
      obtain ⟨hb, HHB⟩ : ∃ c, Hid (c = (walkR h m).1) := ⟨_, rfl⟩
      obtain ⟨nb, HNB⟩ : ∃ c, Hid (c = (walkR h m).2.1) := ⟨_, rfl⟩
      obtain ⟨eb, HEB⟩ : ∃ c, Hid (c = (walkR h m).2.2) := ⟨_, rfl⟩
      have HOA : Hid (okH ha) := by rw [HHA.out]; exact walk_okH l h HOH.out HOKL.out.1
      have HOB : Hid (okH hb) := by rw [HHB.out]; exact walk_okH m h HOH.out HOKL.out.2
      have HC1 : Hid (∀ W : World, Below w.heap.size w W → ReadsS W (.slice al n cl) l → Calls Tryd.prog 17 #[.agg (hdC h).toArray, .slice al n cl] W fun e w' => e = .returned (.tuple #[.agg (hdC ha).toArray, .int .i64 (na : Int), .int .i64 ea]) ∧ Below W.heap.size W w') := fun W hh hr => by rw [HHA.out, HNA.out, HEA.out]; exact HOP.out.walk W h _ l (HKK.out.below hh HKK.out.lt) HOH.out hr (by have := HL40.out; omega)
      have HC2 : Hid (∀ W : World, Below w.heap.size w W → ReadsS W (.slice am n cm) m → Calls Tryd.prog 17 #[.agg (hdC h).toArray, .slice am n cm] W fun e w' => e = .returned (.tuple #[.agg (hdC hb).toArray, .int .i64 (nb : Int), .int .i64 eb]) ∧ Below W.heap.size W w') := fun W hh hr => by rw [HHB.out, HNB.out, HEB.out]; exact HOP.out.walk W h _ m (HKK.out.below hh HKK.out.lt) HOH.out hr (by have := HL40.out; omega)
      have tk20 : Hid True := trivial
      have tk21 : Hid True := trivial
      have tk22 : Hid True := trivial
      have tk23 : Hid True := trivial
      have tk24 : Hid True := trivial
      have tk25 : Hid True := trivial
      have tk26 : Hid True := trivial
      have tk27 : Hid True := trivial
      go_upto_region 5 with (first
        | (clear tk20; with_reducible refine wpSeq_loadW 26 (.tmp 3) g3 0 (hdC h) _ ?_ Tryd.underlying26 rfl ?_ ?_ ?_ ?_ ?_
           · exact HG3.out.range
           · exact info_hdC HOH.out
           · rfl
           · rfl
           · rfl)
        | (clear tk21; go_at_call 17; refine (HC1.out wc HBW.out HRL.out).mono ?_; rintro e y21 ⟨rfl, hbz⟩
           replace HG3 : Hid (Blk y21 g3 (hdC h) 26) := HG3.out.below hbz HG3.out.lt
           replace HRL : Hid (ReadsS y21 (.slice al n cl) l) := HRL.out.below hbz
           replace HRM : Hid (ReadsS y21 (.slice am n cm) m) := HRM.out.below hbz
           replace HBW : Hid (Below w.heap.size w y21) := HBW.out.trans (hbz.mono HBW.out.size)
           clear hbz )
        | (clear tk22; with_reducible refine wpSeq_allocH ?_ ?_ ?_
           · rfl
           · rfl
           intro g7 y22 nn)
        | (clear tk23; with_reducible refine wpSeq_storeRow 26 (.tmp 7) (.tmp 36) g7 (hdC zeroH) (hdC ha) ?_ ?_ ?_ ?_ ?_ ?_ ?_ ?_ ?_
           · exact nn.blk
           · first | (with_reducible rfl) | rw [len_hdC HOA.out, len_hdC okH_zero]
           · exact info_hdC HOA.out
           · exact hdC_one _
           · rfl
           · rfl
           · rfl
           · rfl
           intro y23 hs
           have hbz := nn.below.trans (hs.only.below nn.ge nn.below.size)
           replace HG3 : Hid (Blk y23 g3 (hdC h) 26) := HG3.out.below hbz HG3.out.lt
           replace HRL : Hid (ReadsS y23 (.slice al n cl) l) := HRL.out.below hbz
           replace HRM : Hid (ReadsS y23 (.slice am n cm) m) := HRM.out.below hbz
           replace HBW : Hid (Below w.heap.size w y23) := HBW.out.trans (hbz.mono HBW.out.size)
           have HG7 : Hid (Blk y23 g7 (hdC ha) 26) := hs.blk
           clear nn hs hbz)
        | (clear tk24; with_reducible refine wpSeq_loadW 26 (.tmp 3) g3 0 (hdC h) _ ?_ Tryd.underlying26 rfl ?_ ?_ ?_ ?_ ?_
           · exact HG3.out.range
           · exact info_hdC HOH.out
           · rfl
           · rfl
           · rfl)
        | (clear tk25; go_at_call 17; refine (HC2.out y23 HBW.out HRM.out).mono ?_; rintro e y24 ⟨rfl, hbz⟩
           replace HG3 : Hid (Blk y24 g3 (hdC h) 26) := HG3.out.below hbz HG3.out.lt
           replace HG7 : Hid (Blk y24 g7 (hdC ha) 26) := HG7.out.below hbz HG7.out.lt
           replace HRL : Hid (ReadsS y24 (.slice al n cl) l) := HRL.out.below hbz
           replace HRM : Hid (ReadsS y24 (.slice am n cm) m) := HRM.out.below hbz
           replace HBW : Hid (Below w.heap.size w y24) := HBW.out.trans (hbz.mono HBW.out.size)
           clear hbz )
        | (clear tk26; with_reducible refine wpSeq_allocH ?_ ?_ ?_
           · rfl
           · rfl
           intro g10 y25 nn)
        | (clear tk27; with_reducible refine wpSeq_storeRow 26 (.tmp 10) (.tmp 43) g10 (hdC zeroH) (hdC hb) ?_ ?_ ?_ ?_ ?_ ?_ ?_ ?_ ?_
           · exact nn.blk
           · first | (with_reducible rfl) | rw [len_hdC HOB.out, len_hdC okH_zero]
           · exact info_hdC HOB.out
           · exact hdC_one _
           · rfl
           · rfl
           · rfl
           · rfl
           intro y26 hs
           have hbz := nn.below.trans (hs.only.below nn.ge nn.below.size)
           replace HG3 : Hid (Blk y26 g3 (hdC h) 26) := HG3.out.below hbz HG3.out.lt
           replace HG7 : Hid (Blk y26 g7 (hdC ha) 26) := HG7.out.below hbz HG7.out.lt
           replace HRL : Hid (ReadsS y26 (.slice al n cl) l) := HRL.out.below hbz
           replace HRM : Hid (ReadsS y26 (.slice am n cm) m) := HRM.out.below hbz
           replace HBW : Hid (Below w.heap.size w y26) := HBW.out.trans (hbz.mono HBW.out.size)
           have HG10 : Hid (Blk y26 g10 (hdC hb) 26) := hs.blk
           clear nn hs hbz))
      have HTW : Hid (ea = 0 → eb = 0 → ha.2.1 = hb.2.1 → ∀ q, q < l.length → (∀ j, q < j → j < l.length → (l.getD j zeroS).1 = (m.getD j zeroS).1) → dig (rbS (l.getD q zeroS)) = dig (rbS (m.getD q zeroS))) := by
        intro q1 q2 q3 q hq hs
        rw [HEA.out] at q1
        rw [HEB.out] at q2
        rw [HHA.out, HHB.out] at q3
        exact walk_two q1 q2 (by rw [← HN.out, ← HN2.out]) q3 HOKL.out.1 HOKL.out.2 q hq hs
      obtain ⟨ra, HRAA⟩ : ∃ c, Hid (c = ha.2.1) := ⟨_, rfl⟩
      obtain ⟨rb, HRBB⟩ : ∃ c, Hid (c = hb.2.1) := ⟨_, rfl⟩
      have HAT : Hid (y26.rangeAt g7 1 (cb ra) ∧ y26.rangeAt g10 1 (cb rb)) := by rw [HRAA.out, HRBB.out]; exact ⟨(HG7.out.hdAt HOA.out).rt, (HG10.out.hdAt HOB.out).rt⟩
      have HLR : Hid (ra.length = 32 ∧ rb.length = 32) := by rw [HRAA.out, HRBB.out]; exact ⟨HOA.out.1, HOB.out.1⟩
      have HID : Hid ((Tryd.prog.info? 23).map (·.size) = some (cb ra).length ∧ (Tryd.prog.info? 23).map (·.size) = some (cb rb).length) := by rw [cb_len, cb_len, HLR.out.1, HLR.out.2]; exact ⟨info_digest, info_digest⟩
      by_cases hea : ea = 0
      case neg =>
        have k1 : (ea == 0) = false := by rw [beq_eq_false_iff_ne]; exact hea
        have k2 : (ea != 0) = true := by rw [bne, k1]; rfl
        have tk40 : Hid True := trivial
        go_wp2_with (first
          | (clear tk40; go_at_call 12; refine (HCW.out y26 HBW.out).mono ?_; rintro e y41 ⟨rfl, hbz⟩
             replace HG3 : Hid (Blk y41 g3 (hdC h) 26) := HG3.out.below hbz HG3.out.lt
             replace HG7 : Hid (Blk y41 g7 (hdC ha) 26) := HG7.out.below hbz HG7.out.lt
             replace HG10 : Hid (Blk y41 g10 (hdC hb) 26) := HG10.out.below hbz HG10.out.lt
             replace HRL : Hid (ReadsS y41 (.slice al n cl) l) := HRL.out.below hbz
             replace HRM : Hid (ReadsS y41 (.slice am n cm) m) := HRM.out.below hbz
             replace HBW : Hid (Below w.heap.size w y41) := HBW.out.trans (hbz.mono HBW.out.size)
             clear hbz ))
        go_ret
        first | exact ⟨rfl, HBW.out⟩ | exact ⟨trivial, HBW.out⟩
      have k1 : (ea == 0) = true := by rw [beq_iff_eq]; exact hea
      have k2 : (ea != 0) = false := by rw [bne, k1]; rfl
      by_cases heb : eb = 0
      case neg =>
        have k3 : (eb == 0) = false := by rw [beq_eq_false_iff_ne]; exact heb
        have k4 : (eb != 0) = true := by rw [bne, k3]; rfl
        clear hea
        have tk40 : Hid True := trivial
        go_wp2_with (first
          | (clear tk40; go_at_call 12; refine (HCW.out y26 HBW.out).mono ?_; rintro e y41 ⟨rfl, hbz⟩
             replace HG3 : Hid (Blk y41 g3 (hdC h) 26) := HG3.out.below hbz HG3.out.lt
             replace HG7 : Hid (Blk y41 g7 (hdC ha) 26) := HG7.out.below hbz HG7.out.lt
             replace HG10 : Hid (Blk y41 g10 (hdC hb) 26) := HG10.out.below hbz HG10.out.lt
             replace HRL : Hid (ReadsS y41 (.slice al n cl) l) := HRL.out.below hbz
             replace HRM : Hid (ReadsS y41 (.slice am n cm) m) := HRM.out.below hbz
             replace HBW : Hid (Below w.heap.size w y41) := HBW.out.trans (hbz.mono HBW.out.size)
             clear hbz ))
        go_ret
        first | exact ⟨rfl, HBW.out⟩ | exact ⟨trivial, HBW.out⟩
      have k3 : (eb == 0) = true := by rw [beq_iff_eq]; exact heb
      have k4 : (eb != 0) = false := by rw [bne, k3]; rfl
      obtain ⟨bo, HBO⟩ : ∃ o, Hid (o = decide (ra = rb)) := ⟨_, rfl⟩
      have heq : ∀ wx : World, (Op.equalIn 10000 23 (.agg (cb ra).toArray) (.agg (cb rb).toArray)).run Tryd.prog wx = .ok bo wx := fun wx => by rw [HBO.out]; exact eq_dig ra rb HLR.out.1 HLR.out.2 wx
      have HT2 : Hid (ra = rb → ∀ q, q < l.length → (∀ j, q < j → j < l.length → (l.getD j zeroS).1 = (m.getD j zeroS).1) → dig (rbS (l.getD q zeroS)) = dig (rbS (m.getD q zeroS))) := fun q3 => HTW.out hea heb (by rw [← HRAA.out, ← HRBB.out]; exact q3)
      clear hea heb HTW HRAA HRBB
      cases bo with
      | false =>
        clear HT2
        have tk40 : Hid True := trivial
        have tk41 : Hid True := trivial
        have tk42 : Hid True := trivial
        go_wp2_with (first
          | (clear tk40; with_reducible refine wpSeq_loadW 23 (.tmp 53) g7 1 (cb ra) _ ?_ Tryd.underlying23 rfl ?_ ?_ ?_ ?_ ?_
             · exact HAT.out.1
             · exact HID.out.1
             · rfl
             · rfl
             · rfl)
          | (clear tk41; with_reducible refine wpSeq_loadW 23 (.tmp 55) g10 1 (cb rb) _ ?_ Tryd.underlying23 rfl ?_ ?_ ?_ ?_ ?_
             · exact HAT.out.2
             · exact HID.out.2
             · rfl
             · rfl
             · rfl)
          | (clear tk42; go_at_call 12; refine (HCW.out y26 HBW.out).mono ?_; rintro e y41 ⟨rfl, hbz⟩
             replace HG3 : Hid (Blk y41 g3 (hdC h) 26) := HG3.out.below hbz HG3.out.lt
             replace HG7 : Hid (Blk y41 g7 (hdC ha) 26) := HG7.out.below hbz HG7.out.lt
             replace HG10 : Hid (Blk y41 g10 (hdC hb) 26) := HG10.out.below hbz HG10.out.lt
             replace HRL : Hid (ReadsS y41 (.slice al n cl) l) := HRL.out.below hbz
             replace HRM : Hid (ReadsS y41 (.slice am n cm) m) := HRM.out.below hbz
             replace HBW : Hid (Below w.heap.size w y41) := HBW.out.trans (hbz.mono HBW.out.size)
             clear hbz ))
        go_ret
        first | exact ⟨rfl, HBW.out⟩ | exact ⟨trivial, HBW.out⟩
      | true =>
        have hrr0 : ra = rb := of_decide_eq_true HBO.out.symm
        have HRR : Hid (ra = rb) := hrr0
        clear hrr0
        have HDG : Hid (∀ q, q < l.length → (∀ j, q < j → j < l.length → (l.getD j zeroS).1 = (m.getD j zeroS).1) → dig (rbS (l.getD q zeroS)) = dig (rbS (m.getD q zeroS))) := HT2.out HRR.out
        clear HT2 HBO HRR
        have f1 : IntKind.i64.wrap ((n : Int) - 1) = (n : Int) - 1 := by have h1 := HL40.out.1; have h2 := HN.out; rw [IntKind.wrap_i64]; omega
        have tk40 : Hid True := trivial
        have tk41 : Hid True := trivial
        go_wp2_with (first
          | (clear tk40; with_reducible refine wpSeq_loadW 23 (.tmp 53) g7 1 (cb ra) _ ?_ Tryd.underlying23 rfl ?_ ?_ ?_ ?_ ?_
             · exact HAT.out.1
             · exact HID.out.1
             · rfl
             · rfl
             · rfl)
          | (clear tk41; with_reducible refine wpSeq_loadW 23 (.tmp 55) g10 1 (cb rb) _ ?_ Tryd.underlying23 rfl ?_ ?_ ?_ ?_ ?_
             · exact HAT.out.2
             · exact HID.out.2
             · rfl
             · rfl
             · rfl))
        have HI : Hid (OnI w (.slice al n cl) (.slice am n cm) l m y26) := ⟨HRL.out, HRM.out, HBW.out⟩
        clear HRL HRM HBW HG3 HG7 HG10 HAT HID HC1 HC2
        go_loopw [13] (fun i wr => ∃ (k : Nat) (z : Int), z = (k : Int) - 1 ∧ k ≤ n ∧ i = .int .i64 z ∧ (∀ j, k ≤ j → j < l.length → (l.getD j zeroS).1 = (m.getD j zeroS).1) ∧ OnI w (.slice al n cl) (.slice am n cm) l m wr) (fun i _ => (intOf i + 1).toNat)
        case atStart => exact ⟨n, _, rfl, Nat.le_refl _, rfl, fun j h1 h2 => by have := HN.out; omega, HI.out⟩
        case round =>
          clear HI
          obtain ⟨k, z, hz, hkn, rfl, hall, hI⟩ := hrel
          have HALL : Hid (∀ j, k ≤ j → j < l.length → (l.getD j zeroS).1 = (m.getD j zeroS).1) := hall
          have HI : Hid (OnI w (.slice al n cl) (.slice am n cm) l m wr) := hI
          clear hall hI
          by_cases hk0 : k = 0
          · have hneg : ¬ ((0 : Int) ≤ z) := by omega
            have HBW : Hid (Below w.heap.size w wr) := HI.out.bel
            clear hz
            go_wp2_with (first
              | (go_at_call 12; refine (HCW.out _ HBW.out).mono ?_; rintro e y90 ⟨rfl, hbz⟩
                 replace HBW : Hid (Below w.heap.size w y90) := HBW.out.trans (hbz.mono HBW.out.size)
                 clear hbz))
            go_ret
            first | exact ⟨rfl, HBW.out⟩ | exact ⟨trivial, HBW.out⟩
          · obtain ⟨q, hq⟩ : ∃ q, k = q + 1 := ⟨k - 1, by omega⟩
            have hzq : z = (q : Int) := by omega
            subst hzq
            have hpos : (0 : Int) ≤ (q : Int) := by omega
            have hlt : q < n := by omega
            have HQL : Hid (q < l.length ∧ q < m.length) := by have h1 := HN.out; have h2 := HN2.out; exact ⟨by omega, by omega⟩
            have HQK : Hid (k = q + 1) := hq
            obtain ⟨bl, ol, cl', hv, hat⟩ := HI.out.l.at (by have := HQL.out; omega)
            simp only [Value.slice.injEq] at hv
            obtain ⟨rfl, hnl, rfl⟩ := hv
            clear hnl hat
            obtain ⟨bm, om, cm', hv, hat⟩ := HI.out.m.at (by have := HQL.out; omega)
            simp only [Value.slice.injEq] at hv
            obtain ⟨rfl, hnl, rfl⟩ := hv
            clear hnl hat hz hk0 hq
            obtain ⟨sa, HSA⟩ : ∃ s, Hid (s = l.getD q zeroS) := ⟨_, rfl⟩
            obtain ⟨sb, HSB⟩ : ∃ s, Hid (s = m.getD q zeroS) := ⟨_, rfl⟩
            have HOS : Hid (okS sa ∧ okS sb) := by rw [HSA.out, HSB.out]; exact ⟨getD_okS HOKL.out.1 q, getD_okS HOKL.out.2 q⟩
            obtain ⟨ca, HCA⟩ : ∃ c, Hid (c = rtC sa) := ⟨_, rfl⟩
            obtain ⟨cb2, HCB⟩ : ∃ c, Hid (c = rtC sb) := ⟨_, rfl⟩
            obtain ⟨xa, HXA⟩ : ∃ c, Hid (c = rbS sa) := ⟨_, rfl⟩
            obtain ⟨xb, HXB⟩ : ∃ c, Hid (c = rbS sb) := ⟨_, rfl⟩
            have HXL : Hid (xa.length = 105 ∧ xb.length = 105) := by rw [HXA.out, HXB.out]; exact ⟨len_rbS HOS.out.1, len_rbS HOS.out.2⟩
            have HDD : Hid (dig xa = dig xb) := by show _ = _; rw [HXA.out, HXB.out, HSA.out, HSB.out]; exact HDG.out q HQL.out.1 (fun j h1 h2 => HALL.out j (by have := HQK.out; omega) h2)
            have HC3 : Hid (∀ W : World, Calls Tryd.prog 21 #[.agg ca.toArray] W fun e w' => ∃ v, e = .returned v ∧ Reads w' v xa ∧ Below W.heap.size W w') := fun W => by rw [HCA.out, HXA.out]; exact rRoot_any _ _ _ _ W ⟨HOS.out.1.1, HOS.out.1.2.1, HOS.out.1.2.2.1, HOS.out.1.2.2.2⟩
            have HC4 : Hid (∀ W : World, Calls Tryd.prog 21 #[.agg cb2.toArray] W fun e w' => ∃ v, e = .returned v ∧ Reads w' v xb ∧ Below W.heap.size W w') := fun W => by rw [HCB.out, HXB.out]; exact rRoot_any _ _ _ _ W ⟨HOS.out.2.1, HOS.out.2.2.1, HOS.out.2.2.2.1, HOS.out.2.2.2.2⟩
            obtain ⟨pp, HPP⟩ : ∃ o, Hid (o = pairB9 xa xb) := ⟨_, rfl⟩
            have HCP : Hid (∀ (W : World) (v1 v2 : Value), Reads W v1 xa → Reads W v2 xb → Calls Tryd.prog 22 #[v1, v2] W fun e w' => e = .returned (.bool pp) ∧ Below W.heap.size W w') := fun W v1 v2 h1 h2 => by rw [HPP.out]; exact qPair_any v1 v2 xa xb W h1 h2 (by rw [HXL.out.1]; decide) (by rw [HXL.out.2]; decide)
            have f9 : IntKind.i64.wrap ((q : Int) - 1) = (q : Int) - 1 := by have h1 := HL40.out.1; have h2 := HQL.out.1; rw [IntKind.wrap_i64]; omega
            go_wp2
            refine wp_region_held_drew (S := Over (World.drew wr)) (by kernel_rfl) (Over.refl _) ?_
            intro hS
            replace HI : Hid (OnI w (.slice (some ⟨bl, ol, none⟩) n cl) (.slice (some ⟨bm, om, none⟩) n cm) l m (World.drew wr)) := HI.out.next (Below.refl _ _).drew
            change wpAnyH _ _ _ _ _ _ _ _ (World.drew wr)
            generalize World.drew wr = y0 at *
            have HRA : Hid (∀ wx, Over y0 wx → wx.rangeAt bl (ol + q * 98) (rtC sa)) := fun wx hx => by rw [HSA.out]; exact ReadsS.rootAt (HI.out.next hx).l HQL.out.1
            have HRB : Hid (∀ wx, Over y0 wx → wx.rangeAt bm (om + q * 98) (rtC sb)) := fun wx hx => by rw [HSB.out]; exact ReadsS.rootAt (HI.out.next hx).m HQL.out.2
            try simp only [Act.put]
            refine wpAnyH_take (i := 0) (v := .slice (some ⟨bl, ol, none⟩) n cl) rfl (by kernel_rfl) (by kernel_rfl) (by kernel_rfl) (fun _ _ _ h => h) (Or.inl ⟨by rfl, fun wx hx => by simp [go_sem]⟩) hS ?_
            simp only [Act.put, List.getElem_toArray, List.getElem_cons_zero, List.setIfInBounds_toArray, List.set_cons_zero, List.set_cons_succ]
            refine wpAnyH_take (i := 1) (v := .int .i64 (q : Int)) rfl (by kernel_rfl) (by kernel_rfl) (by kernel_rfl) (fun _ _ _ h => h) (Or.inl ⟨by rfl, fun wx hx => by simp [go_sem]⟩) hS ?_
            simp only [Act.put, List.getElem_toArray, List.getElem_cons_succ, List.getElem_cons_zero, List.setIfInBounds_toArray, List.set_cons_zero, List.set_cons_succ]
            refine wpAnyH_take (i := 2) (v := .pointer (some ⟨bl, ol + q * 98, none⟩)) rfl (by kernel_rfl) (by kernel_rfl) (by kernel_rfl) (fun _ _ _ h => h) (Or.inl ⟨by rfl, fun wx hx => by exact idx98 bl ol cl n q hlt _ _ _ _ rfl rfl rfl _⟩) hS ?_
            simp only [Act.put, List.getElem_toArray, List.getElem_cons_succ, List.getElem_cons_zero, List.setIfInBounds_toArray, List.set_cons_zero, List.set_cons_succ]
            refine wpAnyH_take (i := 3) (v := .pointer (some ⟨bl, ol + q * 98, none⟩)) rfl (by kernel_rfl) (by kernel_rfl) (by kernel_rfl) (fun _ _ _ h => h) (Or.inl ⟨by rfl, fun wx hx => by simp [go_sem]⟩) hS ?_
            simp only [Act.put, List.getElem_toArray, List.getElem_cons_succ, List.getElem_cons_zero, List.setIfInBounds_toArray, List.set_cons_zero, List.set_cons_succ]
            refine wpAnyH_take (i := 4) (v := .agg ca.toArray) rfl (by kernel_rfl) (by kernel_rfl) (by kernel_rfl) (fun _ _ _ h => h) (Or.inl ⟨by rfl, fun wx hx => by rw [HCA.out]; exact load_run 28 _ rfl bl (ol + q * 98) rfl (rtC sa) _ (HRA.out _ hx) Tryd.underlying28 rfl (info_rtC HOS.out.1)⟩) hS ?_
            simp only [Act.put, List.getElem_toArray, List.getElem_cons_succ, List.getElem_cons_zero, List.setIfInBounds_toArray, List.set_cons_zero, List.set_cons_succ]
            refine wpAnyH_take (i := 6) (v := .slice (some ⟨bm, om, none⟩) n cm) rfl (by kernel_rfl) (by kernel_rfl) (by kernel_rfl) (fun _ _ _ h => h) (Or.inl ⟨by rfl, fun wx hx => by simp [go_sem]⟩) hS ?_
            simp only [Act.put, List.getElem_toArray, List.getElem_cons_succ, List.getElem_cons_zero, List.setIfInBounds_toArray, List.set_cons_zero, List.set_cons_succ]
            refine wpAnyH_take (i := 7) (v := .int .i64 (q : Int)) rfl (by kernel_rfl) (by kernel_rfl) (by kernel_rfl) (fun _ _ _ h => h) (Or.inl ⟨by rfl, fun wx hx => by simp [go_sem]⟩) hS ?_
            simp only [Act.put, List.getElem_toArray, List.getElem_cons_succ, List.getElem_cons_zero, List.setIfInBounds_toArray, List.set_cons_zero, List.set_cons_succ]
            refine wpAnyH_take (i := 8) (v := .pointer (some ⟨bm, om + q * 98, none⟩)) rfl (by kernel_rfl) (by kernel_rfl) (by kernel_rfl) (fun _ _ _ h => h) (Or.inl ⟨by rfl, fun wx hx => by exact idx98 bm om cm n q hlt _ _ _ _ rfl rfl rfl _⟩) hS ?_
            simp only [Act.put, List.getElem_toArray, List.getElem_cons_succ, List.getElem_cons_zero, List.setIfInBounds_toArray, List.set_cons_zero, List.set_cons_succ]
            refine wpAnyH_take (i := 9) (v := .pointer (some ⟨bm, om + q * 98, none⟩)) rfl (by kernel_rfl) (by kernel_rfl) (by kernel_rfl) (fun _ _ _ h => h) (Or.inl ⟨by rfl, fun wx hx => by simp [go_sem]⟩) hS ?_
            simp only [Act.put, List.getElem_toArray, List.getElem_cons_succ, List.getElem_cons_zero, List.setIfInBounds_toArray, List.set_cons_zero, List.set_cons_succ]
            refine wpAnyH_take (i := 10) (v := .agg cb2.toArray) rfl (by kernel_rfl) (by kernel_rfl) (by kernel_rfl) (fun _ _ _ h => h) (Or.inl ⟨by rfl, fun wx hx => by rw [HCB.out]; exact load_run 28 _ rfl bm (om + q * 98) rfl (rtC sb) _ (HRB.out _ hx) Tryd.underlying28 rfl (info_rtC HOS.out.2)⟩) hS ?_
            simp only [Act.put, List.getElem_toArray, List.getElem_cons_succ, List.getElem_cons_zero, List.setIfInBounds_toArray, List.set_cons_zero, List.set_cons_succ]
            refine wpAnyH_enter 5 (by kernel_rfl) rfl (by rfl) (f := 21) (args := #[.agg ca.toArray]) (by simp [go_sem]) (HC3.out _) ?_
            rintro e z1 ⟨v1, rfl, hr1, hbq⟩
            replace hS := Over.more hS hbq
            refine ⟨_, rfl, hS, ?_⟩
            clear hbq
            simp only [Act.put, List.getElem_toArray, List.getElem_cons_succ, List.getElem_cons_zero, List.setIfInBounds_toArray, List.set_cons_zero, List.set_cons_succ]
            refine wpAnyH_enter 11 (by kernel_rfl) rfl (by rfl) (f := 21) (args := #[.agg cb2.toArray]) (by simp [go_sem]) (HC4.out _) ?_
            rintro e z2 ⟨v2, rfl, hr2, hbq⟩
            replace hS := Over.more hS hbq
            replace hr1 := hr1.below hbq
            refine ⟨_, rfl, hS, ?_⟩
            clear hbq
            simp only [Act.put, List.getElem_toArray, List.getElem_cons_succ, List.getElem_cons_zero, List.setIfInBounds_toArray, List.set_cons_zero, List.set_cons_succ]
            refine wpAnyH_take (i := 12) (v := v1) rfl (by kernel_rfl) (by kernel_rfl) (by kernel_rfl) (fun _ _ _ h => h) (Or.inl ⟨by rfl, fun wx hx => by simp [go_sem]⟩) hS ?_
            simp only [Act.put, List.getElem_toArray, List.getElem_cons_succ, List.getElem_cons_zero, List.setIfInBounds_toArray, List.set_cons_zero, List.set_cons_succ]
            refine wpAnyH_take (i := 13) (v := v2) rfl (by kernel_rfl) (by kernel_rfl) (by kernel_rfl) (fun _ _ _ h => h) (Or.inl ⟨by rfl, fun wx hx => by simp [go_sem]⟩) hS ?_
            simp only [Act.put, List.getElem_toArray, List.getElem_cons_succ, List.getElem_cons_zero, List.setIfInBounds_toArray, List.set_cons_zero, List.set_cons_succ]
            refine wpAnyH_done (by kernel_rfl) ?_ _
            have HV1 : Hid (Reads z2 v1 xa) := hr1
            have HV2 : Hid (Reads z2 v2 xb) := hr2
            replace HI : Hid (OnI w (.slice (some ⟨bl, ol, none⟩) n cl) (.slice (some ⟨bm, om, none⟩) n cm) l m z2) := HI.out.next hS
            clear hS hr1 hr2 HRA HRB
            go_upto_if 81 with (first
              | (go_at_call 22; refine (HCP.out _ _ _ HV1.out HV2.out).mono ?_; rintro e z3 ⟨rfl, hbz⟩
                 replace HI : Hid (OnI w (.slice (some ⟨bl, ol, none⟩) n cl) (.slice (some ⟨bm, om, none⟩) n cm) l m z3) := HI.out.next hbz
                 clear hbz HV1 HV2))
            cases pp with
            | true =>
              have HBW : Hid (Below w.heap.size w z3) := HI.out.bel
              go_wp2_with (first
                | (go_at_call 12; refine (HCW.out _ HBW.out).mono ?_; rintro e y90 ⟨rfl, hbz⟩
                   replace HBW : Hid (Below w.heap.size w y90) := HBW.out.trans (hbz.mono HBW.out.size)
                   clear hbz))
              go_ret
              first | exact ⟨rfl, HBW.out⟩ | exact ⟨trivial, HBW.out⟩
            | false =>
              have HEQ : Hid (sa.1 = sb.1) := by
                show _ = _
                have h1 := HPP.out
                unfold pairB9 at h1
                rw [decide_eq_true HDD.out, Bool.and_true] at h1
                have h2 : xa = xb := Classical.byContradiction fun hne => absurd (of_decide_eq_false h1.symm) (fun hn => hn hne)
                rw [HXA.out, HXB.out] at h2
                exact (rbS_iff HOS.out.1 HOS.out.2).1 h2
              have HNQ : Hid (∀ (f : Operand → Value) (o : Oper), o.op = .binOp .neq 28 (.tmp 87) (.tmp 92) 28 → f (.tmp 87) = .agg ca.toArray → f (.tmp 92) = .agg cb2.toArray → ∀ W, (execOp f o).run Tryd.prog W = .ok (.value (.bool false)) W) := fun f o ho h1 h2 W => neqR_op f o _ _ sa sb HOS.out.1 HOS.out.2 HEQ.out ca cb2 HCA.out HCB.out ho h1 h2 W
              clear HPP HDD
              go_wp2
              refine wp_region_held_drew (S := Over (World.drew z3)) (by kernel_rfl) (Over.refl _) ?_
              intro hS
              replace HI : Hid (OnI w (.slice (some ⟨bl, ol, none⟩) n cl) (.slice (some ⟨bm, om, none⟩) n cm) l m (World.drew z3)) := HI.out.next (Below.refl _ _).drew
              change wpAnyH _ _ _ _ _ _ _ _ (World.drew z3)
              generalize World.drew z3 = y0 at *
              have HRA : Hid (∀ wx, Over y0 wx → wx.rangeAt bl (ol + q * 98) (rtC sa)) := fun wx hx => by rw [HSA.out]; exact ReadsS.rootAt (HI.out.next hx).l HQL.out.1
              have HRB : Hid (∀ wx, Over y0 wx → wx.rangeAt bm (om + q * 98) (rtC sb)) := fun wx hx => by rw [HSB.out]; exact ReadsS.rootAt (HI.out.next hx).m HQL.out.2
              try simp only [Act.put]
              refine wpAnyH_take (i := 0) (v := .slice (some ⟨bl, ol, none⟩) n cl) rfl (by kernel_rfl) (by kernel_rfl) (by kernel_rfl) (fun _ _ _ h => h) (Or.inl ⟨by rfl, fun wx hx => by simp [go_sem]⟩) hS ?_
              simp only [Act.put, List.getElem_toArray, List.getElem_cons_zero, List.setIfInBounds_toArray, List.set_cons_zero, List.set_cons_succ]
              refine wpAnyH_take (i := 1) (v := .int .i64 (q : Int)) rfl (by kernel_rfl) (by kernel_rfl) (by kernel_rfl) (fun _ _ _ h => h) (Or.inl ⟨by rfl, fun wx hx => by simp [go_sem]⟩) hS ?_
              simp only [Act.put, List.getElem_toArray, List.getElem_cons_succ, List.getElem_cons_zero, List.setIfInBounds_toArray, List.set_cons_zero, List.set_cons_succ]
              refine wpAnyH_take (i := 2) (v := .pointer (some ⟨bl, ol + q * 98, none⟩)) rfl (by kernel_rfl) (by kernel_rfl) (by kernel_rfl) (fun _ _ _ h => h) (Or.inl ⟨by rfl, fun wx hx => by exact idx98 bl ol cl n q hlt _ _ _ _ rfl rfl rfl _⟩) hS ?_
              simp only [Act.put, List.getElem_toArray, List.getElem_cons_succ, List.getElem_cons_zero, List.setIfInBounds_toArray, List.set_cons_zero, List.set_cons_succ]
              refine wpAnyH_take (i := 3) (v := .pointer (some ⟨bl, ol + q * 98, none⟩)) rfl (by kernel_rfl) (by kernel_rfl) (by kernel_rfl) (fun _ _ _ h => h) (Or.inl ⟨by rfl, fun wx hx => by simp [go_sem]⟩) hS ?_
              simp only [Act.put, List.getElem_toArray, List.getElem_cons_succ, List.getElem_cons_zero, List.setIfInBounds_toArray, List.set_cons_zero, List.set_cons_succ]
              refine wpAnyH_take (i := 4) (v := .agg ca.toArray) rfl (by kernel_rfl) (by kernel_rfl) (by kernel_rfl) (fun _ _ _ h => h) (Or.inl ⟨by rfl, fun wx hx => by rw [HCA.out]; exact load_run 28 _ rfl bl (ol + q * 98) rfl (rtC sa) _ (HRA.out _ hx) Tryd.underlying28 rfl (info_rtC HOS.out.1)⟩) hS ?_
              simp only [Act.put, List.getElem_toArray, List.getElem_cons_succ, List.getElem_cons_zero, List.setIfInBounds_toArray, List.set_cons_zero, List.set_cons_succ]
              refine wpAnyH_take (i := 5) (v := .slice (some ⟨bm, om, none⟩) n cm) rfl (by kernel_rfl) (by kernel_rfl) (by kernel_rfl) (fun _ _ _ h => h) (Or.inl ⟨by rfl, fun wx hx => by simp [go_sem]⟩) hS ?_
              simp only [Act.put, List.getElem_toArray, List.getElem_cons_succ, List.getElem_cons_zero, List.setIfInBounds_toArray, List.set_cons_zero, List.set_cons_succ]
              refine wpAnyH_take (i := 6) (v := .int .i64 (q : Int)) rfl (by kernel_rfl) (by kernel_rfl) (by kernel_rfl) (fun _ _ _ h => h) (Or.inl ⟨by rfl, fun wx hx => by simp [go_sem]⟩) hS ?_
              simp only [Act.put, List.getElem_toArray, List.getElem_cons_succ, List.getElem_cons_zero, List.setIfInBounds_toArray, List.set_cons_zero, List.set_cons_succ]
              refine wpAnyH_take (i := 7) (v := .pointer (some ⟨bm, om + q * 98, none⟩)) rfl (by kernel_rfl) (by kernel_rfl) (by kernel_rfl) (fun _ _ _ h => h) (Or.inl ⟨by rfl, fun wx hx => by exact idx98 bm om cm n q hlt _ _ _ _ rfl rfl rfl _⟩) hS ?_
              simp only [Act.put, List.getElem_toArray, List.getElem_cons_succ, List.getElem_cons_zero, List.setIfInBounds_toArray, List.set_cons_zero, List.set_cons_succ]
              refine wpAnyH_take (i := 8) (v := .pointer (some ⟨bm, om + q * 98, none⟩)) rfl (by kernel_rfl) (by kernel_rfl) (by kernel_rfl) (fun _ _ _ h => h) (Or.inl ⟨by rfl, fun wx hx => by simp [go_sem]⟩) hS ?_
              simp only [Act.put, List.getElem_toArray, List.getElem_cons_succ, List.getElem_cons_zero, List.setIfInBounds_toArray, List.set_cons_zero, List.set_cons_succ]
              refine wpAnyH_take (i := 9) (v := .agg cb2.toArray) rfl (by kernel_rfl) (by kernel_rfl) (by kernel_rfl) (fun _ _ _ h => h) (Or.inl ⟨by rfl, fun wx hx => by rw [HCB.out]; exact load_run 28 _ rfl bm (om + q * 98) rfl (rtC sb) _ (HRB.out _ hx) Tryd.underlying28 rfl (info_rtC HOS.out.2)⟩) hS ?_
              simp only [Act.put, List.getElem_toArray, List.getElem_cons_succ, List.getElem_cons_zero, List.setIfInBounds_toArray, List.set_cons_zero, List.set_cons_succ]
              refine wpAnyH_take (i := 10) (v := .bool false) rfl (by kernel_rfl) (by kernel_rfl) (by kernel_rfl) (fun _ _ _ h => h) (Or.inl ⟨by rfl, fun wx hx => by exact HNQ.out _ _ rfl rfl rfl _⟩) hS ?_
              simp only [Act.put, List.getElem_toArray, List.getElem_cons_succ, List.getElem_cons_zero, List.setIfInBounds_toArray, List.set_cons_zero, List.set_cons_succ]
              refine wpAnyH_done (by kernel_rfl) ?_ _
              go_wp2
              go_roundw
              case rel =>
                refine ⟨q, (q : Int) - 1, rfl, by omega, by simp, fun j h1 h2 => ?_, HI.out.next hS⟩
                by_cases hjq : j = q
                · subst hjq
                  rw [← HSA.out, ← HSB.out]
                  exact HEQ.out
                · exact HALL.out j (by have := HQK.out; omega) h2
              case measure => first | (simp [intOf]; done) | (simp [intOf]; omega)
end Go.Proofs.YtfbdnhadcnmfoaaDoor
/- What the listed variable gives: the rounds' words lie where the walks look for them. -/
namespace Go.Proofs.YtfbdnhadcnmfoaaDoor
open Go.ChangeShapes Go.WideShapes Go.ChangeAt Go.WideMaps Go.WideElems Go.RowKit
set_option maxRecDepth 100000
theorem own : ownKnob Tryd.prog.godebug = none := by kernel_rfl
theorem gKw : Tryd.prog.globalNamed "blazon/sha.roundWords" = some 0 := by kernel_rfl
theorem tKw : (Tryd.prog.globals[0]?).map (·.type) = some 95 := by kernel_rfl
def laidK : List (String × DataW Unit) := [("blazon/sha.roundWords", Rows.laid_blazon_sha_roundWords)]
def kzs : List Int := kw.map fun x => (x.toNat : Int)
theorem laid_tab : (Rows.laid_blazon_sha_roundWords : DataW Unit) = Lib.tabData .u32 kzs := by kernel_rfl
theorem door_met (os : Os) (args : Array Value) : laidMetH Tryd.prog laidK ((World.doorLaid Tryd.prog 400 os).forCall (fun _ _ => 0) ⟨#[], args, []⟩).memory :=
  laidMetH_of_parts3 (fuel := 8) (laidMet_of_run' 8 (by kernel_rfl) (by kernel_rfl)) (by kernel_rfl) (by kernel_rfl)
theorem getD_toNat (l : List (BitVec 32)) (j : Nat) : (l.map fun x => (x.toNat : Int)).getD j 0 = ((l.getD j 0).toNat : Int) := by
  rw [List.getD_eq_getElem?_getD, List.getD_eq_getElem?_getD, List.getElem?_map]
  cases l[j]? <;> rfl
theorem kok_of_laid {W : World} (h : laidMetH Tryd.prog laidK W) : KOk W := by
  rw [MakeChecks.laidMetH_plain _ _ _ (by kernel_rfl)] at h
  unfold laidK at h
  rw [laid_tab] at h
  have hT := Lib.tabIs_of_head gKw tKw Tryd.underlying95 Tryd.underlying85 (by kernel_rfl) (by kernel_rfl) h
  intro j hj
  rw [hT.cell gKw j (by simpa [kzs, kw] using hj), kzs, getD_toNat]
end Go.Proofs.YtfbdnhadcnmfoaaDoor
/- What a slice of bytes that came in gives: the bytes that it reads as; and that it reads so still behind a call that changed no old block. -/
namespace Go.Proofs.YtfbdnhadcnmfoaaDoor
open Go.ChangeShapes Go.WideShapes Go.ChangeAt Go.WideMaps Go.WideElems Go.RowKit
set_option maxRecDepth 100000
theorem cells_byte : Tryd.prog.cellsOf 5 = 1 := by kernel_rfl
theorem laid_out : laidOutB Tryd.prog = true := by kernel_rfl
theorem readable_bytes : Tryd.prog.readableRec 29 = true := by kernel_rfl
theorem row_bytes : 29 < Tryd.prog.types.size := of_decide_eq_true (by kernel_rfl)
theorem byte_range {zs : List Int} (h : ∀ n ∈ zs, (Lit.int .u8 n).wf = true) (j : Nat) : 0 ≤ zs.getD j 0 ∧ zs.getD j 0 < 256 := by
  rw [List.getD_eq_getElem?_getD]
  cases hj : zs[j]? with
  | none => simp
  | some n =>
    have := h n (List.mem_of_getElem? hj)
    have := bounds_u8 this
    simp
    omega
theorem reads_of_trod {H : Type} {enc : TypeId × Value → H} {W : World} {base : Nat} {v : Value} {d : DataW H} {p : List MemPlace} (hval : Value.okWide Tryd.prog W .any base 29 v)
    (h : DataW.Trod enc Tryd.prog W 0 (fun _ => true) true 29 v d p) :
    ∃ bs, Reads W v bs ∧ bs.length ≤ maxLen ∧ ∀ x ∈ p, x.block < W.heap.size := by
  obtain ⟨a1, len, cap, rfl⟩ := okWide_slice Tryd.underlying29 hval
  obtain ⟨fuel, hf⟩ := h
  rcases open_ints Tryd.underlying29 Tryd.underlying5 cells_byte hf with ⟨hcs, hx⟩ | ⟨a, len', cap', zs, hcs, _, hl, hm, hz, hx, hcell, hwz⟩
  · simp [Value.cells] at hcs
    obtain ⟨rfl, rfl, rfl⟩ := hcs
    simp only [Prod.mk.injEq] at hx
    obtain ⟨rfl, rfl⟩ := hx
    exact ⟨[], ⟨none, 0, rfl, Nat.le_refl _, fun _ => rfl, fun h => by cases h⟩, Nat.zero_le _, fun _ h => by cases h⟩
  · simp [Value.cells] at hcs
    obtain ⟨rfl, rfl, rfl⟩ := hcs
    simp only [Prod.mk.injEq] at hx
    obtain ⟨rfl, rfl⟩ := hx
    simp only [if_true] at hz
    have hlen : ((zs.take len).map fun n => BitVec.ofInt 8 n).length = len := by simp; omega
    obtain ⟨ab, ao, spot⟩ := a
    refine ⟨(zs.take len).map fun n => BitVec.ofInt 8 n, ⟨some ⟨ab, ao, spot⟩, cap, by rw [hlen], by rw [hlen]; exact hl, (fun h => by cases h), fun hp => ?_⟩, by rw [hlen]; omega, fun x hx => ?_⟩
    · rw [hlen] at hp ⊢
      have hspot : spot = none := by simpa [Addr.add] using World.cell?_spot (hcell 0 (by omega))
      subst hspot
      refine ⟨ab, ao, rfl, fun j hj => ?_⟩
      have hcj := hcell j (by omega)
      rw [Addr.add_lit] at hcj
      rw [hcj]
      have hb := byte_range hwz j
      have e : ((zs.take len).map fun n => BitVec.ofInt 8 n).getD j 0 = BitVec.ofInt 8 (zs.getD j 0) := by
        rw [List.getD_eq_getElem?_getD, List.getElem?_map, List.getElem?_take_of_lt hj, List.getD_eq_getElem?_getD, List.getElem?_eq_getElem (show j < zs.length by omega)]
        rfl
      rw [e, BitVec.toNat_ofInt]
      congr 2
      omega
    · simp only [MemPlace.row, List.mem_map, List.mem_range] at hx
      obtain ⟨i, hi, rfl⟩ := hx
      have hcj := hcell i (by omega)
      have := block_lt_of_cell hcj
      simp only [Addr.add] at this
      split at this <;> exact this
end Go.Proofs.YtfbdnhadcnmfoaaDoor
/- What a digest that came in gives: its 32 bytes. -/
namespace Go.Proofs.YtfbdnhadcnmfoaaDoor
open Go.ChangeShapes Go.WideShapes Go.ChangeAt Go.WideMaps Go.WideElems Go.RowKit
set_option maxRecDepth 100000
theorem cells_digest : Tryd.prog.cellsOf 23 = 32 := by kernel_rfl
theorem readable_digest : Tryd.prog.readableRec 23 = true := by kernel_rfl
theorem row_digest : 23 < Tryd.prog.types.size := of_decide_eq_true (by kernel_rfl)
def numOf8 : Value → BitVec 8
  | .int _ n => BitVec.ofInt 8 n
  | _ => 0
theorem digest_of_trod {H : Type} {enc : TypeId × Value → H} {W : World} {base : Nat} {v : Value} {d : DataW H} {p : List MemPlace} (hval : Value.okWide Tryd.prog W .any base 23 v)
    (h : DataW.Trod enc Tryd.prog W 0 (fun _ => true) true 23 v d p) :
    ∃ dg, v = .agg (cb dg).toArray ∧ dg.length = 32 ∧ ∀ x ∈ p, x.block < W.heap.size := by
  simp only [Value.okWide, Tryd.underlying23] at hval
  obtain ⟨cs, rfl, hcs, _⟩ := hval
  obtain ⟨fuel, hf⟩ := h
  obtain ⟨xs, m, _, hx, hl, hn, hi⟩ := DataW.trod_array Tryd.underlying23 hf
  simp only [Value.cells] at hl hi
  rw [cells_digest] at hl
  rw [cells_byte] at hi
  have each : ∀ i, i < 32 → ∃ n, cs.toList[i]? = some (.int .u8 n) ∧ xs[i]? = some (.lit (.int .u8 n), []) ∧ (Lit.int .u8 n).wf = true := by
    intro i h32
    have h1 := hi i h32
    rw [List.getElem?_eq_getElem (by omega)] at h1
    obtain ⟨n, hc, hxx, hw⟩ := DataW.trod_int Tryd.underlying5 h1
    refine ⟨n, ?_, by rw [List.getElem?_eq_getElem (by omega), hxx], hw⟩
    rw [Nat.mul_one] at hc
    have h2 := congrArg (fun l => l[0]?) hc
    simpa using h2
  have hlen : (cs.toList.map numOf8).length = 32 := by simpa using hl
  refine ⟨cs.toList.map numOf8, ?_, hlen, ?_⟩
  · congr 1
    apply Array.ext'
    rw [List.toList_toArray]
    apply List.ext_getElem?
    intro i
    by_cases h32 : i < 32
    · obtain ⟨n, h1, _, hw⟩ := each i h32
      have hb := bounds_u8 hw
      rw [h1, cb_get _ _ (by omega), List.getD_eq_getElem?_getD, List.getElem?_map, h1]
      simp only [Option.map_some, Option.getD_some, numOf8, BitVec.toNat_ofInt]
      congr 2
      omega
    · rw [List.getElem?_eq_none (by omega), List.getElem?_eq_none (by rw [cb_len]; omega)]
  · simp only [Prod.mk.injEq] at hx
    rw [hx.2]
    intro x hmem
    obtain ⟨y, hy, hxy⟩ := List.mem_flatMap.1 hmem
    obtain ⟨i, hlt, rfl⟩ := List.getElem_of_mem hy
    obtain ⟨n, _, h2, _⟩ := each i (by omega)
    rw [List.getElem?_eq_getElem hlt] at h2
    rw [Option.some.inj h2] at hxy
    cases hxy
end Go.Proofs.YtfbdnhadcnmfoaaDoor
/- What a slice of digests that came in gives; five arguments that came in, opened and shut (for the statements of layer 7). -/
namespace Go.Proofs.YtfbdnhadcnmfoaaDoor
open Go.ChangeShapes Go.WideShapes Go.ChangeAt Go.WideMaps Go.WideElems Go.RowKit
set_option maxRecDepth 100000
set_option maxRecDepth 100000 in
theorem bulk_pos {H : Type} (d : DataW H) : 1 ≤ Rows.uptoBulk d := by
  cases d with
  | lit l => cases l <;> simp [Rows.uptoBulk]
  | _ => simp [Rows.uptoBulk]
set_option maxRecDepth 100000 in
theorem bulk_slice {H : Type} (e s : List (DataW H)) : Rows.uptoBulkAll e ≤ Rows.uptoBulk (DataW.slice e s) := by
  simp only [Rows.uptoBulk]; omega
set_option maxRecDepth 100000 in
theorem bulk_len {H : Type} : ∀ l : List (DataW H), l.length ≤ Rows.uptoBulkAll l
  | [] => Nat.zero_le _
  | d :: r => by
    have h1 := bulk_len r
    have h2 := bulk_pos d
    simp only [Rows.uptoBulkAll, List.length_cons]
    omega
theorem digest_of_cells {H : Type} {enc : TypeId × Value → H} {W : World} {cs : List Value} {d : DataW H} {p : List MemPlace} {fuel : Nat} (hf : DataW.trod enc Tryd.prog W 0 (fun _ => true) true fuel 23 cs = some (d, p)) :
    ∃ dg, cs = cb dg ∧ dg.length = 32 ∧ ∀ x ∈ p, x.block < W.heap.size := by
  obtain ⟨xs, m, _, hx, hl, hn, hi⟩ := DataW.trod_array Tryd.underlying23 hf
  rw [cells_digest] at hl
  rw [cells_byte] at hi
  have each : ∀ i, i < 32 → ∃ n, cs[i]? = some (.int .u8 n) ∧ xs[i]? = some (.lit (.int .u8 n), []) ∧ (Lit.int .u8 n).wf = true := by
    intro i h32
    have h1 := hi i h32
    rw [List.getElem?_eq_getElem (by omega)] at h1
    obtain ⟨n, hc, hxx, hw⟩ := DataW.trod_int Tryd.underlying5 h1
    refine ⟨n, ?_, by rw [List.getElem?_eq_getElem (by omega), hxx], hw⟩
    rw [Nat.mul_one] at hc
    have h2 := congrArg (fun l => l[0]?) hc
    simpa using h2
  have hlen : (cs.map numOf8).length = 32 := by simpa using hl
  refine ⟨cs.map numOf8, ?_, hlen, ?_⟩
  · apply List.ext_getElem?
    intro i
    by_cases h32 : i < 32
    · obtain ⟨n, h1, _, hw⟩ := each i h32
      have hb := bounds_u8 hw
      rw [h1, cb_get _ _ (by omega), List.getD_eq_getElem?_getD, List.getElem?_map, h1]
      simp only [Option.map_some, Option.getD_some, numOf8, BitVec.toNat_ofInt]
      congr 2
      omega
    · rw [List.getElem?_eq_none (by omega), List.getElem?_eq_none (by rw [cb_len]; omega)]
  · simp only [Prod.mk.injEq] at hx
    rw [hx.2]
    intro x hmem
    obtain ⟨y, hy, hxy⟩ := List.mem_flatMap.1 hmem
    obtain ⟨i, hlt, rfl⟩ := List.getElem_of_mem hy
    obtain ⟨n, _, h2, _⟩ := each i (by omega)
    rw [List.getElem?_eq_getElem hlt] at h2
    rw [Option.some.inj h2] at hxy
    cases hxy
set_option maxRecDepth 100000 in
theorem readable_digests : Tryd.prog.readableRec 47 = true := by kernel_rfl
set_option maxRecDepth 100000 in
theorem row_digests : 47 < Tryd.prog.types.size := of_decide_eq_true (by kernel_rfl)
theorem readsD_of_trod {H : Type} {enc : TypeId × Value → H} {W : World} {base : Nat} {v : Value} {d : DataW H} {p : List MemPlace} (hval : Value.okWide Tryd.prog W .any base 47 v)
    (h : DataW.Trod enc Tryd.prog W 0 (fun _ => true) true 47 v d p) :
    ∃ ds, ReadsD W v ds ∧ ds.length ≤ Rows.uptoBulk d ∧ ∀ x ∈ p, x.block < W.heap.size := by
  obtain ⟨a1, len, cap, rfl⟩ := okWide_slice Tryd.underlying47 hval
  obtain ⟨fuel, hf⟩ := h
  rcases Go.Deep.open_slice Tryd.underlying47 hf with ⟨hcs, hx⟩ | ⟨a, len', cap', m, n, D, Pl, hcs, _, hl, hm, hmm, hx, hV⟩
  · simp [Value.cells] at hcs
    obtain ⟨rfl, rfl, rfl⟩ := hcs
    simp only [Prod.mk.injEq] at hx
    obtain ⟨rfl, rfl⟩ := hx
    exact ⟨[], ⟨⟨none, 0, rfl, Nat.le_refl _, fun _ => rfl, fun h => by cases h⟩, fun _ h => by cases h⟩, Nat.zero_le _, fun _ h => by cases h⟩
  · simp [Value.cells] at hcs
    obtain ⟨rfl, rfl, rfl⟩ := hcs
    simp only [Prod.mk.injEq] at hx
    obtain ⟨rfl, rfl⟩ := hx
    simp only [if_true] at hmm
    subst hmm
    rw [cells_digest] at hV
    obtain ⟨B, hB⟩ := Go.Deep.choose_lt (α := List (BitVec 8)) (p := fun i dg => W.cells? 0 (a.add (i * 32)) 32 = some (cb dg) ∧ dg.length = 32 ∧ ∀ x ∈ Pl i, x.block < W.heap.size) (fun i hi => by
      obtain ⟨cs', h1, h2⟩ := hV i hi
      obtain ⟨dg, rfl, h3, h4⟩ := digest_of_cells h2
      exact ⟨dg, h1, h3, h4⟩)
    have hlen : ((List.range len).map B).length = len := by simp
    obtain ⟨ab, ao, spot⟩ := a
    have cell : ∀ i, i < m → ∀ j, j < 32 → W.cell? ((⟨ab, ao, spot⟩ : Addr).add (i * 32 + j)) = (cb (B i))[j]? := by
      intro i hi j hj
      obtain ⟨h1, _, _⟩ := hB i hi
      obtain ⟨_, _, h4⟩ := World.cells?_some h1
      have := h4 j hj
      rw [Go.Deep.add_add] at this
      exact this
    have hspot : 0 < m → spot = none := fun hp => by
      have h := cell 0 hp 0 (by omega)
      rw [cb_get _ 0 (by rw [(hB 0 hp).2.1]; omega)] at h
      simpa [Addr.add] using World.cell?_spot h
    refine ⟨(List.range len).map B, ⟨⟨some ⟨ab, ao, spot⟩, m, by rw [hlen], by rw [hlen]; exact hl, (fun h => by cases h), fun hp => ?_⟩, ?_⟩, by rw [hlen]; exact Nat.le_trans (by have := bulk_len ((List.range len).map D); simpa using this) (bulk_slice _ _), fun x hx => ?_⟩
    · rw [hlen] at hp ⊢
      have hs := hspot (by omega)
      subst hs
      refine ⟨ab, ao, rfl, fun j hj i v hv => ?_⟩
      have e : ((List.range len).map B).getD j [] = B j := by simp [hj]
      rw [e] at hv
      have hi : i < 32 := by have := (List.getElem?_eq_some_iff.1 hv).1; rwa [cb_len, (hB j (by omega)).2.1] at this
      have h := cell j (by omega) i hi
      rw [hv, Addr.add_lit] at h
      rw [Nat.add_assoc]; exact h
    · intro dg hd
      obtain ⟨i, hi, rfl⟩ := List.mem_map.1 hd
      exact (hB i (by have := List.mem_range.1 hi; omega)).2.1
    · rcases List.mem_append.1 hx with hx | hx
      · rw [cells_digest] at hx
        simp only [MemPlace.row, List.mem_map, List.mem_range] at hx
        obtain ⟨i, hi, rfl⟩ := hx
        have h := cell (i / 32) (by omega) (i % 32) (by omega)
        rw [cb_get _ _ (by rw [(hB (i / 32) (by omega)).2.1]; omega), show i / 32 * 32 + i % 32 = i by omega] at h
        have := block_lt_of_cell h
        simp only [Addr.add] at this
        split at this <;> exact this
      · obtain ⟨i, hi, hx⟩ := List.mem_flatMap.1 hx
        exact (hB i (List.mem_range.1 hi)).2.2 x hx
theorem trodAll_five {H : Type} {enc : TypeId × Value → H} {P : Program} {w : World} {base : Nat} {spare : Nat → Bool} {held : Bool} {t0 t1 t2 t3 t4 : TypeId} {args : Array Value} {ds : List (DataW H)} {ps : List MemPlace} (h : DataW.TrodAll enc P w base spare held [t0, t1, t2, t3, t4] args.toList ds ps) :
    ∃ v0 v1 v2 v3 v4 d0 d1 d2 d3 d4 p0 p1 p2 p3 p4, args = #[v0, v1, v2, v3, v4] ∧ ds = [d0, d1, d2, d3, d4] ∧ ps = p0 ++ p1 ++ p2 ++ p3 ++ p4 ∧ DataW.Trod enc P w base spare held t0 v0 d0 p0 ∧ DataW.Trod enc P w base spare held t1 v1 d1 p1 ∧ DataW.Trod enc P w base spare held t2 v2 d2 p2 ∧ DataW.Trod enc P w base spare held t3 v3 d3 p3 ∧ DataW.Trod enc P w base spare held t4 v4 d4 p4 := by
  obtain ⟨v0, vs0, d0, ds0, p0, q0, hargs, rfl, rfl, h0, r0⟩ := trodAll_cons h
  obtain ⟨v1, vs1, d1, ds1, p1, q1, rfl, rfl, rfl, h1, r1⟩ := trodAll_cons r0
  obtain ⟨v2, vs2, d2, ds2, p2, q2, rfl, rfl, rfl, h2, r2⟩ := trodAll_cons r1
  obtain ⟨v3, vs3, d3, ds3, p3, q3, rfl, rfl, rfl, h3, r3⟩ := trodAll_cons r2
  obtain ⟨v4, vs4, d4, ds4, p4, q4, rfl, rfl, rfl, h4, r4⟩ := trodAll_cons r3
  obtain ⟨rfl, rfl, rfl⟩ := trodAll_nil r4
  exact ⟨v0, v1, v2, v3, v4, d0, d1, d2, d3, d4, p0, p1, p2, p3, p4, by cases args; simp_all, rfl, by simp, h0, h1, h2, h3, h4⟩
theorem trodAll_mk5 {H : Type} {enc : TypeId × Value → H} {P : Program} {w : World} {base : Nat} {spare : Nat → Bool} {held : Bool} {t0 t1 t2 t3 t4 : TypeId} {v0 v1 v2 v3 v4 : Value} {d0 d1 d2 d3 d4 : DataW H} {p0 p1 p2 p3 p4 : List MemPlace} (h0 : DataW.Trod enc P w base spare held t0 v0 d0 p0) (h1 : DataW.Trod enc P w base spare held t1 v1 d1 p1) (h2 : DataW.Trod enc P w base spare held t2 v2 d2 p2) (h3 : DataW.Trod enc P w base spare held t3 v3 d3 p3) (h4 : DataW.Trod enc P w base spare held t4 v4 d4 p4) : DataW.TrodAll enc P w base spare held [t0, t1, t2, t3, t4] [v0, v1, v2, v3, v4] [d0, d1, d2, d3, d4] (p0 ++ (p1 ++ (p2 ++ (p3 ++ p4)))) :=
  ⟨p0, _, h0, trodAll_mk4 h1 h2 h3 h4, rfl⟩
end Go.Proofs.YtfbdnhadcnmfoaaDoor
/- What a head, a signed root and a slice of signed roots that came in give: their parts (layer 11). -/
namespace Go.Proofs.YtfbdnhadcnmfoaaDoor
open Go.ChangeShapes Go.WideShapes Go.ChangeAt Go.WideMaps Go.WideElems Go.RowKit
set_option maxRecDepth 100000
set_option maxRecDepth 100000 in
theorem readable_head : Tryd.prog.readableRec 26 = true := by kernel_rfl
set_option maxRecDepth 100000 in
theorem row_head : 26 < Tryd.prog.types.size := of_decide_eq_true (by kernel_rfl)
set_option maxRecDepth 100000 in
theorem cells_head : Tryd.prog.cellsOf 26 = 65 := by kernel_rfl
set_option maxRecDepth 100000 in
theorem readable_signed : Tryd.prog.readableRec 31 = true := by kernel_rfl
set_option maxRecDepth 100000 in
theorem row_signed : 31 < Tryd.prog.types.size := of_decide_eq_true (by kernel_rfl)
set_option maxRecDepth 100000 in
theorem cells_signed : Tryd.prog.cellsOf 31 = 98 := by kernel_rfl
set_option maxRecDepth 100000 in
theorem cells_root : Tryd.prog.cellsOf 28 = 97 := by kernel_rfl
set_option maxRecDepth 100000 in
theorem cells_u64c : Tryd.prog.cellsOf 24 = 1 := by kernel_rfl
set_option maxRecDepth 100000 in
theorem cells_bytesc : Tryd.prog.cellsOf 29 = 1 := by kernel_rfl
set_option maxRecDepth 100000 in
theorem readable_signeds : Tryd.prog.readableRec 42 = true := by kernel_rfl
set_option maxRecDepth 100000 in
theorem row_signeds : 42 < Tryd.prog.types.size := of_decide_eq_true (by kernel_rfl)
theorem reads_of_cells11 {H : Type} {enc : TypeId × Value → H} {W : World} {v : Value} {y : DataW H × List MemPlace} {fuel : Nat} (hf : DataW.trod enc Tryd.prog W 0 (fun _ => true) true fuel 29 [v] = some y) :
    ∃ bs, Reads W v bs := by
  rcases open_ints Tryd.underlying29 Tryd.underlying5 cells_byte hf with ⟨hcs, hx⟩ | ⟨a, len, cap, zs, hcs, _, hl, hm, hz, hx, hcell, hwz⟩
  · simp only [List.cons.injEq, and_true] at hcs
    subst hcs
    exact ⟨[], ⟨none, 0, rfl, Nat.le_refl _, fun _ => rfl, fun h => by cases h⟩⟩
  · simp only [List.cons.injEq, and_true] at hcs
    subst hcs
    simp only [if_true] at hz
    have hlen : ((zs.take len).map fun n => BitVec.ofInt 8 n).length = len := by simp; omega
    obtain ⟨ab, ao, spot⟩ := a
    refine ⟨(zs.take len).map fun n => BitVec.ofInt 8 n, ⟨some ⟨ab, ao, spot⟩, cap, by rw [hlen], by rw [hlen]; exact hl, (fun h => by cases h), fun hp => ?_⟩⟩
    rw [hlen] at hp ⊢
    have hspot : spot = none := by simpa [Addr.add] using World.cell?_spot (hcell 0 (by omega))
    subst hspot
    refine ⟨ab, ao, rfl, fun j hj => ?_⟩
    have hcj := hcell j (by omega)
    rw [Addr.add_lit] at hcj
    rw [hcj]
    have hb := byte_range hwz j
    have e : ((zs.take len).map fun n => BitVec.ofInt 8 n).getD j 0 = BitVec.ofInt 8 (zs.getD j 0) := by
      rw [List.getD_eq_getElem?_getD, List.getElem?_map, List.getElem?_take_of_lt hj, List.getD_eq_getElem?_getD, List.getElem?_eq_getElem (show j < zs.length by omega)]
      rfl
    rw [e, BitVec.toNat_ofInt]
    congr 2
    omega
theorem take_one11 {l : List Value} {k n : Nat} (hl : l.length = n) (hk : k < n) : ∃ c, (l.drop k).take 1 = [c] := by
  have h : (l.drop k).length = n - k := by rw [List.length_drop, hl]
  match hq : l.drop k, h with
  | [], h => simp at h; omega
  | c :: r, _ => exact ⟨c, rfl⟩
set_option maxRecDepth 100000 in
theorem head_of_trod {H : Type} {enc : TypeId × Value → H} {W : World} {base : Nat} {v : Value} {d : DataW H} {p : List MemPlace} (hval : Value.okWide Tryd.prog W .any base 26 v)
    (h : DataW.Trod enc Tryd.prog W 0 (fun _ => true) true 26 v d p) :
    ∃ hd : HdT, v = .agg (hdC hd).toArray ∧ okH hd ∧ ∀ q ∈ p, q.block < W.heap.size := by
  simp only [Value.okWide, Tryd.underlying26] at hval
  obtain ⟨cs, rfl, hcs, _⟩ := hval
  obtain ⟨fuel, hf⟩ := h
  have hp := DataW.trod_lt _ _ _ _ hf
  obtain ⟨y0, y1, y2, n, hx, hl, h0, h1, h2⟩ := Go.Deep.trod_struct3 Tryd.underlying26 hf
  simp only [Value.cells] at hl h0 h1 h2
  rw [cells_head] at hl
  rw [cells_u64c] at h0
  rw [cells_digest] at h1 h2
  obtain ⟨l⟩ := cs
  simp only at hl h0 h1 h2
  obtain ⟨m, e0, _, hw⟩ := DataW.trod_int Tryd.underlying24 h0
  obtain ⟨a1, b1⟩ := y1
  obtain ⟨a2, b2⟩ := y2
  obtain ⟨x, f1, lx, _⟩ := digest_of_cells h1
  obtain ⟨y, f2, ly, _⟩ := digest_of_cells h2
  have hb := bounds_u64 hw
  have d1 : l = l.take 1 ++ l.drop 1 := (List.take_append_drop 1 l).symm
  have d2 : l.drop 1 = (l.drop 1).take 32 ++ l.drop 33 := by
    have := (List.take_append_drop 32 (l.drop 1)).symm
    rwa [List.drop_drop] at this
  have d3 : l.drop 33 = (l.drop 33).take 32 := by
    rw [List.take_of_length_le (by rw [List.length_drop]; omega)]
  rw [List.drop_zero] at e0
  refine ⟨(m.toNat, x, y), ?_, okH_mk lx ly (by omega), hp⟩
  congr 1
  rw [d1, d2, d3, e0, f1, f2, hdC]
  rw [Int.toNat_of_nonneg (by omega)]
  rfl
set_option maxRecDepth 100000 in
theorem signed_of_cells {H : Type} {enc : TypeId × Value → H} {W : World} {l : List Value} {d : DataW H} {p : List MemPlace} {fuel : Nat} (hf : DataW.trod enc Tryd.prog W 0 (fun _ => true) true fuel 31 l = some (d, p)) :
    ∃ (s : SgT) (c : Value), l = sgC s c ∧ okS s ∧ Reads W c s.2 ∧ ∀ q ∈ p, q.block < W.heap.size := by
  have hp := DataW.trod_lt _ _ _ _ hf
  obtain ⟨y0, y1, n, hx, hl, h0, h1⟩ := Go.ChangeShapes.trod_struct2 Tryd.underlying31 hf
  rw [cells_signed] at hl
  rw [cells_root] at h0
  rw [cells_bytesc] at h1
  simp only at hl h0 h1
  obtain ⟨c, e1⟩ := take_one11 (k := 97) hl (by omega)
  rw [e1] at h1
  obtain ⟨sg, hr⟩ := reads_of_cells11 (v := c) h1
  obtain ⟨r0, r1, r2, r3, n', hx', hl', k0, k1, k2, k3⟩ := Go.Joins.trod_struct4 Tryd.underlying28 h0
  rw [cells_u64c] at k0
  rw [cells_digest] at k1 k2 k3
  obtain ⟨m, e0, _, hw⟩ := DataW.trod_int Tryd.underlying24 k0
  obtain ⟨a1, b1⟩ := r1
  obtain ⟨a2, b2⟩ := r2
  obtain ⟨a3, b3⟩ := r3
  obtain ⟨x, f1, lx, _⟩ := digest_of_cells k1
  obtain ⟨y, f2, ly, _⟩ := digest_of_cells k2
  obtain ⟨z, f3, lz, _⟩ := digest_of_cells k3
  have hb := bounds_u64 hw
  obtain ⟨r, hr0⟩ : ∃ r, r = (l.drop 0).take 97 := ⟨_, rfl⟩
  rw [← hr0] at e0 f1 f2 f3 hl'
  rw [cells_root] at hl'
  have d1 : r = r.take 1 ++ r.drop 1 := (List.take_append_drop 1 r).symm
  have d2 : r.drop 1 = (r.drop 1).take 32 ++ r.drop 33 := by
    have := (List.take_append_drop 32 (r.drop 1)).symm
    rwa [List.drop_drop] at this
  have d3 : r.drop 33 = (r.drop 33).take 32 ++ r.drop 65 := by
    have := (List.take_append_drop 32 (r.drop 33)).symm
    rwa [List.drop_drop] at this
  have d4 : r.drop 65 = (r.drop 65).take 32 := by
    rw [List.take_of_length_le (by rw [List.length_drop]; omega)]
  rw [List.drop_zero] at e0
  have hrr : r = .int .u64 m :: (cb x ++ (cb y ++ cb z)) := by
    rw [d1, d2, d3, d4, e0, f1, f2, f3]; rfl
  have dl : l = l.take 97 ++ l.drop 97 := (List.take_append_drop 97 l).symm
  have d97 : l.drop 97 = (l.drop 97).take 1 := by rw [List.take_of_length_le (by rw [List.length_drop]; omega)]
  rw [List.drop_zero] at hr0
  refine ⟨((m.toNat, x, y, z), sg), c, ?_, okS_mk lx ly lz (by omega), hr, hp⟩
  rw [dl, ← hr0, d97, e1, hrr]
  unfold sgC
  rw [Int.toNat_of_nonneg (by omega)]
  simp
set_option maxRecDepth 100000 in
theorem signed11_of_trod {H : Type} {enc : TypeId × Value → H} {W : World} {base : Nat} {v : Value} {d : DataW H} {p : List MemPlace} (hval : Value.okWide Tryd.prog W .any base 31 v)
    (h : DataW.Trod enc Tryd.prog W 0 (fun _ => true) true 31 v d p) :
    ∃ (s : SgT) (c : Value), v = .agg (sgC s c).toArray ∧ okS s ∧ Reads W c s.2 ∧ ∀ q ∈ p, q.block < W.heap.size := by
  simp only [Value.okWide, Tryd.underlying31] at hval
  obtain ⟨cs, rfl, hcs, _⟩ := hval
  obtain ⟨fuel, hf⟩ := h
  obtain ⟨l⟩ := cs
  obtain ⟨s, c, h1, h2⟩ := signed_of_cells (l := l) hf
  exact ⟨s, c, by rw [h1], h2⟩
theorem readsS_of_trod {H : Type} {enc : TypeId × Value → H} {W : World} {base : Nat} {v : Value} {d : DataW H} {p : List MemPlace} (hval : Value.okWide Tryd.prog W .any base 42 v)
    (h : DataW.Trod enc Tryd.prog W 0 (fun _ => true) true 42 v d p) :
    ∃ l, ReadsS W v l ∧ ∀ x ∈ p, x.block < W.heap.size := by
  obtain ⟨a1, len, cap, rfl⟩ := okWide_slice Tryd.underlying42 hval
  obtain ⟨fuel, hf⟩ := h
  have hp0 := DataW.trod_lt _ _ _ _ hf
  rcases Go.Deep.open_slice Tryd.underlying42 hf with ⟨hcs, hx⟩ | ⟨a, len', cap', m, n, D, Pl, hcs, _, hl, hm, hmm, hx, hV⟩
  · simp [Value.cells] at hcs
    obtain ⟨rfl, rfl, rfl⟩ := hcs
    exact ⟨[], ReadsS.nil W, hp0⟩
  · simp [Value.cells] at hcs
    obtain ⟨rfl, rfl, rfl⟩ := hcs
    simp only [if_true] at hmm
    subst hmm
    rw [cells_signed] at hV
    obtain ⟨B, hB⟩ := Go.Deep.choose_lt (α := SgT × Value) (p := fun i q => W.cells? 0 (a.add (i * 98)) 98 = some (sgC q.1 q.2) ∧ okS q.1 ∧ Reads W q.2 q.1.2) (fun i hi => by
      obtain ⟨cs', h1, h2⟩ := hV i hi
      obtain ⟨s, c, rfl, h3, h4, _⟩ := signed_of_cells h2
      exact ⟨(s, c), h1, h3, h4⟩)
    have hlen : ((List.range len).map fun i => (B i).1).length = len := by simp
    obtain ⟨ab, ao, spot⟩ := a
    have cell : ∀ i, i < m → ∀ j, j < 98 → W.cell? ((⟨ab, ao, spot⟩ : Addr).add (i * 98 + j)) = (sgC (B i).1 (B i).2)[j]? := by
      intro i hi j hj
      obtain ⟨h1, _, _⟩ := hB i hi
      obtain ⟨_, _, h4⟩ := World.cells?_some h1
      have := h4 j hj
      rw [Go.Deep.add_add] at this
      exact this
    have hspot : 0 < m → spot = none := fun hp => by
      have h := cell 0 hp 0 (by omega)
      rw [show (sgC (B 0).1 (B 0).2)[0]? = some (.int .u64 ((B 0).1.1.1 : Int)) from rfl] at h
      simpa [Addr.add] using World.cell?_spot h
    refine ⟨(List.range len).map fun i => (B i).1, ⟨⟨some ⟨ab, ao, spot⟩, m, by rw [hlen], by rw [hlen]; exact hl, (fun h => by cases h), fun hp => ?_⟩, ?_⟩, hp0⟩
    · rw [hlen] at hp ⊢
      have hs := hspot (by omega)
      subst hs
      refine ⟨ab, ao, rfl, fun j hj => ?_⟩
      have e : ((List.range len).map fun i => (B i).1).getD j zeroS = (B j).1 := by simp [hj]
      rw [e]
      refine ⟨(B j).2, ⟨fun i v hv => ?_, (hB j (by omega)).2.1⟩, (hB j (by omega)).2.2⟩
      have hi : i < 98 := by have := (List.getElem?_eq_some_iff.1 hv).1; rwa [len_sgC (hB j (by omega)).2.1] at this
      have h := cell j (by omega) i hi
      rw [hv, Addr.add_lit] at h
      rw [Nat.add_assoc]; exact h
    · intro s hs
      obtain ⟨i, hi, rfl⟩ := List.mem_map.1 hs
      exact (hB i (by have := List.mem_range.1 hi; omega)).2.1
end Go.Proofs.YtfbdnhadcnmfoaaDoor

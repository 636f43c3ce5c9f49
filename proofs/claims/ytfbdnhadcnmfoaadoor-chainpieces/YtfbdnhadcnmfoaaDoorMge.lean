/- Texts that the proof leans on, one behind the other: ChainPieces, over what chain's functions do (layer 11). What the listed variable gives: the rounds' words lie where the walks look for them. What a slice of bytes that came in gives: the bytes that it reads as; and that it reads so still behind a call that changed no old block. .. -/
import Derived.Test.YtfbdnhadcnmfoaaDoorMgd
import Derived.Test.YtfbdnhadcnmfoaaDoorRows
import Derived.Test.YtfbdnhadcnmfoaaDoorMga
import Derived.ProofKit
import Derived.LaidMore
import Derived.OpenShut
import Derived.Stop.Joined
import Derived.Lib.LaidTab
import Derived.Carry
import Derived.ChangeSlices
import Derived.Test.YtfbdnhadcnmfoaaDoorMgc
import Derived.Deep.Slices
import Derived.ChangeSame
import Derived.Deep.Strs
import Derived.Lib.SmallJoins
/- ChainPieces, over what chain's functions do (layer 11). -/
namespace Go.Proofs.YtfbdnhadcnmfoaaDoor
open Go.RowKit Go.Shelf
set_option maxRecDepth 100000
theorem wrap_u64_nonneg (c : Int) : 0 ≤ IntKind.u64.wrap c := by rw [IntKind.wrap_u64]; omega
theorem walk_le : ∀ (l : List SgT) (h : HdT), (walkR h l).2.1 ≤ l.length
  | [], h => Nat.le_refl _
  | s :: l, h => by
    rw [walkR]
    split
    · have := walk_le l (followR h s).1
      rw [List.length_cons]
      show _ + 1 ≤ _
      omega
    · exact Nat.zero_le _
theorem wpSeq_remU {ops : Array Oper} {Q : Exit → Act → World → Prop} {rest : List Oper} {o : Oper} {a : Act} {w : World} (x y : Operand) (A M : Nat) (N : Int) (hN : N = (M : Int)) (hM : 0 < M) (ho : o.op = .binOp .rem 24 x y 24) (hx : a.eval x = .int .u64 (A : Int)) (hy : a.eval y = .int .u64 N) (hw : Region.wanted o (yielded ops a.tmps) = true)
    (h : wpList Tryd.prog ops Q rest (a.put o.dst (.int .u64 ((A % M : Nat) : Int))) w) : wpList Tryd.prog ops Q (o :: rest) a w := by
  subst hN
  refine wpSeq_val _ _ hw ?_ h
  unfold execOp
  rw [ho]
  simp only [hx, hy]
  simp [go_sem]
  rw [if_neg (by omega), Int.tmod_eq_emod_of_nonneg (by omega)]
/-- a beginning, and what is behind it -/
theorem ReadsS.take {w : World} {ad : Option Addr} {n cp k : Nat} {l : List SgT} (h : ReadsS w (.slice ad n cp) l) (hk : k ≤ l.length) : ReadsS w (.slice ad k cp) (l.take k) := by
  obtain ⟨⟨ad', cp', hv, hc, hn, hx⟩, hok⟩ := h
  simp only [Value.slice.injEq] at hv
  obtain ⟨rfl, rfl, rfl⟩ := hv
  have hl : (l.take k).length = k := by rw [List.length_take]; omega
  refine ⟨⟨ad, cp, by rw [hl], by rw [hl]; omega, hn, fun hp => ?_⟩, fun s hs => hok s (List.mem_of_mem_take hs)⟩
  rw [hl] at hp
  obtain ⟨b, off, rfl, hy⟩ := hx (by omega)
  refine ⟨b, off, rfl, fun j hj => ?_⟩
  rw [hl] at hj
  have e : (l.take k).getD j zeroS = l.getD j zeroS := by rw [List.getD_eq_getElem?_getD, List.getD_eq_getElem?_getD, List.getElem?_take_of_lt hj]
  rw [e]
  exact hy j (by omega)
theorem sizeOf_signed (w : World) : (sizeOf 31).run Tryd.prog w = .ok 98 w := by kernel_rfl
theorem takeS_op (f : Operand → Value) (o : Oper) (x hi : Operand) (ho : o.op = .slice 42 x none (some hi) none) (ad : Option Addr) (n cap k : Nat) (hx : f x = .slice ad n cap) (hk : f hi = .int .i64 (k : Int)) (hc : k ≤ cap) (w : World) :
    (execOp f o).run Tryd.prog w = .ok (.value (.slice ad k cap)) w := by
  have hr : (Instr.sliceAt 42 (.slice ad n cap) none (some (.int .i64 (k : Int))) none).run Tryd.prog w = .ok (.slice ad k cap) w := by
    rw [run_sliceAt_slice w 42 _ _ _ _ (by kernel_rfl), run_slice_h w 42 _ _ _ (by kernel_rfl) .i64 _ (by omega) (by omega)]
    rw [show Tryd.prog.elem 42 = 31 from by kernel_rfl, sizeOf_signed]
    cases ad with
    | none => simp [sliced]
    | some a => simp [sliced, Addr.add_zero']
  unfold execOp
  rw [ho]
  simp only [hx, hk, Option.map_some, Option.map_none, Sem.run_bind, hr]
  rfl
/-- from a place on: where it lies -/
def dropA (ad : Option Addr) (k cap : Nat) : Option Addr := if cap = k then ad else ad.map (·.add (k * 98))
theorem dropS_op (f : Operand → Value) (o : Oper) (x lo : Operand) (ho : o.op = .slice 42 x (some lo) none none) (ad : Option Addr) (n cap k : Nat) (hx : f x = .slice ad n cap) (hk : f lo = .int .i64 (k : Int)) (hc : k ≤ n) (w : World) :
    (execOp f o).run Tryd.prog w = .ok (.value (.slice (dropA ad k cap) (n - k) (cap - k))) w := by
  have hr : (Instr.sliceAt 42 (.slice ad n cap) (some (.int .i64 (k : Int))) none none).run Tryd.prog w = .ok (.slice (dropA ad k cap) (n - k) (cap - k)) w := by
    rw [run_sliceAt_slice w 42 _ _ _ _ (by kernel_rfl), run_slice_l w 42 _ _ _ (by kernel_rfl) .i64 _ (by omega) (by omega)]
    rw [show Tryd.prog.elem 42 = 31 from by kernel_rfl, sizeOf_signed]
    simp [sliced, dropA]
  unfold execOp
  rw [ho]
  simp only [hx, hk, Option.map_some, Option.map_none, Sem.run_bind, hr]
  rfl
theorem ReadsS.drop {w : World} {ad : Option Addr} {n cp k : Nat} {l : List SgT} (h : ReadsS w (.slice ad n cp) l) (hk : k ≤ l.length) : ReadsS w (.slice (dropA ad k cp) (n - k) (cp - k)) (l.drop k) := by
  obtain ⟨⟨ad', cp', hv, hc, hn, hx⟩, hok⟩ := h
  simp only [Value.slice.injEq] at hv
  obtain ⟨rfl, rfl, rfl⟩ := hv
  have hl : (l.drop k).length = l.length - k := List.length_drop
  refine ⟨⟨_, cp - k, by rw [hl], by rw [hl]; omega, fun hd => ?_, fun hp => ?_⟩, fun s hs => hok s (List.mem_of_mem_drop hs)⟩
  · unfold dropA at hd
    split at hd
    · omega
    · have := hn (by simpa using hd); omega
  · rw [hl] at hp
    obtain ⟨b, off, rfl, hy⟩ := hx (by omega)
    refine ⟨b, off + k * 98, by rw [dropA, if_neg (by omega)]; simp [Addr.add_mid], fun j hj => ?_⟩
    rw [hl] at hj
    have e : (l.drop k).getD j zeroS = l.getD (k + j) zeroS := by rw [List.getD_eq_getElem?_getD, List.getD_eq_getElem?_getD, List.getElem?_drop]
    rw [e, show off + k * 98 + j * 98 = off + (k + j) * 98 by omega]
    exact hy (k + j) (by omega)
/-- what two pieces tell -/
theorem walk_cut (h : HdT) (l : List SgT) (k : Nat) (hk : k ≤ l.length) : ((walkR h (l.take k)).2.2 ≠ 0 → walkR h l = walkR h (l.take k)) ∧ ((walkR h (l.take k)).2.2 = 0 → walkR h l = ((walkR (walkR h (l.take k)).1 (l.drop k)).1, k + (walkR (walkR h (l.take k)).1 (l.drop k)).2.1, (walkR (walkR h (l.take k)).1 (l.drop k)).2.2)) := by
  have e := walk_app (l.take k) (l.drop k) h
  rw [List.take_append_drop, List.length_take, Nat.min_eq_left hk] at e
  constructor
  · intro h0
    rw [e, if_neg h0]
  · intro h0
    rw [e, if_pos h0, Nat.add_comm k]
set_option maxRecDepth 100000 in
set_option maxHeartbeats 8000000 in
theorem chainPieces_law (hO : ChOps) (h : HdT) (v : Value) (l : List SgT) (c : Int) (w : World) (hK : KOk w) (oh : okH h) (hr : ReadsS w v l) :
    Calls Tryd.prog 8 #[.agg (hdC h).toArray, v, .int .i64 c] w fun e w' => e = .returned (.bool true) ∧ Below w.heap.size w w' := by
  obtain ⟨⟨ad, cp, hv, hcp, hq2, hq3⟩, hok⟩ := id hr
  clear hq2 hq3
  obtain ⟨n, HN⟩ : ∃ n, Hid (n = l.length) := ⟨_, rfl⟩
  rw [← HN.out] at hv hcp
  subst hv
  have HCP : Hid (n ≤ cp) := hcp
  have HR : Hid (ReadsS w (.slice ad n cp) l) := hr
  have HCW : Hid (∀ W : World, Below w.heap.size w W → Calls Tryd.prog 12 #[] W fun e w' => e = .returned (.bool true) ∧ Below W.heap.size W w') := fun W hh => works11_any hO W (hK.below hh hK.lt)
  have HOH : Hid (okH h) := oh
  have HOKL : Hid (∀ s ∈ l, okS s) := hok
  have HOP : Hid ChOps := hO
  have HKK0 : Hid (KOk w) := hK
  have HBW : Hid (Below w.heap.size w w) := Below.refl _ _
  obtain ⟨cu, hcu⟩ : ∃ cu : Nat, IntKind.u64.wrap c = (cu : Int) := ⟨(IntKind.u64.wrap c).toNat, by have := wrap_u64_nonneg c; omega⟩
  clear hO hK oh hr hok hcp
  go_enter Tryd.func8, Tryd.ntmps8
  have tk0 : Hid True := trivial
  have tk1 : Hid True := trivial
  go_upto_if 17 with (first
    | (clear tk0; with_reducible refine wpSeq_boxW 26 (.tmp 0) (hdC h) ?_ ?_ ?_ ?_
       · rfl
       · rfl
       · rfl
       intro g3 y1 nn
       replace HR : Hid (ReadsS y1 (.slice ad n cp) l) := HR.out.below nn.below
       replace HBW : Hid (Below w.heap.size w y1) := HBW.out.trans (nn.below.mono HBW.out.size)
       have HG3 : Hid (Blk y1 g3 (hdC h) 26) := nn.blk
       clear nn)
    | (clear tk1; go_at_call 16; refine (few11_any _ l _ HR.out).mono ?_; rintro e yf ⟨b, rfl, hb40, rfl⟩))
  cases b with
  | false =>
    simp only [Bool.not_false]
    have tk20 : Hid True := trivial
    go_wp2_with (first
      | (clear tk20; go_at_call 12; refine (HCW.out yf HBW.out).mono ?_; rintro e y21 ⟨rfl, hbz⟩
         replace HG3 : Hid (Blk y21 g3 (hdC h) 26) := HG3.out.below hbz HG3.out.lt
         replace HR : Hid (ReadsS y21 (.slice ad n cp) l) := HR.out.below hbz
         replace HBW : Hid (Below w.heap.size w y21) := HBW.out.trans (hbz.mono HBW.out.size)
         clear hbz ))
    go_ret
    first | exact ⟨rfl, HBW.out⟩ | exact ⟨trivial, HBW.out⟩
  | true =>
    have HL40 : Hid (n ≤ 40) := by show _ ≤ _; rw [HN.out]; exact hb40 rfl
    clear hb40
    simp only [Bool.not_true]
    have f1 : IntKind.i64.wrap ((n : Int) + 1) = (n : Int) + 1 := by have := HL40.out; rw [IntKind.wrap_i64]; omega
    have f2 : IntKind.u64.wrap ((n : Int) + 1) = (n : Int) + 1 := by have := HL40.out; rw [IntKind.wrap_u64]; omega
    obtain ⟨kk, HKK⟩ : ∃ k, Hid (k = cu % (n + 1)) := ⟨_, rfl⟩
    have HKN : Hid (kk ≤ n) := by have h1 := HKK.out; have h2 : cu % (n + 1) < n + 1 := Nat.mod_lt cu (Nat.succ_pos n); show _ ≤ _; rw [h1]; exact Nat.le_of_lt_succ h2
    have f3 : IntKind.i64.wrap (kk : Int) = (kk : Int) := by have := HKN.out; have := HL40.out; rw [IntKind.wrap_i64]; omega
    have HKL : Hid (kk ≤ l.length) := by have := HKN.out; have := HN.out; show _ ≤ _; omega
    have HLL : Hid (l.length < 1000) := by have := HL40.out; have := HN.out; show _ < _; omega
    obtain ⟨ha, HHA⟩ : ∃ c, Hid (c = (walkR h l).1) := ⟨_, rfl⟩
    obtain ⟨na, HNA⟩ : ∃ c, Hid (c = (walkR h l).2.1) := ⟨_, rfl⟩
    obtain ⟨ea, HEA⟩ : ∃ c, Hid (c = (walkR h l).2.2) := ⟨_, rfl⟩
    have HOA : Hid (okH ha) := by rw [HHA.out]; exact walk_okH l h HOH.out HOKL.out
    obtain ⟨hb, HHB⟩ : ∃ c, Hid (c = (walkR h (l.take kk)).1) := ⟨_, rfl⟩
    obtain ⟨nb, HNB⟩ : ∃ c, Hid (c = (walkR h (l.take kk)).2.1) := ⟨_, rfl⟩
    obtain ⟨eb, HEB⟩ : ∃ c, Hid (c = (walkR h (l.take kk)).2.2) := ⟨_, rfl⟩
    have HOB : Hid (okH hb) := by rw [HHB.out]; exact walk_okH _ h HOH.out (fun s hs => HOKL.out s (List.mem_of_mem_take hs))
    obtain ⟨hc, HHC⟩ : ∃ c, Hid (c = (walkR hb (l.drop kk)).1) := ⟨_, rfl⟩
    obtain ⟨nc, HNC⟩ : ∃ c, Hid (c = (walkR hb (l.drop kk)).2.1) := ⟨_, rfl⟩
    obtain ⟨ec, HEC⟩ : ∃ c, Hid (c = (walkR hb (l.drop kk)).2.2) := ⟨_, rfl⟩
    have HOC : Hid (okH hc) := by rw [HHC.out]; exact walk_okH _ hb HOB.out (fun s hs => HOKL.out s (List.mem_of_mem_drop hs))
    have HCUT : Hid ((eb ≠ 0 → na = nb ∧ ea = eb) ∧ (eb = 0 → ha = hc ∧ na = kk + nc ∧ ea = ec)) := by
      have hw := walk_cut h l kk HKL.out
      rw [HEB.out, HNA.out, HNB.out, HEA.out, HHA.out, HHC.out, HNC.out, HEC.out, HHB.out]
      exact ⟨fun q => by rw [hw.1 q]; exact ⟨rfl, rfl⟩, fun q => by rw [hw.2 q]; exact ⟨rfl, rfl, rfl⟩⟩
    have HNC2 : Hid (nc ≤ 1000) := by show _ ≤ _; rw [HNC.out]; exact Nat.le_trans (walk_le _ _) (by have := HLL.out; rw [List.length_drop]; omega)
    have HC1 : Hid (∀ W : World, Below w.heap.size w W → ReadsS W (.slice ad n cp) l → Calls Tryd.prog 17 #[.agg (hdC h).toArray, .slice ad n cp] W fun e w' => e = .returned (.tuple #[.agg (hdC ha).toArray, .int .i64 (na : Int), .int .i64 ea]) ∧ Below W.heap.size W w') := fun W hh hr => by rw [HHA.out, HNA.out, HEA.out]; exact HOP.out.walk W h _ l (HKK0.out.below hh HKK0.out.lt) HOH.out hr (by have := HLL.out; omega)
    have HC2 : Hid (∀ W : World, Below w.heap.size w W → ReadsS W (.slice ad n cp) l → Calls Tryd.prog 17 #[.agg (hdC h).toArray, .slice ad kk cp] W fun e w' => e = .returned (.tuple #[.agg (hdC hb).toArray, .int .i64 (nb : Int), .int .i64 eb]) ∧ Below W.heap.size W w') := fun W hh hr => by rw [HHB.out, HNB.out, HEB.out]; exact HOP.out.walk W h _ (l.take kk) (HKK0.out.below hh HKK0.out.lt) HOH.out (hr.take HKL.out) (by have := HLL.out; rw [List.length_take]; omega)
    have HC3 : Hid (∀ W : World, Below w.heap.size w W → ReadsS W (.slice ad n cp) l → Calls Tryd.prog 17 #[.agg (hdC hb).toArray, .slice (dropA ad kk cp) (n - kk) (cp - kk)] W fun e w' => e = .returned (.tuple #[.agg (hdC hc).toArray, .int .i64 (nc : Int), .int .i64 ec]) ∧ Below W.heap.size W w') := fun W hh hr => by rw [HHC.out, HNC.out, HEC.out]; exact HOP.out.walk W hb _ (l.drop kk) (HKK0.out.below hh HKK0.out.lt) HOB.out (hr.drop HKL.out) (by have := HLL.out; rw [List.length_drop]; omega)
    clear HHA HNA HEA HHB HNB HEB HHC HNC HEC HN HKL HLL HOKL
    have tk20 : Hid True := trivial
    have tk21 : Hid True := trivial
    have tk22 : Hid True := trivial
    have tk23 : Hid True := trivial
    have tk24 : Hid True := trivial
    go_wp2_with (first
      | (clear tk20; with_reducible refine wpSeq_remU (.tmp 20) (.tmp 24) cu (n + 1) ((n : Int) + 1) ?_ ?_ ?_ ?_ ?_ ?_ ?_
         · rfl
         · exact Nat.succ_pos _
         · rfl
         · rfl
         · rfl
         · rfl
         rw [← HKK.out])
      | (clear tk21; with_reducible refine wpSeq_loadW 26 (.tmp 3) g3 0 (hdC h) _ ?_ Tryd.underlying26 rfl ?_ ?_ ?_ ?_ ?_
         · exact HG3.out.range
         · exact info_hdC HOH.out
         · rfl
         · rfl
         · rfl)
      | (clear tk22; go_at_call 17; refine (HC1.out yf HBW.out HR.out).mono ?_; rintro e y21 ⟨rfl, hbz⟩
         replace HG3 : Hid (Blk y21 g3 (hdC h) 26) := HG3.out.below hbz HG3.out.lt
         replace HR : Hid (ReadsS y21 (.slice ad n cp) l) := HR.out.below hbz
         replace HBW : Hid (Below w.heap.size w y21) := HBW.out.trans (hbz.mono HBW.out.size)
         clear hbz )
      | (clear tk23; with_reducible refine wpSeq_allocH ?_ ?_ ?_
         · rfl
         · rfl
         intro g8 y22 nn)
      | (clear tk24; with_reducible refine wpSeq_storeRow 26 (.tmp 8) (.tmp 31) g8 (hdC zeroH) (hdC ha) ?_ ?_ ?_ ?_ ?_ ?_ ?_ ?_ ?_
         · exact nn.blk
         · first | (with_reducible rfl) | rw [len_hdC HOA.out, len_hdC okH_zero]
         · exact info_hdC HOA.out
         · exact hdC_one _
         · rfl
         · rfl
         · rfl
         · rfl
         intro y23 hs
         have hbz := nn.below.trans (hs.only.below nn.ge nn.below.size)
         replace HG3 : Hid (Blk y23 g3 (hdC h) 26) := HG3.out.below hbz HG3.out.lt
         replace HR : Hid (ReadsS y23 (.slice ad n cp) l) := HR.out.below hbz
         replace HBW : Hid (Below w.heap.size w y23) := HBW.out.trans (hbz.mono HBW.out.size)
         have HG8 : Hid (Blk y23 g8 (hdC ha) 26) := hs.blk
         clear nn hs hbz))
    go_cut [11, 12, 13] from 34 to 42 (fun a b c W => ∃ g11, a = .pointer (some ⟨g11, 0, none⟩) ∧ b = .int .i64 (nb : Int) ∧ c = .int .i64 eb ∧ Blk W g3 (hdC h) 26 ∧ Blk W g8 (hdC ha) 26 ∧ ReadsS W (.slice ad n cp) l ∧ Below w.heap.size w W ∧ Blk W g11 (hdC hb) 26)
    case first =>
      refine wp_region_held_drew (S := Over (World.drew y23)) (by kernel_rfl) (Over.refl _) ?_
      intro hS
      replace HG3 : Hid (Blk (World.drew y23) g3 (hdC h) 26) := HG3.out.drew
      replace HG8 : Hid (Blk (World.drew y23) g8 (hdC ha) 26) := HG8.out.drew
      replace HR : Hid (ReadsS (World.drew y23) (.slice ad n cp) l) := HR.out.below (Below.refl _ _).drew
      replace HBW : Hid (Below w.heap.size w (World.drew y23)) := HBW.out.drew
      change wpAnyH _ _ _ _ _ _ _ _ (World.drew y23)
      generalize World.drew y23 = y0 at *
      try simp only [Act.put, List.setIfInBounds_toArray, List.set_cons_zero, List.set_cons_succ]
      refine wpAnyH_take (i := 0) (v := .agg (hdC h).toArray) rfl (by kernel_rfl) (by kernel_rfl) (by kernel_rfl) (fun _ _ _ h => h) (Or.inl ⟨by rfl, fun wx hx => by exact loadHdAt _ g3 0 h ((HG3.out.below hx HG3.out.lt).hdAt HOH.out) rfl rfl⟩) hS ?_
      simp only [Act.put, List.getElem_toArray, List.getElem_cons_zero, List.setIfInBounds_toArray, List.set_cons_zero, List.set_cons_succ]
      refine wpAnyH_take (i := 1) (v := .slice ad n cp) rfl (by kernel_rfl) (by kernel_rfl) (by kernel_rfl) (fun _ _ _ h => h) (Or.inl ⟨by rfl, fun wx hx => by simp [go_sem]⟩) hS ?_
      simp only [Act.put, List.getElem_toArray, List.getElem_cons_succ, List.getElem_cons_zero, List.setIfInBounds_toArray, List.set_cons_zero, List.set_cons_succ]
      refine wpAnyH_take (i := 2) (v := .int .i64 (kk : Int)) rfl (by kernel_rfl) (by kernel_rfl) (by kernel_rfl) (fun _ _ _ h => h) (Or.inl ⟨by rfl, fun wx hx => by simp [go_sem]⟩) hS ?_
      simp only [Act.put, List.getElem_toArray, List.getElem_cons_succ, List.getElem_cons_zero, List.setIfInBounds_toArray, List.set_cons_zero, List.set_cons_succ]
      refine wpAnyH_take (i := 3) (v := .slice ad kk cp) rfl (by kernel_rfl) (by kernel_rfl) (by kernel_rfl) (fun _ _ _ h => h) (Or.inl ⟨by rfl, fun wx hx => by exact takeS_op _ _ _ _ rfl ad n cp kk rfl rfl (by have h1 := HKN.out; have h2 := HCP.out; omega) _⟩) hS ?_
      simp only [Act.put, List.getElem_toArray, List.getElem_cons_succ, List.getElem_cons_zero, List.setIfInBounds_toArray, List.set_cons_zero, List.set_cons_succ]
      refine wpAnyH_pair 4 9 (by kernel_rfl) ?_ ?_
      · refine wpOp_en 4 (by rfl) (by rfl) (f := 17) (args := #[.agg (hdC h).toArray, .slice ad kk cp]) (by simp [go_sem]) (HC2.out _ (HBW.out.trans (Below.mono hS HBW.out.size)) (HR.out.below hS)) ?_
        rintro e z1 ⟨rfl, hb⟩
        replace hS := Over.more hS hb
        refine ⟨_, rfl, hS, ?_⟩
        clear hb
        simp only [Act.put, List.getElem_toArray, List.getElem_cons_succ, List.getElem_cons_zero, List.setIfInBounds_toArray, List.set_cons_zero, List.set_cons_succ]
        refine wpAnyH_take (i := 5) (v := .tuple #[.agg (hdC hb).toArray, .int .i64 (nb : Int), .int .i64 eb]) rfl (by kernel_rfl) (by kernel_rfl) (by kernel_rfl) (fun _ _ _ h => h) (Or.inl ⟨by rfl, fun wx hx => by simp [go_sem]⟩) hS ?_
        simp only [Act.put, List.getElem_toArray, List.getElem_cons_succ, List.getElem_cons_zero, List.setIfInBounds_toArray, List.set_cons_zero, List.set_cons_succ]
        refine wpAnyH_take (i := 6) (v := .agg (hdC hb).toArray) rfl (by kernel_rfl) (by kernel_rfl) (by kernel_rfl) (fun _ _ _ h => h) (Or.inl ⟨by rfl, fun wx hx => by simp [go_sem]⟩) hS ?_
        simp only [Act.put, List.getElem_toArray, List.getElem_cons_succ, List.getElem_cons_zero, List.setIfInBounds_toArray, List.set_cons_zero, List.set_cons_succ]
        refine wpAnyH_take (i := 7) (v := .int .i64 (nb : Int)) rfl (by kernel_rfl) (by kernel_rfl) (by kernel_rfl) (fun _ _ _ h => h) (Or.inl ⟨by rfl, fun wx hx => by simp [go_sem]⟩) hS ?_
        simp only [Act.put, List.getElem_toArray, List.getElem_cons_succ, List.getElem_cons_zero, List.setIfInBounds_toArray, List.set_cons_zero, List.set_cons_succ]
        refine wpAnyH_take (i := 8) (v := .int .i64 eb) rfl (by kernel_rfl) (by kernel_rfl) (by kernel_rfl) (fun _ _ _ h => h) (Or.inl ⟨by rfl, fun wx hx => by simp [go_sem]⟩) hS ?_
        simp only [Act.put, List.getElem_toArray, List.getElem_cons_succ, List.getElem_cons_zero, List.setIfInBounds_toArray, List.set_cons_zero, List.set_cons_succ]
        have hb := below_alloc z1 (.cells (hdC zeroH).toArray 26)
        have hba : Blk (z1.alloc (.cells (hdC zeroH).toArray 26)) z1.heap.size (hdC zeroH) 26 := Blk.new _ _ _
        have hsz : y0.heap.size ≤ z1.heap.size := Below.size hS
        replace hS := Over.more hS hb
        refine wpAnyH_step 9 (.pointer (some ⟨z1.heap.size, 0, none⟩)) (z1.alloc (.cells (hdC zeroH).toArray 26)) (by kernel_rfl) rfl (by rfl) (alloc_hd _ _ rfl _) hS ?_
        simp only [Act.put, List.getElem_toArray, List.getElem_cons_succ, List.getElem_cons_zero, List.setIfInBounds_toArray, List.set_cons_zero, List.set_cons_succ]
        clear hb
        generalize z1.alloc (.cells (hdC zeroH).toArray 26) = z2 at *
        obtain ⟨ga, HGA⟩ : ∃ z, Hid (z = z1.heap.size) := ⟨_, rfl⟩
        have hgw : y0.heap.size ≤ ga := by rw [HGA.out]; exact hsz
        rw [← HGA.out] at hba ⊢
        clear HGA hsz
        refine wpAnyH_storeRow 10 26 (.tmp 11) (.tmp 40) ga (hdC zeroH) (hdC hb) hba (by rw [len_hdC HOB.out, len_hdC okH_zero]) (info_hdC HOB.out) (hdC_one _) (by kernel_rfl) rfl (by rfl) rfl rfl rfl ?_
        intro yE hs
        replace hS : Over y0 yE := Below.trans hS (hs.only.below hgw (Below.size hS))
        refine ⟨hS, ?_⟩
        simp only [Act.put, List.getElem_toArray, List.getElem_cons_succ, List.getElem_cons_zero]
        refine wpAnyH_take (i := 11) (v := .int .i64 (nb : Int)) rfl (by kernel_rfl) (by kernel_rfl) (by kernel_rfl) (fun _ _ _ h => h) (Or.inl ⟨by rfl, fun wx hx => by simp [go_sem]⟩) hS ?_
        simp only [Act.put, List.getElem_toArray, List.getElem_cons_succ, List.getElem_cons_zero, List.setIfInBounds_toArray, List.set_cons_zero, List.set_cons_succ]
        refine wpAnyH_take (i := 12) (v := .int .i64 eb) rfl (by kernel_rfl) (by kernel_rfl) (by kernel_rfl) (fun _ _ _ h => h) (Or.inl ⟨by rfl, fun wx hx => by simp [go_sem]⟩) hS ?_
        simp only [Act.put, List.getElem_toArray, List.getElem_cons_succ, List.getElem_cons_zero, List.setIfInBounds_toArray, List.set_cons_zero, List.set_cons_succ]
        refine wpAnyH_done (by kernel_rfl) ?_ _
        go_wp2
        go_meet
        case rel => exact ⟨ga, rfl, rfl, rfl, HG3.out.below hS HG3.out.lt, HG8.out.below hS HG8.out.lt, HR.out.below hS, HBW.out.trans (Below.mono hS HBW.out.size), hs.blk⟩
      · have hb := below_alloc y0 (.cells (hdC zeroH).toArray 26)
        have hba : Blk (y0.alloc (.cells (hdC zeroH).toArray 26)) y0.heap.size (hdC zeroH) 26 := Blk.new _ _ _
        have hsz : y0.heap.size ≤ y0.heap.size := Below.size hS
        replace hS := Over.more hS hb
        refine wpOp_vl 9 (.pointer (some ⟨y0.heap.size, 0, none⟩)) (y0.alloc (.cells (hdC zeroH).toArray 26)) (by rfl) (by rfl) (alloc_hd _ _ rfl _) ⟨hS, ?_⟩
        simp only [Act.put, List.getElem_toArray, List.getElem_cons_succ, List.getElem_cons_zero, List.setIfInBounds_toArray, List.set_cons_zero, List.set_cons_succ]
        clear hb
        generalize y0.alloc (.cells (hdC zeroH).toArray 26) = z1 at *
        obtain ⟨ga, HGA⟩ : ∃ z, Hid (z = y0.heap.size) := ⟨_, rfl⟩
        have hgw : y0.heap.size ≤ ga := by rw [HGA.out]; exact hsz
        rw [← HGA.out] at hba ⊢
        clear HGA hsz
        refine wpAnyH_enter 4 (by kernel_rfl) rfl (by rfl) (f := 17) (args := #[.agg (hdC h).toArray, .slice ad kk cp]) (by simp [go_sem]) (HC2.out _ (HBW.out.trans (Below.mono hS HBW.out.size)) (HR.out.below hS)) ?_
        rintro e z2 ⟨rfl, hb⟩
        replace hS := Over.more hS hb
        replace hba := hba.below hb hba.lt
        refine ⟨_, rfl, hS, ?_⟩
        clear hb
        simp only [Act.put, List.getElem_toArray, List.getElem_cons_succ, List.getElem_cons_zero, List.setIfInBounds_toArray, List.set_cons_zero, List.set_cons_succ]
        refine wpAnyH_take (i := 5) (v := .tuple #[.agg (hdC hb).toArray, .int .i64 (nb : Int), .int .i64 eb]) rfl (by kernel_rfl) (by kernel_rfl) (by kernel_rfl) (fun _ _ _ h => h) (Or.inl ⟨by rfl, fun wx hx => by simp [go_sem]⟩) hS ?_
        simp only [Act.put, List.getElem_toArray, List.getElem_cons_succ, List.getElem_cons_zero, List.setIfInBounds_toArray, List.set_cons_zero, List.set_cons_succ]
        refine wpAnyH_take (i := 6) (v := .agg (hdC hb).toArray) rfl (by kernel_rfl) (by kernel_rfl) (by kernel_rfl) (fun _ _ _ h => h) (Or.inl ⟨by rfl, fun wx hx => by simp [go_sem]⟩) hS ?_
        simp only [Act.put, List.getElem_toArray, List.getElem_cons_succ, List.getElem_cons_zero, List.setIfInBounds_toArray, List.set_cons_zero, List.set_cons_succ]
        refine wpAnyH_take (i := 7) (v := .int .i64 (nb : Int)) rfl (by kernel_rfl) (by kernel_rfl) (by kernel_rfl) (fun _ _ _ h => h) (Or.inl ⟨by rfl, fun wx hx => by simp [go_sem]⟩) hS ?_
        simp only [Act.put, List.getElem_toArray, List.getElem_cons_succ, List.getElem_cons_zero, List.setIfInBounds_toArray, List.set_cons_zero, List.set_cons_succ]
        refine wpAnyH_take (i := 8) (v := .int .i64 eb) rfl (by kernel_rfl) (by kernel_rfl) (by kernel_rfl) (fun _ _ _ h => h) (Or.inl ⟨by rfl, fun wx hx => by simp [go_sem]⟩) hS ?_
        simp only [Act.put, List.getElem_toArray, List.getElem_cons_succ, List.getElem_cons_zero, List.setIfInBounds_toArray, List.set_cons_zero, List.set_cons_succ]
        refine wpAnyH_storeRow 10 26 (.tmp 11) (.tmp 40) ga (hdC zeroH) (hdC hb) hba (by rw [len_hdC HOB.out, len_hdC okH_zero]) (info_hdC HOB.out) (hdC_one _) (by kernel_rfl) rfl (by rfl) rfl rfl rfl ?_
        intro yE hs
        replace hS : Over y0 yE := Below.trans hS (hs.only.below hgw (Below.size hS))
        refine ⟨hS, ?_⟩
        simp only [Act.put, List.getElem_toArray, List.getElem_cons_succ, List.getElem_cons_zero]
        refine wpAnyH_take (i := 11) (v := .int .i64 (nb : Int)) rfl (by kernel_rfl) (by kernel_rfl) (by kernel_rfl) (fun _ _ _ h => h) (Or.inl ⟨by rfl, fun wx hx => by simp [go_sem]⟩) hS ?_
        simp only [Act.put, List.getElem_toArray, List.getElem_cons_succ, List.getElem_cons_zero, List.setIfInBounds_toArray, List.set_cons_zero, List.set_cons_succ]
        refine wpAnyH_take (i := 12) (v := .int .i64 eb) rfl (by kernel_rfl) (by kernel_rfl) (by kernel_rfl) (fun _ _ _ h => h) (Or.inl ⟨by rfl, fun wx hx => by simp [go_sem]⟩) hS ?_
        simp only [Act.put, List.getElem_toArray, List.getElem_cons_succ, List.getElem_cons_zero, List.setIfInBounds_toArray, List.set_cons_zero, List.set_cons_succ]
        refine wpAnyH_done (by kernel_rfl) ?_ _
        go_wp2
        go_meet
        case rel => exact ⟨ga, rfl, rfl, rfl, HG3.out.below hS HG3.out.lt, HG8.out.below hS HG8.out.lt, HR.out.below hS, HBW.out.trans (Below.mono hS HBW.out.size), hs.blk⟩
    case rest =>
      obtain ⟨g11, rfl, rfl, rfl, h3, h8, hr, hbw, h11⟩ := hcut
      clear HG3 HG8 HR HBW
      have HG3 : Hid (Blk wc g3 (hdC h) 26) := h3
      have HG8 : Hid (Blk wc g8 (hdC ha) 26) := h8
      have HG11 : Hid (Blk wc g11 (hdC hb) 26) := h11
      have HR : Hid (ReadsS wc (.slice ad n cp) l) := hr
      have HBW : Hid (Below w.heap.size w wc) := hbw
      clear h3 h8 h11 hr hbw
      by_cases hez : eb = 0
      case neg =>
        have k1 : (eb == 0) = false := by rw [beq_eq_false_iff_ne]; exact hez
        have k2 : (eb != 0) = true := by rw [bne, k1]; rfl
        obtain ⟨q1, q2⟩ := HCUT.out.1 hez
        have k3 : (ea == eb) = true := by rw [q2]; simp
        have k4 : ((na : Int) == (nb : Int)) = true := by rw [q1]; simp
        clear hez q1 q2
        have tk40 : Hid True := trivial
        go_wp2_with (first
          | (clear tk40; go_at_call 12; refine (HCW.out wc HBW.out).mono ?_; rintro e y41 ⟨rfl, hbz⟩
             replace HG3 : Hid (Blk y41 g3 (hdC h) 26) := HG3.out.below hbz HG3.out.lt
             replace HG8 : Hid (Blk y41 g8 (hdC ha) 26) := HG8.out.below hbz HG8.out.lt
             replace HG11 : Hid (Blk y41 g11 (hdC hb) 26) := HG11.out.below hbz HG11.out.lt
             replace HR : Hid (ReadsS y41 (.slice ad n cp) l) := HR.out.below hbz
             replace HBW : Hid (Below w.heap.size w y41) := HBW.out.trans (hbz.mono HBW.out.size)
             clear hbz ))
        go_ret
        first | exact ⟨rfl, HBW.out⟩ | exact ⟨trivial, HBW.out⟩
      case pos =>
        have k1 : (eb == 0) = true := by rw [beq_iff_eq]; exact hez
        have k2 : (eb != 0) = false := by rw [bne, k1]; rfl
        obtain ⟨q1, q2, q3⟩ := HCUT.out.2 hez
        have HQ1 : Hid (ha = hc) := q1
        have f4 : IntKind.i64.wrap ((kk : Int) + (nc : Int)) = (kk : Int) + (nc : Int) := by have := HKN.out; have := HL40.out; have := HNC2.out; rw [IntKind.wrap_i64]; omega
        have k3 : (ea == ec) = true := by rw [q3]; simp
        have k4 : ((na : Int) == (kk : Int) + (nc : Int)) = true := by rw [beq_iff_eq, q2]; omega
        clear hez q1 q2 q3
        go_wp2
        go_cut [14, 12, 13] from 56 to 64 (fun a b c W => ∃ g14, a = .pointer (some ⟨g14, 0, none⟩) ∧ b = .int .i64 (nc : Int) ∧ c = .int .i64 ec ∧ Blk W g3 (hdC h) 26 ∧ Blk W g8 (hdC ha) 26 ∧ ReadsS W (.slice ad n cp) l ∧ Below w.heap.size w W ∧ Blk W g14 (hdC hc) 26)
        case first =>
          refine wp_region_held_drew (S := Over (World.drew wc)) (by kernel_rfl) (Over.refl _) ?_
          intro hS
          replace HG3 : Hid (Blk (World.drew wc) g3 (hdC h) 26) := HG3.out.drew
          replace HG8 : Hid (Blk (World.drew wc) g8 (hdC ha) 26) := HG8.out.drew
          replace HG11 : Hid (Blk (World.drew wc) g11 (hdC hb) 26) := HG11.out.drew
          replace HR : Hid (ReadsS (World.drew wc) (.slice ad n cp) l) := HR.out.below (Below.refl _ _).drew
          replace HBW : Hid (Below w.heap.size w (World.drew wc)) := HBW.out.drew
          change wpAnyH _ _ _ _ _ _ _ _ (World.drew wc)
          generalize World.drew wc = y0 at *
          try simp only [Act.put, List.setIfInBounds_toArray, List.set_cons_zero, List.set_cons_succ]
          refine wpAnyH_take (i := 0) (v := .agg (hdC hb).toArray) rfl (by kernel_rfl) (by kernel_rfl) (by kernel_rfl) (fun _ _ _ h => h) (Or.inl ⟨by rfl, fun wx hx => by exact loadHdAt _ g11 0 hb ((HG11.out.below hx HG11.out.lt).hdAt HOB.out) rfl rfl⟩) hS ?_
          simp only [Act.put, List.getElem_toArray, List.getElem_cons_zero, List.setIfInBounds_toArray, List.set_cons_zero, List.set_cons_succ]
          refine wpAnyH_take (i := 1) (v := .slice ad n cp) rfl (by kernel_rfl) (by kernel_rfl) (by kernel_rfl) (fun _ _ _ h => h) (Or.inl ⟨by rfl, fun wx hx => by simp [go_sem]⟩) hS ?_
          simp only [Act.put, List.getElem_toArray, List.getElem_cons_succ, List.getElem_cons_zero, List.setIfInBounds_toArray, List.set_cons_zero, List.set_cons_succ]
          refine wpAnyH_take (i := 2) (v := .int .i64 (kk : Int)) rfl (by kernel_rfl) (by kernel_rfl) (by kernel_rfl) (fun _ _ _ h => h) (Or.inl ⟨by rfl, fun wx hx => by simp [go_sem]⟩) hS ?_
          simp only [Act.put, List.getElem_toArray, List.getElem_cons_succ, List.getElem_cons_zero, List.setIfInBounds_toArray, List.set_cons_zero, List.set_cons_succ]
          refine wpAnyH_take (i := 3) (v := .slice (dropA ad kk cp) (n - kk) (cp - kk)) rfl (by kernel_rfl) (by kernel_rfl) (by kernel_rfl) (fun _ _ _ h => h) (Or.inl ⟨by rfl, fun wx hx => by exact dropS_op _ _ _ _ rfl ad n cp kk rfl rfl HKN.out _⟩) hS ?_
          simp only [Act.put, List.getElem_toArray, List.getElem_cons_succ, List.getElem_cons_zero, List.setIfInBounds_toArray, List.set_cons_zero, List.set_cons_succ]
          refine wpAnyH_pair 4 9 (by kernel_rfl) ?_ ?_
          · refine wpOp_en 4 (by rfl) (by rfl) (f := 17) (args := #[.agg (hdC hb).toArray, .slice (dropA ad kk cp) (n - kk) (cp - kk)]) (by simp [go_sem]) (HC3.out _ (HBW.out.trans (Below.mono hS HBW.out.size)) (HR.out.below hS)) ?_
            rintro e z1 ⟨rfl, hb⟩
            replace hS := Over.more hS hb
            refine ⟨_, rfl, hS, ?_⟩
            clear hb
            simp only [Act.put, List.getElem_toArray, List.getElem_cons_succ, List.getElem_cons_zero, List.setIfInBounds_toArray, List.set_cons_zero, List.set_cons_succ]
            refine wpAnyH_take (i := 5) (v := .tuple #[.agg (hdC hc).toArray, .int .i64 (nc : Int), .int .i64 ec]) rfl (by kernel_rfl) (by kernel_rfl) (by kernel_rfl) (fun _ _ _ h => h) (Or.inl ⟨by rfl, fun wx hx => by simp [go_sem]⟩) hS ?_
            simp only [Act.put, List.getElem_toArray, List.getElem_cons_succ, List.getElem_cons_zero, List.setIfInBounds_toArray, List.set_cons_zero, List.set_cons_succ]
            refine wpAnyH_take (i := 6) (v := .agg (hdC hc).toArray) rfl (by kernel_rfl) (by kernel_rfl) (by kernel_rfl) (fun _ _ _ h => h) (Or.inl ⟨by rfl, fun wx hx => by simp [go_sem]⟩) hS ?_
            simp only [Act.put, List.getElem_toArray, List.getElem_cons_succ, List.getElem_cons_zero, List.setIfInBounds_toArray, List.set_cons_zero, List.set_cons_succ]
            refine wpAnyH_take (i := 7) (v := .int .i64 (nc : Int)) rfl (by kernel_rfl) (by kernel_rfl) (by kernel_rfl) (fun _ _ _ h => h) (Or.inl ⟨by rfl, fun wx hx => by simp [go_sem]⟩) hS ?_
            simp only [Act.put, List.getElem_toArray, List.getElem_cons_succ, List.getElem_cons_zero, List.setIfInBounds_toArray, List.set_cons_zero, List.set_cons_succ]
            refine wpAnyH_take (i := 8) (v := .int .i64 ec) rfl (by kernel_rfl) (by kernel_rfl) (by kernel_rfl) (fun _ _ _ h => h) (Or.inl ⟨by rfl, fun wx hx => by simp [go_sem]⟩) hS ?_
            simp only [Act.put, List.getElem_toArray, List.getElem_cons_succ, List.getElem_cons_zero, List.setIfInBounds_toArray, List.set_cons_zero, List.set_cons_succ]
            have hb := below_alloc z1 (.cells (hdC zeroH).toArray 26)
            have hba : Blk (z1.alloc (.cells (hdC zeroH).toArray 26)) z1.heap.size (hdC zeroH) 26 := Blk.new _ _ _
            have hsz : y0.heap.size ≤ z1.heap.size := Below.size hS
            replace hS := Over.more hS hb
            refine wpAnyH_step 9 (.pointer (some ⟨z1.heap.size, 0, none⟩)) (z1.alloc (.cells (hdC zeroH).toArray 26)) (by kernel_rfl) rfl (by rfl) (alloc_hd _ _ rfl _) hS ?_
            simp only [Act.put, List.getElem_toArray, List.getElem_cons_succ, List.getElem_cons_zero, List.setIfInBounds_toArray, List.set_cons_zero, List.set_cons_succ]
            clear hb
            generalize z1.alloc (.cells (hdC zeroH).toArray 26) = z2 at *
            obtain ⟨ga, HGA⟩ : ∃ z, Hid (z = z1.heap.size) := ⟨_, rfl⟩
            have hgw : y0.heap.size ≤ ga := by rw [HGA.out]; exact hsz
            rw [← HGA.out] at hba ⊢
            clear HGA hsz
            refine wpAnyH_storeRow 10 26 (.tmp 14) (.tmp 62) ga (hdC zeroH) (hdC hc) hba (by rw [len_hdC HOC.out, len_hdC okH_zero]) (info_hdC HOC.out) (hdC_one _) (by kernel_rfl) rfl (by rfl) rfl rfl rfl ?_
            intro yE hs
            replace hS : Over y0 yE := Below.trans hS (hs.only.below hgw (Below.size hS))
            refine ⟨hS, ?_⟩
            simp only [Act.put, List.getElem_toArray, List.getElem_cons_succ, List.getElem_cons_zero]
            refine wpAnyH_take (i := 11) (v := .int .i64 (nc : Int)) rfl (by kernel_rfl) (by kernel_rfl) (by kernel_rfl) (fun _ _ _ h => h) (Or.inl ⟨by rfl, fun wx hx => by simp [go_sem]⟩) hS ?_
            simp only [Act.put, List.getElem_toArray, List.getElem_cons_succ, List.getElem_cons_zero, List.setIfInBounds_toArray, List.set_cons_zero, List.set_cons_succ]
            refine wpAnyH_take (i := 12) (v := .int .i64 ec) rfl (by kernel_rfl) (by kernel_rfl) (by kernel_rfl) (fun _ _ _ h => h) (Or.inl ⟨by rfl, fun wx hx => by simp [go_sem]⟩) hS ?_
            simp only [Act.put, List.getElem_toArray, List.getElem_cons_succ, List.getElem_cons_zero, List.setIfInBounds_toArray, List.set_cons_zero, List.set_cons_succ]
            refine wpAnyH_done (by kernel_rfl) ?_ _
            go_wp2
            go_meet
            case rel => exact ⟨ga, rfl, rfl, rfl, HG3.out.below hS HG3.out.lt, HG8.out.below hS HG8.out.lt, HR.out.below hS, HBW.out.trans (Below.mono hS HBW.out.size), hs.blk⟩
          · have hb := below_alloc y0 (.cells (hdC zeroH).toArray 26)
            have hba : Blk (y0.alloc (.cells (hdC zeroH).toArray 26)) y0.heap.size (hdC zeroH) 26 := Blk.new _ _ _
            have hsz : y0.heap.size ≤ y0.heap.size := Below.size hS
            replace hS := Over.more hS hb
            refine wpOp_vl 9 (.pointer (some ⟨y0.heap.size, 0, none⟩)) (y0.alloc (.cells (hdC zeroH).toArray 26)) (by rfl) (by rfl) (alloc_hd _ _ rfl _) ⟨hS, ?_⟩
            simp only [Act.put, List.getElem_toArray, List.getElem_cons_succ, List.getElem_cons_zero, List.setIfInBounds_toArray, List.set_cons_zero, List.set_cons_succ]
            clear hb
            generalize y0.alloc (.cells (hdC zeroH).toArray 26) = z1 at *
            obtain ⟨ga, HGA⟩ : ∃ z, Hid (z = y0.heap.size) := ⟨_, rfl⟩
            have hgw : y0.heap.size ≤ ga := by rw [HGA.out]; exact hsz
            rw [← HGA.out] at hba ⊢
            clear HGA hsz
            refine wpAnyH_enter 4 (by kernel_rfl) rfl (by rfl) (f := 17) (args := #[.agg (hdC hb).toArray, .slice (dropA ad kk cp) (n - kk) (cp - kk)]) (by simp [go_sem]) (HC3.out _ (HBW.out.trans (Below.mono hS HBW.out.size)) (HR.out.below hS)) ?_
            rintro e z2 ⟨rfl, hb⟩
            replace hS := Over.more hS hb
            replace hba := hba.below hb hba.lt
            refine ⟨_, rfl, hS, ?_⟩
            clear hb
            simp only [Act.put, List.getElem_toArray, List.getElem_cons_succ, List.getElem_cons_zero, List.setIfInBounds_toArray, List.set_cons_zero, List.set_cons_succ]
            refine wpAnyH_take (i := 5) (v := .tuple #[.agg (hdC hc).toArray, .int .i64 (nc : Int), .int .i64 ec]) rfl (by kernel_rfl) (by kernel_rfl) (by kernel_rfl) (fun _ _ _ h => h) (Or.inl ⟨by rfl, fun wx hx => by simp [go_sem]⟩) hS ?_
            simp only [Act.put, List.getElem_toArray, List.getElem_cons_succ, List.getElem_cons_zero, List.setIfInBounds_toArray, List.set_cons_zero, List.set_cons_succ]
            refine wpAnyH_take (i := 6) (v := .agg (hdC hc).toArray) rfl (by kernel_rfl) (by kernel_rfl) (by kernel_rfl) (fun _ _ _ h => h) (Or.inl ⟨by rfl, fun wx hx => by simp [go_sem]⟩) hS ?_
            simp only [Act.put, List.getElem_toArray, List.getElem_cons_succ, List.getElem_cons_zero, List.setIfInBounds_toArray, List.set_cons_zero, List.set_cons_succ]
            refine wpAnyH_take (i := 7) (v := .int .i64 (nc : Int)) rfl (by kernel_rfl) (by kernel_rfl) (by kernel_rfl) (fun _ _ _ h => h) (Or.inl ⟨by rfl, fun wx hx => by simp [go_sem]⟩) hS ?_
            simp only [Act.put, List.getElem_toArray, List.getElem_cons_succ, List.getElem_cons_zero, List.setIfInBounds_toArray, List.set_cons_zero, List.set_cons_succ]
            refine wpAnyH_take (i := 8) (v := .int .i64 ec) rfl (by kernel_rfl) (by kernel_rfl) (by kernel_rfl) (fun _ _ _ h => h) (Or.inl ⟨by rfl, fun wx hx => by simp [go_sem]⟩) hS ?_
            simp only [Act.put, List.getElem_toArray, List.getElem_cons_succ, List.getElem_cons_zero, List.setIfInBounds_toArray, List.set_cons_zero, List.set_cons_succ]
            refine wpAnyH_storeRow 10 26 (.tmp 14) (.tmp 62) ga (hdC zeroH) (hdC hc) hba (by rw [len_hdC HOC.out, len_hdC okH_zero]) (info_hdC HOC.out) (hdC_one _) (by kernel_rfl) rfl (by rfl) rfl rfl rfl ?_
            intro yE hs
            replace hS : Over y0 yE := Below.trans hS (hs.only.below hgw (Below.size hS))
            refine ⟨hS, ?_⟩
            simp only [Act.put, List.getElem_toArray, List.getElem_cons_succ, List.getElem_cons_zero]
            refine wpAnyH_take (i := 11) (v := .int .i64 (nc : Int)) rfl (by kernel_rfl) (by kernel_rfl) (by kernel_rfl) (fun _ _ _ h => h) (Or.inl ⟨by rfl, fun wx hx => by simp [go_sem]⟩) hS ?_
            simp only [Act.put, List.getElem_toArray, List.getElem_cons_succ, List.getElem_cons_zero, List.setIfInBounds_toArray, List.set_cons_zero, List.set_cons_succ]
            refine wpAnyH_take (i := 12) (v := .int .i64 ec) rfl (by kernel_rfl) (by kernel_rfl) (by kernel_rfl) (fun _ _ _ h => h) (Or.inl ⟨by rfl, fun wx hx => by simp [go_sem]⟩) hS ?_
            simp only [Act.put, List.getElem_toArray, List.getElem_cons_succ, List.getElem_cons_zero, List.setIfInBounds_toArray, List.set_cons_zero, List.set_cons_succ]
            refine wpAnyH_done (by kernel_rfl) ?_ _
            go_wp2
            go_meet
            case rel => exact ⟨ga, rfl, rfl, rfl, HG3.out.below hS HG3.out.lt, HG8.out.below hS HG8.out.lt, HR.out.below hS, HBW.out.trans (Below.mono hS HBW.out.size), hs.blk⟩
        case rest =>
          obtain ⟨g14, rfl, rfl, rfl, h3, h8, hr, hbw, h14⟩ := hcut
          clear HG3 HG8 HR HBW HG11
          have HG3 : Hid (Blk wc g3 (hdC h) 26) := h3
          have HG8 : Hid (Blk wc g8 (hdC ha) 26) := h8
          have HG14 : Hid (Blk wc g14 (hdC hc) 26) := h14
          have HR : Hid (ReadsS wc (.slice ad n cp) l) := hr
          have HBW : Hid (Below w.heap.size w wc) := hbw
          clear h3 h8 h14 hr hbw
          have tk60 : Hid True := trivial
          have tk61 : Hid True := trivial
          have tk62 : Hid True := trivial
          have tk63 : Hid True := trivial
          go_wp2_with (first
            | (clear tk60; with_reducible refine wpSeq_loadW 26 (.tmp 8) g8 0 (hdC ha) _ ?_ Tryd.underlying26 rfl ?_ ?_ ?_ ?_ ?_
               · exact HG8.out.range
               · exact info_hdC HOA.out
               · rfl
               · rfl
               · rfl)
            | (clear tk61; with_reducible refine wpSeq_loadW 26 (.tmp 14) g14 0 (hdC hc) _ ?_ Tryd.underlying26 rfl ?_ ?_ ?_ ?_ ?_
               · exact HG14.out.range
               · exact info_hdC HOC.out
               · rfl
               · rfl
               · rfl)
            | (clear tk62; with_reducible refine wpSeq_eqH (.tmp 65) (.tmp 66) ha hc HOA.out HOC.out true ?_ ?_ ?_ ?_ ?_ ?_
               · exact (decide_eq_true HQ1.out).symm
               · rfl
               · rfl
               · rfl
               · rfl)
            | (clear tk63; go_at_call 12; refine (HCW.out wc HBW.out).mono ?_; rintro e y61 ⟨rfl, hbz⟩
               replace HG3 : Hid (Blk y61 g3 (hdC h) 26) := HG3.out.below hbz HG3.out.lt
               replace HG8 : Hid (Blk y61 g8 (hdC ha) 26) := HG8.out.below hbz HG8.out.lt
               replace HG14 : Hid (Blk y61 g14 (hdC hc) 26) := HG14.out.below hbz HG14.out.lt
               replace HR : Hid (ReadsS y61 (.slice ad n cp) l) := HR.out.below hbz
               replace HBW : Hid (Below w.heap.size w y61) := HBW.out.trans (hbz.mono HBW.out.size)
               clear hbz ))
          go_ret
          first | exact ⟨rfl, HBW.out⟩ | exact ⟨trivial, HBW.out⟩
end Go.Proofs.YtfbdnhadcnmfoaaDoor
/- What the listed variable gives: the rounds' words lie where the walks look for them. -/
namespace Go.Proofs.YtfbdnhadcnmfoaaDoor
open Go.ChangeShapes Go.WideShapes Go.ChangeAt Go.WideMaps Go.WideElems Go.RowKit
set_option maxRecDepth 100000
theorem own : ownKnob Tryd.prog.godebug = none := by kernel_rfl
theorem gKw : Tryd.prog.globalNamed "blazon/sha.roundWords" = some 0 := by kernel_rfl
theorem tKw : (Tryd.prog.globals[0]?).map (·.type) = some 95 := by kernel_rfl
def laidK : List (String × DataW Unit) := [("blazon/sha.roundWords", Rows.laid_blazon_sha_roundWords)]
def kzs : List Int := kw.map fun x => (x.toNat : Int)
theorem laid_tab : (Rows.laid_blazon_sha_roundWords : DataW Unit) = Lib.tabData .u32 kzs := by kernel_rfl
theorem door_met (os : Os) (args : Array Value) : laidMetH Tryd.prog laidK ((World.doorLaid Tryd.prog 400 os).forCall (fun _ _ => 0) ⟨#[], args, []⟩).memory :=
  laidMetH_of_parts3 (fuel := 8) (laidMet_of_run' 8 (by kernel_rfl) (by kernel_rfl)) (by kernel_rfl) (by kernel_rfl)
theorem getD_toNat (l : List (BitVec 32)) (j : Nat) : (l.map fun x => (x.toNat : Int)).getD j 0 = ((l.getD j 0).toNat : Int) := by
  rw [List.getD_eq_getElem?_getD, List.getD_eq_getElem?_getD, List.getElem?_map]
  cases l[j]? <;> rfl
theorem kok_of_laid {W : World} (h : laidMetH Tryd.prog laidK W) : KOk W := by
  rw [MakeChecks.laidMetH_plain _ _ _ (by kernel_rfl)] at h
  unfold laidK at h
  rw [laid_tab] at h
  have hT := Lib.tabIs_of_head gKw tKw Tryd.underlying95 Tryd.underlying85 (by kernel_rfl) (by kernel_rfl) h
  intro j hj
  rw [hT.cell gKw j (by simpa [kzs, kw] using hj), kzs, getD_toNat]
end Go.Proofs.YtfbdnhadcnmfoaaDoor
/- What a slice of bytes that came in gives: the bytes that it reads as; and that it reads so still behind a call that changed no old block. -/
namespace Go.Proofs.YtfbdnhadcnmfoaaDoor
open Go.ChangeShapes Go.WideShapes Go.ChangeAt Go.WideMaps Go.WideElems Go.RowKit
set_option maxRecDepth 100000
theorem cells_byte : Tryd.prog.cellsOf 5 = 1 := by kernel_rfl
theorem laid_out : laidOutB Tryd.prog = true := by kernel_rfl
theorem readable_bytes : Tryd.prog.readableRec 29 = true := by kernel_rfl
theorem row_bytes : 29 < Tryd.prog.types.size := of_decide_eq_true (by kernel_rfl)
theorem byte_range {zs : List Int} (h : ∀ n ∈ zs, (Lit.int .u8 n).wf = true) (j : Nat) : 0 ≤ zs.getD j 0 ∧ zs.getD j 0 < 256 := by
  rw [List.getD_eq_getElem?_getD]
  cases hj : zs[j]? with
  | none => simp
  | some n =>
    have := h n (List.mem_of_getElem? hj)
    have := bounds_u8 this
    simp
    omega
theorem reads_of_trod {H : Type} {enc : TypeId × Value → H} {W : World} {base : Nat} {v : Value} {d : DataW H} {p : List MemPlace} (hval : Value.okWide Tryd.prog W .any base 29 v)
    (h : DataW.Trod enc Tryd.prog W 0 (fun _ => true) true 29 v d p) :
    ∃ bs, Reads W v bs ∧ bs.length ≤ maxLen ∧ ∀ x ∈ p, x.block < W.heap.size := by
  obtain ⟨a1, len, cap, rfl⟩ := okWide_slice Tryd.underlying29 hval
  obtain ⟨fuel, hf⟩ := h
  rcases open_ints Tryd.underlying29 Tryd.underlying5 cells_byte hf with ⟨hcs, hx⟩ | ⟨a, len', cap', zs, hcs, _, hl, hm, hz, hx, hcell, hwz⟩
  · simp [Value.cells] at hcs
    obtain ⟨rfl, rfl, rfl⟩ := hcs
    simp only [Prod.mk.injEq] at hx
    obtain ⟨rfl, rfl⟩ := hx
    exact ⟨[], ⟨none, 0, rfl, Nat.le_refl _, fun _ => rfl, fun h => by cases h⟩, Nat.zero_le _, fun _ h => by cases h⟩
  · simp [Value.cells] at hcs
    obtain ⟨rfl, rfl, rfl⟩ := hcs
    simp only [Prod.mk.injEq] at hx
    obtain ⟨rfl, rfl⟩ := hx
    simp only [if_true] at hz
    have hlen : ((zs.take len).map fun n => BitVec.ofInt 8 n).length = len := by simp; omega
    obtain ⟨ab, ao, spot⟩ := a
    refine ⟨(zs.take len).map fun n => BitVec.ofInt 8 n, ⟨some ⟨ab, ao, spot⟩, cap, by rw [hlen], by rw [hlen]; exact hl, (fun h => by cases h), fun hp => ?_⟩, by rw [hlen]; omega, fun x hx => ?_⟩
    · rw [hlen] at hp ⊢
      have hspot : spot = none := by simpa [Addr.add] using World.cell?_spot (hcell 0 (by omega))
      subst hspot
      refine ⟨ab, ao, rfl, fun j hj => ?_⟩
      have hcj := hcell j (by omega)
      rw [Addr.add_lit] at hcj
      rw [hcj]
      have hb := byte_range hwz j
      have e : ((zs.take len).map fun n => BitVec.ofInt 8 n).getD j 0 = BitVec.ofInt 8 (zs.getD j 0) := by
        rw [List.getD_eq_getElem?_getD, List.getElem?_map, List.getElem?_take_of_lt hj, List.getD_eq_getElem?_getD, List.getElem?_eq_getElem (show j < zs.length by omega)]
        rfl
      rw [e, BitVec.toNat_ofInt]
      congr 2
      omega
    · simp only [MemPlace.row, List.mem_map, List.mem_range] at hx
      obtain ⟨i, hi, rfl⟩ := hx
      have hcj := hcell i (by omega)
      have := block_lt_of_cell hcj
      simp only [Addr.add] at this
      split at this <;> exact this
end Go.Proofs.YtfbdnhadcnmfoaaDoor
/- What a digest that came in gives: its 32 bytes. -/
namespace Go.Proofs.YtfbdnhadcnmfoaaDoor
open Go.ChangeShapes Go.WideShapes Go.ChangeAt Go.WideMaps Go.WideElems Go.RowKit
set_option maxRecDepth 100000
theorem cells_digest : Tryd.prog.cellsOf 23 = 32 := by kernel_rfl
theorem readable_digest : Tryd.prog.readableRec 23 = true := by kernel_rfl
theorem row_digest : 23 < Tryd.prog.types.size := of_decide_eq_true (by kernel_rfl)
def numOf8 : Value → BitVec 8
  | .int _ n => BitVec.ofInt 8 n
  | _ => 0
theorem digest_of_trod {H : Type} {enc : TypeId × Value → H} {W : World} {base : Nat} {v : Value} {d : DataW H} {p : List MemPlace} (hval : Value.okWide Tryd.prog W .any base 23 v)
    (h : DataW.Trod enc Tryd.prog W 0 (fun _ => true) true 23 v d p) :
    ∃ dg, v = .agg (cb dg).toArray ∧ dg.length = 32 ∧ ∀ x ∈ p, x.block < W.heap.size := by
  simp only [Value.okWide, Tryd.underlying23] at hval
  obtain ⟨cs, rfl, hcs, _⟩ := hval
  obtain ⟨fuel, hf⟩ := h
  obtain ⟨xs, m, _, hx, hl, hn, hi⟩ := DataW.trod_array Tryd.underlying23 hf
  simp only [Value.cells] at hl hi
  rw [cells_digest] at hl
  rw [cells_byte] at hi
  have each : ∀ i, i < 32 → ∃ n, cs.toList[i]? = some (.int .u8 n) ∧ xs[i]? = some (.lit (.int .u8 n), []) ∧ (Lit.int .u8 n).wf = true := by
    intro i h32
    have h1 := hi i h32
    rw [List.getElem?_eq_getElem (by omega)] at h1
    obtain ⟨n, hc, hxx, hw⟩ := DataW.trod_int Tryd.underlying5 h1
    refine ⟨n, ?_, by rw [List.getElem?_eq_getElem (by omega), hxx], hw⟩
    rw [Nat.mul_one] at hc
    have h2 := congrArg (fun l => l[0]?) hc
    simpa using h2
  have hlen : (cs.toList.map numOf8).length = 32 := by simpa using hl
  refine ⟨cs.toList.map numOf8, ?_, hlen, ?_⟩
  · congr 1
    apply Array.ext'
    rw [List.toList_toArray]
    apply List.ext_getElem?
    intro i
    by_cases h32 : i < 32
    · obtain ⟨n, h1, _, hw⟩ := each i h32
      have hb := bounds_u8 hw
      rw [h1, cb_get _ _ (by omega), List.getD_eq_getElem?_getD, List.getElem?_map, h1]
      simp only [Option.map_some, Option.getD_some, numOf8, BitVec.toNat_ofInt]
      congr 2
      omega
    · rw [List.getElem?_eq_none (by omega), List.getElem?_eq_none (by rw [cb_len]; omega)]
  · simp only [Prod.mk.injEq] at hx
    rw [hx.2]
    intro x hmem
    obtain ⟨y, hy, hxy⟩ := List.mem_flatMap.1 hmem
    obtain ⟨i, hlt, rfl⟩ := List.getElem_of_mem hy
    obtain ⟨n, _, h2, _⟩ := each i (by omega)
    rw [List.getElem?_eq_getElem hlt] at h2
    rw [Option.some.inj h2] at hxy
    cases hxy
end Go.Proofs.YtfbdnhadcnmfoaaDoor
/- What a slice of digests that came in gives; five arguments that came in, opened and shut (for the statements of layer 7). -/
namespace Go.Proofs.YtfbdnhadcnmfoaaDoor
open Go.ChangeShapes Go.WideShapes Go.ChangeAt Go.WideMaps Go.WideElems Go.RowKit
set_option maxRecDepth 100000
set_option maxRecDepth 100000 in
theorem bulk_pos {H : Type} (d : DataW H) : 1 ≤ Rows.uptoBulk d := by
  cases d with
  | lit l => cases l <;> simp [Rows.uptoBulk]
  | _ => simp [Rows.uptoBulk]
set_option maxRecDepth 100000 in
theorem bulk_slice {H : Type} (e s : List (DataW H)) : Rows.uptoBulkAll e ≤ Rows.uptoBulk (DataW.slice e s) := by
  simp only [Rows.uptoBulk]; omega
set_option maxRecDepth 100000 in
theorem bulk_len {H : Type} : ∀ l : List (DataW H), l.length ≤ Rows.uptoBulkAll l
  | [] => Nat.zero_le _
  | d :: r => by
    have h1 := bulk_len r
    have h2 := bulk_pos d
    simp only [Rows.uptoBulkAll, List.length_cons]
    omega
theorem digest_of_cells {H : Type} {enc : TypeId × Value → H} {W : World} {cs : List Value} {d : DataW H} {p : List MemPlace} {fuel : Nat} (hf : DataW.trod enc Tryd.prog W 0 (fun _ => true) true fuel 23 cs = some (d, p)) :
    ∃ dg, cs = cb dg ∧ dg.length = 32 ∧ ∀ x ∈ p, x.block < W.heap.size := by
  obtain ⟨xs, m, _, hx, hl, hn, hi⟩ := DataW.trod_array Tryd.underlying23 hf
  rw [cells_digest] at hl
  rw [cells_byte] at hi
  have each : ∀ i, i < 32 → ∃ n, cs[i]? = some (.int .u8 n) ∧ xs[i]? = some (.lit (.int .u8 n), []) ∧ (Lit.int .u8 n).wf = true := by
    intro i h32
    have h1 := hi i h32
    rw [List.getElem?_eq_getElem (by omega)] at h1
    obtain ⟨n, hc, hxx, hw⟩ := DataW.trod_int Tryd.underlying5 h1
    refine ⟨n, ?_, by rw [List.getElem?_eq_getElem (by omega), hxx], hw⟩
    rw [Nat.mul_one] at hc
    have h2 := congrArg (fun l => l[0]?) hc
    simpa using h2
  have hlen : (cs.map numOf8).length = 32 := by simpa using hl
  refine ⟨cs.map numOf8, ?_, hlen, ?_⟩
  · apply List.ext_getElem?
    intro i
    by_cases h32 : i < 32
    · obtain ⟨n, h1, _, hw⟩ := each i h32
      have hb := bounds_u8 hw
      rw [h1, cb_get _ _ (by omega), List.getD_eq_getElem?_getD, List.getElem?_map, h1]
      simp only [Option.map_some, Option.getD_some, numOf8, BitVec.toNat_ofInt]
      congr 2
      omega
    · rw [List.getElem?_eq_none (by omega), List.getElem?_eq_none (by rw [cb_len]; omega)]
  · simp only [Prod.mk.injEq] at hx
    rw [hx.2]
    intro x hmem
    obtain ⟨y, hy, hxy⟩ := List.mem_flatMap.1 hmem
    obtain ⟨i, hlt, rfl⟩ := List.getElem_of_mem hy
    obtain ⟨n, _, h2, _⟩ := each i (by omega)
    rw [List.getElem?_eq_getElem hlt] at h2
    rw [Option.some.inj h2] at hxy
    cases hxy
set_option maxRecDepth 100000 in
theorem readable_digests : Tryd.prog.readableRec 47 = true := by kernel_rfl
set_option maxRecDepth 100000 in
theorem row_digests : 47 < Tryd.prog.types.size := of_decide_eq_true (by kernel_rfl)
theorem readsD_of_trod {H : Type} {enc : TypeId × Value → H} {W : World} {base : Nat} {v : Value} {d : DataW H} {p : List MemPlace} (hval : Value.okWide Tryd.prog W .any base 47 v)
    (h : DataW.Trod enc Tryd.prog W 0 (fun _ => true) true 47 v d p) :
    ∃ ds, ReadsD W v ds ∧ ds.length ≤ Rows.uptoBulk d ∧ ∀ x ∈ p, x.block < W.heap.size := by
  obtain ⟨a1, len, cap, rfl⟩ := okWide_slice Tryd.underlying47 hval
  obtain ⟨fuel, hf⟩ := h
  rcases Go.Deep.open_slice Tryd.underlying47 hf with ⟨hcs, hx⟩ | ⟨a, len', cap', m, n, D, Pl, hcs, _, hl, hm, hmm, hx, hV⟩
  · simp [Value.cells] at hcs
    obtain ⟨rfl, rfl, rfl⟩ := hcs
    simp only [Prod.mk.injEq] at hx
    obtain ⟨rfl, rfl⟩ := hx
    exact ⟨[], ⟨⟨none, 0, rfl, Nat.le_refl _, fun _ => rfl, fun h => by cases h⟩, fun _ h => by cases h⟩, Nat.zero_le _, fun _ h => by cases h⟩
  · simp [Value.cells] at hcs
    obtain ⟨rfl, rfl, rfl⟩ := hcs
    simp only [Prod.mk.injEq] at hx
    obtain ⟨rfl, rfl⟩ := hx
    simp only [if_true] at hmm
    subst hmm
    rw [cells_digest] at hV
    obtain ⟨B, hB⟩ := Go.Deep.choose_lt (α := List (BitVec 8)) (p := fun i dg => W.cells? 0 (a.add (i * 32)) 32 = some (cb dg) ∧ dg.length = 32 ∧ ∀ x ∈ Pl i, x.block < W.heap.size) (fun i hi => by
      obtain ⟨cs', h1, h2⟩ := hV i hi
      obtain ⟨dg, rfl, h3, h4⟩ := digest_of_cells h2
      exact ⟨dg, h1, h3, h4⟩)
    have hlen : ((List.range len).map B).length = len := by simp
    obtain ⟨ab, ao, spot⟩ := a
    have cell : ∀ i, i < m → ∀ j, j < 32 → W.cell? ((⟨ab, ao, spot⟩ : Addr).add (i * 32 + j)) = (cb (B i))[j]? := by
      intro i hi j hj
      obtain ⟨h1, _, _⟩ := hB i hi
      obtain ⟨_, _, h4⟩ := World.cells?_some h1
      have := h4 j hj
      rw [Go.Deep.add_add] at this
      exact this
    have hspot : 0 < m → spot = none := fun hp => by
      have h := cell 0 hp 0 (by omega)
      rw [cb_get _ 0 (by rw [(hB 0 hp).2.1]; omega)] at h
      simpa [Addr.add] using World.cell?_spot h
    refine ⟨(List.range len).map B, ⟨⟨some ⟨ab, ao, spot⟩, m, by rw [hlen], by rw [hlen]; exact hl, (fun h => by cases h), fun hp => ?_⟩, ?_⟩, by rw [hlen]; exact Nat.le_trans (by have := bulk_len ((List.range len).map D); simpa using this) (bulk_slice _ _), fun x hx => ?_⟩
    · rw [hlen] at hp ⊢
      have hs := hspot (by omega)
      subst hs
      refine ⟨ab, ao, rfl, fun j hj i v hv => ?_⟩
      have e : ((List.range len).map B).getD j [] = B j := by simp [hj]
      rw [e] at hv
      have hi : i < 32 := by have := (List.getElem?_eq_some_iff.1 hv).1; rwa [cb_len, (hB j (by omega)).2.1] at this
      have h := cell j (by omega) i hi
      rw [hv, Addr.add_lit] at h
      rw [Nat.add_assoc]; exact h
    · intro dg hd
      obtain ⟨i, hi, rfl⟩ := List.mem_map.1 hd
      exact (hB i (by have := List.mem_range.1 hi; omega)).2.1
    · rcases List.mem_append.1 hx with hx | hx
      · rw [cells_digest] at hx
        simp only [MemPlace.row, List.mem_map, List.mem_range] at hx
        obtain ⟨i, hi, rfl⟩ := hx
        have h := cell (i / 32) (by omega) (i % 32) (by omega)
        rw [cb_get _ _ (by rw [(hB (i / 32) (by omega)).2.1]; omega), show i / 32 * 32 + i % 32 = i by omega] at h
        have := block_lt_of_cell h
        simp only [Addr.add] at this
        split at this <;> exact this
      · obtain ⟨i, hi, hx⟩ := List.mem_flatMap.1 hx
        exact (hB i (List.mem_range.1 hi)).2.2 x hx
theorem trodAll_five {H : Type} {enc : TypeId × Value → H} {P : Program} {w : World} {base : Nat} {spare : Nat → Bool} {held : Bool} {t0 t1 t2 t3 t4 : TypeId} {args : Array Value} {ds : List (DataW H)} {ps : List MemPlace} (h : DataW.TrodAll enc P w base spare held [t0, t1, t2, t3, t4] args.toList ds ps) :
    ∃ v0 v1 v2 v3 v4 d0 d1 d2 d3 d4 p0 p1 p2 p3 p4, args = #[v0, v1, v2, v3, v4] ∧ ds = [d0, d1, d2, d3, d4] ∧ ps = p0 ++ p1 ++ p2 ++ p3 ++ p4 ∧ DataW.Trod enc P w base spare held t0 v0 d0 p0 ∧ DataW.Trod enc P w base spare held t1 v1 d1 p1 ∧ DataW.Trod enc P w base spare held t2 v2 d2 p2 ∧ DataW.Trod enc P w base spare held t3 v3 d3 p3 ∧ DataW.Trod enc P w base spare held t4 v4 d4 p4 := by
  obtain ⟨v0, vs0, d0, ds0, p0, q0, hargs, rfl, rfl, h0, r0⟩ := trodAll_cons h
  obtain ⟨v1, vs1, d1, ds1, p1, q1, rfl, rfl, rfl, h1, r1⟩ := trodAll_cons r0
  obtain ⟨v2, vs2, d2, ds2, p2, q2, rfl, rfl, rfl, h2, r2⟩ := trodAll_cons r1
  obtain ⟨v3, vs3, d3, ds3, p3, q3, rfl, rfl, rfl, h3, r3⟩ := trodAll_cons r2
  obtain ⟨v4, vs4, d4, ds4, p4, q4, rfl, rfl, rfl, h4, r4⟩ := trodAll_cons r3
  obtain ⟨rfl, rfl, rfl⟩ := trodAll_nil r4
  exact ⟨v0, v1, v2, v3, v4, d0, d1, d2, d3, d4, p0, p1, p2, p3, p4, by cases args; simp_all, rfl, by simp, h0, h1, h2, h3, h4⟩
theorem trodAll_mk5 {H : Type} {enc : TypeId × Value → H} {P : Program} {w : World} {base : Nat} {spare : Nat → Bool} {held : Bool} {t0 t1 t2 t3 t4 : TypeId} {v0 v1 v2 v3 v4 : Value} {d0 d1 d2 d3 d4 : DataW H} {p0 p1 p2 p3 p4 : List MemPlace} (h0 : DataW.Trod enc P w base spare held t0 v0 d0 p0) (h1 : DataW.Trod enc P w base spare held t1 v1 d1 p1) (h2 : DataW.Trod enc P w base spare held t2 v2 d2 p2) (h3 : DataW.Trod enc P w base spare held t3 v3 d3 p3) (h4 : DataW.Trod enc P w base spare held t4 v4 d4 p4) : DataW.TrodAll enc P w base spare held [t0, t1, t2, t3, t4] [v0, v1, v2, v3, v4] [d0, d1, d2, d3, d4] (p0 ++ (p1 ++ (p2 ++ (p3 ++ p4)))) :=
  ⟨p0, _, h0, trodAll_mk4 h1 h2 h3 h4, rfl⟩
end Go.Proofs.YtfbdnhadcnmfoaaDoor
/- What a head, a signed root and a slice of signed roots that came in give: their parts (layer 11). -/
namespace Go.Proofs.YtfbdnhadcnmfoaaDoor
open Go.ChangeShapes Go.WideShapes Go.ChangeAt Go.WideMaps Go.WideElems Go.RowKit
set_option maxRecDepth 100000
set_option maxRecDepth 100000 in
theorem readable_head : Tryd.prog.readableRec 26 = true := by kernel_rfl
set_option maxRecDepth 100000 in
theorem row_head : 26 < Tryd.prog.types.size := of_decide_eq_true (by kernel_rfl)
set_option maxRecDepth 100000 in
theorem cells_head : Tryd.prog.cellsOf 26 = 65 := by kernel_rfl
set_option maxRecDepth 100000 in
theorem readable_signed : Tryd.prog.readableRec 31 = true := by kernel_rfl
set_option maxRecDepth 100000 in
theorem row_signed : 31 < Tryd.prog.types.size := of_decide_eq_true (by kernel_rfl)
set_option maxRecDepth 100000 in
theorem cells_signed : Tryd.prog.cellsOf 31 = 98 := by kernel_rfl
set_option maxRecDepth 100000 in
theorem cells_root : Tryd.prog.cellsOf 28 = 97 := by kernel_rfl
set_option maxRecDepth 100000 in
theorem cells_u64c : Tryd.prog.cellsOf 24 = 1 := by kernel_rfl
set_option maxRecDepth 100000 in
theorem cells_bytesc : Tryd.prog.cellsOf 29 = 1 := by kernel_rfl
set_option maxRecDepth 100000 in
theorem readable_signeds : Tryd.prog.readableRec 42 = true := by kernel_rfl
set_option maxRecDepth 100000 in
theorem row_signeds : 42 < Tryd.prog.types.size := of_decide_eq_true (by kernel_rfl)
theorem reads_of_cells11 {H : Type} {enc : TypeId × Value → H} {W : World} {v : Value} {y : DataW H × List MemPlace} {fuel : Nat} (hf : DataW.trod enc Tryd.prog W 0 (fun _ => true) true fuel 29 [v] = some y) :
    ∃ bs, Reads W v bs := by
  rcases open_ints Tryd.underlying29 Tryd.underlying5 cells_byte hf with ⟨hcs, hx⟩ | ⟨a, len, cap, zs, hcs, _, hl, hm, hz, hx, hcell, hwz⟩
  · simp only [List.cons.injEq, and_true] at hcs
    subst hcs
    exact ⟨[], ⟨none, 0, rfl, Nat.le_refl _, fun _ => rfl, fun h => by cases h⟩⟩
  · simp only [List.cons.injEq, and_true] at hcs
    subst hcs
    simp only [if_true] at hz
    have hlen : ((zs.take len).map fun n => BitVec.ofInt 8 n).length = len := by simp; omega
    obtain ⟨ab, ao, spot⟩ := a
    refine ⟨(zs.take len).map fun n => BitVec.ofInt 8 n, ⟨some ⟨ab, ao, spot⟩, cap, by rw [hlen], by rw [hlen]; exact hl, (fun h => by cases h), fun hp => ?_⟩⟩
    rw [hlen] at hp ⊢
    have hspot : spot = none := by simpa [Addr.add] using World.cell?_spot (hcell 0 (by omega))
    subst hspot
    refine ⟨ab, ao, rfl, fun j hj => ?_⟩
    have hcj := hcell j (by omega)
    rw [Addr.add_lit] at hcj
    rw [hcj]
    have hb := byte_range hwz j
    have e : ((zs.take len).map fun n => BitVec.ofInt 8 n).getD j 0 = BitVec.ofInt 8 (zs.getD j 0) := by
      rw [List.getD_eq_getElem?_getD, List.getElem?_map, List.getElem?_take_of_lt hj, List.getD_eq_getElem?_getD, List.getElem?_eq_getElem (show j < zs.length by omega)]
      rfl
    rw [e, BitVec.toNat_ofInt]
    congr 2
    omega
theorem take_one11 {l : List Value} {k n : Nat} (hl : l.length = n) (hk : k < n) : ∃ c, (l.drop k).take 1 = [c] := by
  have h : (l.drop k).length = n - k := by rw [List.length_drop, hl]
  match hq : l.drop k, h with
  | [], h => simp at h; omega
  | c :: r, _ => exact ⟨c, rfl⟩
set_option maxRecDepth 100000 in
theorem head_of_trod {H : Type} {enc : TypeId × Value → H} {W : World} {base : Nat} {v : Value} {d : DataW H} {p : List MemPlace} (hval : Value.okWide Tryd.prog W .any base 26 v)
    (h : DataW.Trod enc Tryd.prog W 0 (fun _ => true) true 26 v d p) :
    ∃ hd : HdT, v = .agg (hdC hd).toArray ∧ okH hd ∧ ∀ q ∈ p, q.block < W.heap.size := by
  simp only [Value.okWide, Tryd.underlying26] at hval
  obtain ⟨cs, rfl, hcs, _⟩ := hval
  obtain ⟨fuel, hf⟩ := h
  have hp := DataW.trod_lt _ _ _ _ hf
  obtain ⟨y0, y1, y2, n, hx, hl, h0, h1, h2⟩ := Go.Deep.trod_struct3 Tryd.underlying26 hf
  simp only [Value.cells] at hl h0 h1 h2
  rw [cells_head] at hl
  rw [cells_u64c] at h0
  rw [cells_digest] at h1 h2
  obtain ⟨l⟩ := cs
  simp only at hl h0 h1 h2
  obtain ⟨m, e0, _, hw⟩ := DataW.trod_int Tryd.underlying24 h0
  obtain ⟨a1, b1⟩ := y1
  obtain ⟨a2, b2⟩ := y2
  obtain ⟨x, f1, lx, _⟩ := digest_of_cells h1
  obtain ⟨y, f2, ly, _⟩ := digest_of_cells h2
  have hb := bounds_u64 hw
  have d1 : l = l.take 1 ++ l.drop 1 := (List.take_append_drop 1 l).symm
  have d2 : l.drop 1 = (l.drop 1).take 32 ++ l.drop 33 := by
    have := (List.take_append_drop 32 (l.drop 1)).symm
    rwa [List.drop_drop] at this
  have d3 : l.drop 33 = (l.drop 33).take 32 := by
    rw [List.take_of_length_le (by rw [List.length_drop]; omega)]
  rw [List.drop_zero] at e0
  refine ⟨(m.toNat, x, y), ?_, okH_mk lx ly (by omega), hp⟩
  congr 1
  rw [d1, d2, d3, e0, f1, f2, hdC]
  rw [Int.toNat_of_nonneg (by omega)]
  rfl
set_option maxRecDepth 100000 in
theorem signed_of_cells {H : Type} {enc : TypeId × Value → H} {W : World} {l : List Value} {d : DataW H} {p : List MemPlace} {fuel : Nat} (hf : DataW.trod enc Tryd.prog W 0 (fun _ => true) true fuel 31 l = some (d, p)) :
    ∃ (s : SgT) (c : Value), l = sgC s c ∧ okS s ∧ Reads W c s.2 ∧ ∀ q ∈ p, q.block < W.heap.size := by
  have hp := DataW.trod_lt _ _ _ _ hf
  obtain ⟨y0, y1, n, hx, hl, h0, h1⟩ := Go.ChangeShapes.trod_struct2 Tryd.underlying31 hf
  rw [cells_signed] at hl
  rw [cells_root] at h0
  rw [cells_bytesc] at h1
  simp only at hl h0 h1
  obtain ⟨c, e1⟩ := take_one11 (k := 97) hl (by omega)
  rw [e1] at h1
  obtain ⟨sg, hr⟩ := reads_of_cells11 (v := c) h1
  obtain ⟨r0, r1, r2, r3, n', hx', hl', k0, k1, k2, k3⟩ := Go.Joins.trod_struct4 Tryd.underlying28 h0
  rw [cells_u64c] at k0
  rw [cells_digest] at k1 k2 k3
  obtain ⟨m, e0, _, hw⟩ := DataW.trod_int Tryd.underlying24 k0
  obtain ⟨a1, b1⟩ := r1
  obtain ⟨a2, b2⟩ := r2
  obtain ⟨a3, b3⟩ := r3
  obtain ⟨x, f1, lx, _⟩ := digest_of_cells k1
  obtain ⟨y, f2, ly, _⟩ := digest_of_cells k2
  obtain ⟨z, f3, lz, _⟩ := digest_of_cells k3
  have hb := bounds_u64 hw
  obtain ⟨r, hr0⟩ : ∃ r, r = (l.drop 0).take 97 := ⟨_, rfl⟩
  rw [← hr0] at e0 f1 f2 f3 hl'
  rw [cells_root] at hl'
  have d1 : r = r.take 1 ++ r.drop 1 := (List.take_append_drop 1 r).symm
  have d2 : r.drop 1 = (r.drop 1).take 32 ++ r.drop 33 := by
    have := (List.take_append_drop 32 (r.drop 1)).symm
    rwa [List.drop_drop] at this
  have d3 : r.drop 33 = (r.drop 33).take 32 ++ r.drop 65 := by
    have := (List.take_append_drop 32 (r.drop 33)).symm
    rwa [List.drop_drop] at this
  have d4 : r.drop 65 = (r.drop 65).take 32 := by
    rw [List.take_of_length_le (by rw [List.length_drop]; omega)]
  rw [List.drop_zero] at e0
  have hrr : r = .int .u64 m :: (cb x ++ (cb y ++ cb z)) := by
    rw [d1, d2, d3, d4, e0, f1, f2, f3]; rfl
  have dl : l = l.take 97 ++ l.drop 97 := (List.take_append_drop 97 l).symm
  have d97 : l.drop 97 = (l.drop 97).take 1 := by rw [List.take_of_length_le (by rw [List.length_drop]; omega)]
  rw [List.drop_zero] at hr0
  refine ⟨((m.toNat, x, y, z), sg), c, ?_, okS_mk lx ly lz (by omega), hr, hp⟩
  rw [dl, ← hr0, d97, e1, hrr]
  unfold sgC
  rw [Int.toNat_of_nonneg (by omega)]
  simp
set_option maxRecDepth 100000 in
theorem signed11_of_trod {H : Type} {enc : TypeId × Value → H} {W : World} {base : Nat} {v : Value} {d : DataW H} {p : List MemPlace} (hval : Value.okWide Tryd.prog W .any base 31 v)
    (h : DataW.Trod enc Tryd.prog W 0 (fun _ => true) true 31 v d p) :
    ∃ (s : SgT) (c : Value), v = .agg (sgC s c).toArray ∧ okS s ∧ Reads W c s.2 ∧ ∀ q ∈ p, q.block < W.heap.size := by
  simp only [Value.okWide, Tryd.underlying31] at hval
  obtain ⟨cs, rfl, hcs, _⟩ := hval
  obtain ⟨fuel, hf⟩ := h
  obtain ⟨l⟩ := cs
  obtain ⟨s, c, h1, h2⟩ := signed_of_cells (l := l) hf
  exact ⟨s, c, by rw [h1], h2⟩
theorem readsS_of_trod {H : Type} {enc : TypeId × Value → H} {W : World} {base : Nat} {v : Value} {d : DataW H} {p : List MemPlace} (hval : Value.okWide Tryd.prog W .any base 42 v)
    (h : DataW.Trod enc Tryd.prog W 0 (fun _ => true) true 42 v d p) :
    ∃ l, ReadsS W v l ∧ ∀ x ∈ p, x.block < W.heap.size := by
  obtain ⟨a1, len, cap, rfl⟩ := okWide_slice Tryd.underlying42 hval
  obtain ⟨fuel, hf⟩ := h
  have hp0 := DataW.trod_lt _ _ _ _ hf
  rcases Go.Deep.open_slice Tryd.underlying42 hf with ⟨hcs, hx⟩ | ⟨a, len', cap', m, n, D, Pl, hcs, _, hl, hm, hmm, hx, hV⟩
  · simp [Value.cells] at hcs
    obtain ⟨rfl, rfl, rfl⟩ := hcs
    exact ⟨[], ReadsS.nil W, hp0⟩
  · simp [Value.cells] at hcs
    obtain ⟨rfl, rfl, rfl⟩ := hcs
    simp only [if_true] at hmm
    subst hmm
    rw [cells_signed] at hV
    obtain ⟨B, hB⟩ := Go.Deep.choose_lt (α := SgT × Value) (p := fun i q => W.cells? 0 (a.add (i * 98)) 98 = some (sgC q.1 q.2) ∧ okS q.1 ∧ Reads W q.2 q.1.2) (fun i hi => by
      obtain ⟨cs', h1, h2⟩ := hV i hi
      obtain ⟨s, c, rfl, h3, h4, _⟩ := signed_of_cells h2
      exact ⟨(s, c), h1, h3, h4⟩)
    have hlen : ((List.range len).map fun i => (B i).1).length = len := by simp
    obtain ⟨ab, ao, spot⟩ := a
    have cell : ∀ i, i < m → ∀ j, j < 98 → W.cell? ((⟨ab, ao, spot⟩ : Addr).add (i * 98 + j)) = (sgC (B i).1 (B i).2)[j]? := by
      intro i hi j hj
      obtain ⟨h1, _, _⟩ := hB i hi
      obtain ⟨_, _, h4⟩ := World.cells?_some h1
      have := h4 j hj
      rw [Go.Deep.add_add] at this
      exact this
    have hspot : 0 < m → spot = none := fun hp => by
      have h := cell 0 hp 0 (by omega)
      rw [show (sgC (B 0).1 (B 0).2)[0]? = some (.int .u64 ((B 0).1.1.1 : Int)) from rfl] at h
      simpa [Addr.add] using World.cell?_spot h
    refine ⟨(List.range len).map fun i => (B i).1, ⟨⟨some ⟨ab, ao, spot⟩, m, by rw [hlen], by rw [hlen]; exact hl, (fun h => by cases h), fun hp => ?_⟩, ?_⟩, hp0⟩
    · rw [hlen] at hp ⊢
      have hs := hspot (by omega)
      subst hs
      refine ⟨ab, ao, rfl, fun j hj => ?_⟩
      have e : ((List.range len).map fun i => (B i).1).getD j zeroS = (B j).1 := by simp [hj]
      rw [e]
      refine ⟨(B j).2, ⟨fun i v hv => ?_, (hB j (by omega)).2.1⟩, (hB j (by omega)).2.2⟩
      have hi : i < 98 := by have := (List.getElem?_eq_some_iff.1 hv).1; rwa [len_sgC (hB j (by omega)).2.1] at this
      have h := cell j (by omega) i hi
      rw [hv, Addr.add_lit] at h
      rw [Nat.add_assoc]; exact h
    · intro s hs
      obtain ⟨i, hi, rfl⟩ := List.mem_map.1 hs
      exact (hB i (by have := List.mem_range.1 hi; omega)).2.1
end Go.Proofs.YtfbdnhadcnmfoaaDoor

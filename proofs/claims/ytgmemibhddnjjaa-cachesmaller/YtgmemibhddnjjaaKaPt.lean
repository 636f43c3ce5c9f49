/- The walk of the reference's Put (layer 16). -/
import Derived.Test.YtgmemibhddnjjaaKaGp
namespace Go.Proofs.Ytgmemibhddnjjaa
open Go.RowKit
set_option maxRecDepth 100000
def cutA (ad : Option Addr) (c : Nat) : Option Addr := if c = 1 then ad else ad.map (·.add 1)
theorem RdV.cut {t : TypeId} {w : World} {ad : Option Addr} {n c : Nat} {cs : List Value} (h : RdV t w (.slice ad n c) cs) : RdV t w (.slice (cutA ad c) (n - 1) (c - 1)) (cs.drop 1) := by
  obtain ⟨ad', cap, h1, h2, h3⟩ := h
  simp only [Value.slice.injEq] at h1
  obtain ⟨rfl, rfl, rfl⟩ := h1
  refine ⟨_, _, by rw [List.length_drop], by rw [List.length_drop]; omega, fun hp => ?_⟩
  rw [List.length_drop] at hp
  obtain ⟨b, off, ar, rfl, h5, h6⟩ := h3 (by omega)
  refine ⟨b, off + 1, ar, ?_, h5, fun j u hj => ?_⟩
  · unfold cutA
    rw [if_neg (by omega)]
    rfl
  · rw [List.getElem?_drop] at hj
    rw [Nat.add_assoc]
    exact h6 (1 + j) u hj
theorem cutK_run (f : Operand → Value) (o : Oper) (x : Operand) (ad : Option Addr) (n c : Nat) (h1 : 1 ≤ n) (_ : n ≤ c) (ho : o.op = .slice 24 x (some (.const (.int .i64 1))) none none) (hx : f x = .slice ad n c) (hf : f (.const (.int .i64 1)) = .int .i64 1) (w : World) :
    (execOp f o).run Try.prog w = .ok (.value (.slice (cutA ad c) (n - 1) (c - 1))) w := by
  have hs : (sizeOf 9).run Try.prog w = .ok 1 w := by kernel_rfl
  have k1 : (1 : Int) ≤ (n : Int) := by omega
  unfold execOp
  rw [ho]
  simp [go_sem, hx, hf, hs, k1, sliced, cutA]
theorem wpSeq_cutK {ops : Array Oper} {Q : Exit → Act → World → Prop} {rest : List Oper} {o : Oper} {a : Act} {w : World} (x : Operand) (ad : Option Addr) (n c : Nat) (h1 : 1 ≤ n) (h2 : n ≤ c) (ho : o.op = .slice 24 x (some (.const (.int .i64 1))) none none) (hx : a.eval x = .slice ad n c) (hw : Region.wanted o (yielded ops a.tmps) = true)
    (h : wpList Try.prog ops Q rest (a.put o.dst (.slice (cutA ad c) (n - 1) (c - 1))) w) : wpList Try.prog ops Q (o :: rest) a w :=
  wpSeq_val _ _ hw (cutK_run _ o x ad n c h1 h2 ho hx rfl w) h
theorem cutI_run (f : Operand → Value) (o : Oper) (x : Operand) (ad : Option Addr) (n c : Nat) (h1 : 1 ≤ n) (_ : n ≤ c) (ho : o.op = .slice 25 x (some (.const (.int .i64 1))) none none) (hx : f x = .slice ad n c) (hf : f (.const (.int .i64 1)) = .int .i64 1) (w : World) :
    (execOp f o).run Try.prog w = .ok (.value (.slice (cutA ad c) (n - 1) (c - 1))) w := by
  have hs : (sizeOf 3).run Try.prog w = .ok 1 w := by kernel_rfl
  have k1 : (1 : Int) ≤ (n : Int) := by omega
  unfold execOp
  rw [ho]
  simp [go_sem, hx, hf, hs, k1, sliced, cutA]
theorem wpSeq_cutI {ops : Array Oper} {Q : Exit → Act → World → Prop} {rest : List Oper} {o : Oper} {a : Act} {w : World} (x : Operand) (ad : Option Addr) (n c : Nat) (h1 : 1 ≤ n) (h2 : n ≤ c) (ho : o.op = .slice 25 x (some (.const (.int .i64 1))) none none) (hx : a.eval x = .slice ad n c) (hw : Region.wanted o (yielded ops a.tmps) = true)
    (h : wpList Try.prog ops Q rest (a.put o.dst (.slice (cutA ad c) (n - 1) (c - 1))) w) : wpList Try.prog ops Q (o :: rest) a w :=
  wpSeq_val _ _ hw (cutI_run _ o x ad n c h1 h2 ho hx rfl w) h
set_option maxRecDepth 100000 in
set_option maxHeartbeats 2000000 in
theorem kPut_any {w : World} {C : KaT} {vk vv : Value} (hr : RfV w C vk vv) (hok : okC C) (hm : C.most < 1000000) (s : ByteArray) (v : Int) :
    Calls Try.prog 21 #[.agg (rcC C vk vv).toArray, .string s, .int .i64 v] w fun r w' => ∃ vk' vv', r = .returned (.agg (rcC (putC C s v) vk' vv').toArray) ∧ RfV w' (putC C s v) vk' vv' ∧ Below w.heap.size w w' := by
  have HK : Hid (RfV w C vk vv) := hr
  have HND : Hid ((C.l.map (·.1)).Nodup) := hok.nd
  have HNL : Hid (C.l.length < 1000000) := Nat.lt_of_le_of_lt hok.le hm
  unfold rcC
  obtain ⟨lw, HLW⟩ : ∃ n, Hid (n = (woK C.l s).length) := ⟨_, rfl⟩
  obtain ⟨v0, HV0⟩ : ∃ b, Hid (b = (fdK C.l s).getD 0) := ⟨_, rfl⟩
  obtain ⟨hb, HHB⟩ : ∃ b, Hid (b = (fdK C.l s).isSome) := ⟨_, rfl⟩
  have HE3 : Hid ((kyV (woK C.l s ++ [(s, v)])).length = lw + 1 ∧ (vlV (woK C.l s ++ [(s, v)])).length = lw + 1) := by
    constructor
    · unfold kyV; rw [List.length_map, List.length_append, ← HLW.out]; rfl
    · unfold vlV; rw [List.length_map, List.length_append, ← HLW.out]; rfl
  show Calls Try.prog 21 _ w fun r w' => ∃ vk' vv', r = .returned (.agg [Value.int .i64 (C.most : Int), vk', vv', .int .i64 (C.hits : Int), .int .i64 (C.miss : Int)].toArray) ∧ RfV w' (putC C s v) vk' vv' ∧ Below w.heap.size w w'
  clear hr hok hm
  by_cases hq : C.most < lw + 1
  · have q1 : (C.most : Int) < (lw : Int) + 1 := by omega
    have HP : Hid ((putC C s v).l = (woK C.l s ++ [(s, v)]).drop 1) := by
      show (woK C.l s ++ [(s, v)]).drop _ = _
      rw [← HLW.out, if_pos hq]
    clear hq
    go_enter Try.func21, Try.ntmps21
    have tk0 : Hid True := trivial
    have tk1 : Hid True := trivial
    have tk2 : Hid True := trivial
    have tk3 : Hid True := trivial
    have tk4 : Hid True := trivial
    have tk5 : Hid True := trivial
    have tk6 : Hid True := trivial
    have tk7 : Hid True := trivial
    have tk8 : Hid True := trivial
    have tk9 : Hid True := trivial
    have tk10 : Hid True := trivial
    have tk11 : Hid True := trivial
    have tk12 : Hid True := trivial
    have tk13 : Hid True := trivial
    have tk14 : Hid True := trivial
    go_wp2_with (first
      | (clear tk0; with_reducible refine wpSeq_boxW 27 (.tmp 0) [.int .i64 (C.most : Int), vk, vv, .int .i64 (C.hits : Int), .int .i64 (C.miss : Int)] ?_ ?_ ?_ ?_
         · rfl
         · rfl
         · rfl
         intro gc y0 nn
         have HC : Hid (Blk y0 gc [.int .i64 (C.most : Int), vk, vv, .int .i64 (C.hits : Int), .int .i64 (C.miss : Int)] 27) := nn.blk
         have HBL : Hid (Below w.heap.size w y0) := nn.below
         clear nn)
      | (clear tk1; with_reducible refine wpSeq_allocRc ?_ ?_ ?_
         · rfl
         · rfl
         intro gr y1 nn
         have HR : Hid (Blk y1 gr zRc 27) := nn.blk
         have HGR : Hid (w.heap.size ≤ gr) := Nat.le_trans HBL.out.size nn.ge
         replace HC : Hid (Blk y1 gc [.int .i64 (C.most : Int), vk, vv, .int .i64 (C.hits : Int), .int .i64 (C.miss : Int)] 27) := HC.out.below nn.below HC.out.lt
         replace HBL : Hid (Below w.heap.size w y1) := HBL.out.trans (nn.below.mono HBL.out.size)
         clear nn)
      | (clear tk2; with_reducible refine load_rc (.tmp 3) gc _ _ _ _ _ HC.out ?_ ?_ ?_ ?_
         · rfl
         · rfl
         · rfl)
      | (clear tk3; go_at_call 28; refine (kWithout_any (C.most : Int) (C.hits : Int) (C.miss : Int) (HK.out.k.below HBL.out) (HK.out.v.below HBL.out) HND.out HNL.out s).mono ?_; rintro e0 y2 ⟨vk2, vv2, rfl, rf2, bl2⟩
         rw [← HV0.out, ← HHB.out]
         obtain ⟨a1, c1, hv1⟩ := rf2.k.form
         obtain ⟨a2, c2, hv2⟩ := rf2.v.form
         obtain ⟨n1, HN1⟩ : ∃ z, Hid (z = (kyV (woK C.l s)).length) := ⟨_, rfl⟩
         obtain ⟨n2, HN2⟩ : ∃ z, Hid (z = (vlV (woK C.l s)).length) := ⟨_, rfl⟩
         rw [← HN1.out] at hv1
         rw [← HN2.out] at hv2
         subst hv1 hv2
         have HRF : Hid (RfO y2 y1.heap.size (woK C.l s) (.slice a1 n1 c1) (.slice a2 n2 c2)) := rf2
         have HS1 : Hid (w.heap.size ≤ y1.heap.size ∧ y1.heap.size ≤ y2.heap.size) := ⟨HBL.out.size, bl2.size⟩
         replace HC : Hid (Blk y2 gc [.int .i64 (C.most : Int), vk, vv, .int .i64 (C.hits : Int), .int .i64 (C.miss : Int)] 27) := HC.out.below bl2 HC.out.lt
         replace HR : Hid (Blk y2 gr zRc 27) := HR.out.below bl2 HR.out.lt
         replace HBL : Hid (Below w.heap.size w y2) := HBL.out.trans (bl2.mono HBL.out.size)
         clear rf2 bl2)
      | (clear tk4; with_reducible refine wpSeq_allocRc ?_ ?_ ?_
         · rfl
         · rfl
         intro go y3 nn
         have HO : Hid (Blk y3 go zRc 27) := nn.blk
         have HGO : Hid (y2.heap.size ≤ go) := nn.ge
         have HNC : Hid (gc ≠ go) := fun e => absurd HC.out.lt (by have := nn.ge; omega)
         have HNR : Hid (gr ≠ go) := fun e => absurd HR.out.lt (by have := nn.ge; omega)
         replace HC : Hid (Blk y3 gc [.int .i64 (C.most : Int), vk, vv, .int .i64 (C.hits : Int), .int .i64 (C.miss : Int)] 27) := HC.out.below nn.below HC.out.lt
         replace HR : Hid (Blk y3 gr zRc 27) := HR.out.below nn.below HR.out.lt
         replace HBL : Hid (Below w.heap.size w y3) := HBL.out.trans (nn.below.mono HBL.out.size)
         replace HRF : Hid (RfO y3 y1.heap.size (woK C.l s) (.slice a1 n1 c1) (.slice a2 n2 c2)) := ⟨HRF.out.k.below nn.below, HRF.out.v.below nn.below⟩
         replace HS1 : Hid (w.heap.size ≤ y1.heap.size ∧ y1.heap.size ≤ y3.heap.size ∧ y1.heap.size ≤ go) := ⟨HS1.out.1, Nat.le_trans HS1.out.2 nn.below.size, Nat.le_trans HS1.out.2 nn.ge⟩
         clear nn)
      | (clear tk5; with_reducible refine wpSeq_storeRow 27 (.tmp 7) (.tmp 14) go zRc [.int .i64 (C.most : Int), .slice a1 n1 c1, .slice a2 n2 c2, .int .i64 (C.hits : Int), .int .i64 (C.miss : Int)] HO.out rfl (info_rc _ _ _ _ _) ?_ ?_ ?_ ?_ ?_ ?_
         · exact one_rc _ _ _ ⟨rfl, rfl, rfl⟩ _ _ _ _ _ _
         · rfl
         · rfl
         · rfl
         · rfl
         intro y4 sr
         replace HRF : Hid (RfO y4 y1.heap.size (woK C.l s) (.slice a1 n1 c1) (.slice a2 n2 c2)) := ⟨HRF.out.k.only HO.out (by decide) sr.only, HRF.out.v.only HO.out (by decide) sr.only⟩
         replace HC : Hid (Blk y4 gc [.int .i64 (C.most : Int), vk, vv, .int .i64 (C.hits : Int), .int .i64 (C.miss : Int)] 27) := HC.out.only sr.only HNC.out
         replace HR : Hid (Blk y4 gr zRc 27) := HR.out.only sr.only HNR.out
         replace HBL : Hid (Below w.heap.size w y4) := HBL.out.trans (sr.only.below (Nat.le_trans HS1.out.1 HS1.out.2.2) HBL.out.size)
         replace HO : Hid (Blk y4 go [.int .i64 (C.most : Int), .slice a1 n1 c1, .slice a2 n2 c2, .int .i64 (C.hits : Int), .int .i64 (C.miss : Int)] 27) := sr.blk
         replace HS1 : Hid (w.heap.size ≤ y1.heap.size ∧ y1.heap.size ≤ y4.heap.size ∧ y1.heap.size ≤ go) := ⟨HS1.out.1, Nat.le_trans HS1.out.2.1 sr.only.size, HS1.out.2.2⟩
         have c0 : y4.cell? ⟨gc, 0, none⟩ = some (.int .i64 (C.most : Int)) := HC.out.cell 0
         have c4 : y4.cell? ⟨go, 4, none⟩ = some (.int .i64 (C.miss : Int)) := HO.out.cell 4
         have c3 : y4.cell? ⟨go, 3, none⟩ = some (.int .i64 (C.hits : Int)) := HO.out.cell 3
         clear sr)
      | (clear tk6; with_reducible refine load_rc (.tmp 7) go _ _ _ _ _ HO.out ?_ ?_ ?_ ?_
         · rfl
         · rfl
         · rfl)
      | (clear tk7; go_at_call 29; refine (kBehind_any (.int .i64 (C.most : Int)) (.int .i64 (C.hits : Int)) (.int .i64 (C.miss : Int)) rfl rfl rfl HRF.out HS1.out.2.1 (Nat.lt_of_le_of_lt (wo_len _ _) HNL.out) s v).mono ?_; rintro e6 y6 ⟨vk6, vv6, rfl, rf6, bl6, kp6⟩
         obtain ⟨a3, c3, hv3⟩ := rf6.k.form
         obtain ⟨a4, c4, hv4⟩ := rf6.v.form
         rw [HE3.out.1] at hv3
         rw [HE3.out.2] at hv4
         subst hv3 hv4
         replace HRF : Hid (RfO y6 y1.heap.size (woK C.l s ++ [(s, v)]) (.slice a3 (lw + 1) c3) (.slice a4 (lw + 1) c4)) := rf6
         replace HC : Hid (Blk y6 gc [.int .i64 (C.most : Int), vk, vv, .int .i64 (C.hits : Int), .int .i64 (C.miss : Int)] 27) := kp6 gc _ HC.out
         replace HR : Hid (Blk y6 gr zRc 27) := kp6 gr _ HR.out
         replace HO : Hid (Blk y6 go [.int .i64 (C.most : Int), .slice a1 n1 c1, .slice a2 n2 c2, .int .i64 (C.hits : Int), .int .i64 (C.miss : Int)] 27) := kp6 go _ HO.out
         replace HBL : Hid (Below w.heap.size w y6) := HBL.out.trans (bl6.mono HS1.out.1)
         have HN34 : Hid (lw + 1 ≤ c3 ∧ lw + 1 ≤ c4) := by
           obtain ⟨_, cp, e, h7, _⟩ := rf6.k.rd
           obtain ⟨_, cp2, e2, h8, _⟩ := rf6.v.rd
           simp only [Value.slice.injEq] at e e2
           rw [HE3.out.1] at h7
           rw [HE3.out.2] at h8
           rw [e.2.2, e2.2.2]
           exact ⟨h7, h8⟩
         clear rf6 bl6 kp6)
      | (clear tk8; with_reducible refine wpSeq_storeRow 27 (.tmp 7) (.tmp 20) go [.int .i64 (C.most : Int), .slice a1 n1 c1, .slice a2 n2 c2, .int .i64 (C.hits : Int), .int .i64 (C.miss : Int)] [.int .i64 (C.most : Int), .slice a3 (lw + 1) c3, .slice a4 (lw + 1) c4, .int .i64 (C.hits : Int), .int .i64 (C.miss : Int)] HO.out rfl (info_rc _ _ _ _ _) ?_ ?_ ?_ ?_ ?_ ?_
         · exact one_rc _ _ _ ⟨rfl, rfl, rfl⟩ _ _ _ _ _ _
         · rfl
         · rfl
         · rfl
         · rfl
         intro y7 sr
         replace HRF : Hid (RfO y7 y1.heap.size (woK C.l s ++ [(s, v)]) (.slice a3 (lw + 1) c3) (.slice a4 (lw + 1) c4)) := ⟨HRF.out.k.only HO.out (by decide) sr.only, HRF.out.v.only HO.out (by decide) sr.only⟩
         replace HC : Hid (Blk y7 gc [.int .i64 (C.most : Int), vk, vv, .int .i64 (C.hits : Int), .int .i64 (C.miss : Int)] 27) := HC.out.only sr.only HNC.out
         replace HR : Hid (Blk y7 gr zRc 27) := HR.out.only sr.only HNR.out
         replace HBL : Hid (Below w.heap.size w y7) := HBL.out.trans (sr.only.below (Nat.le_trans HS1.out.1 HS1.out.2.2) HBL.out.size)
         replace HO : Hid (Blk y7 go [.int .i64 (C.most : Int), .slice a3 (lw + 1) c3, .slice a4 (lw + 1) c4, .int .i64 (C.hits : Int), .int .i64 (C.miss : Int)] 27) := sr.blk
         have k1 : y7.cell? ⟨go, 1, none⟩ = some (.slice a3 (lw + 1) c3) := HO.out.cell 1
         have k0 : y7.cell? ⟨gc, 0, none⟩ = some (.int .i64 (C.most : Int)) := HC.out.cell 0
         clear sr)
      | (clear tk9; with_reducible refine wpSeq_cutK (.tmp 28) a3 (lw + 1) c3 (Nat.succ_le_succ (Nat.zero_le _)) HN34.out.1 ?_ ?_ ?_ ?_
         · rfl
         · rfl
         · rfl)
      | (clear tk10; with_reducible refine wpSeq_cellKs (.tmp 30) (.tmp 29) go 1 [.int .i64 (C.most : Int), .slice a3 (lw + 1) c3, .slice a4 (lw + 1) c4, .int .i64 (C.hits : Int), .int .i64 (C.miss : Int)] (cutA a3 c3) (lw + 1 - 1) (c3 - 1) 27 (by simp) HO.out ?_ ?_ ?_ ?_ ?_
         · rfl
         · rfl
         · rfl
         · rfl
         intro y8 b5 o5
         have HRK : Hid (RdV 9 y8 (.slice (cutA a3 c3) (lw + 1 - 1) (c3 - 1)) (kyV (woK C.l s ++ [(s, v)]) |>.drop 1)) := HRF.out.k.rd.cut.only HO.out (by decide) o5
         have HRV : Hid (RdV 3 y8 (.slice a4 (lw + 1) c4) (vlV (woK C.l s ++ [(s, v)]))) := HRF.out.v.rd.only HO.out (by decide) o5
         have k2 : y8.cell? ⟨go, 2, none⟩ = some (.slice a4 (lw + 1) c4) := b5.cell 2
         replace HR : Hid (Blk y8 gr zRc 27) := HR.out.only o5 HNR.out
         replace HBL : Hid (Below w.heap.size w y8) := HBL.out.trans (o5.below (Nat.le_trans HS1.out.1 HS1.out.2.2) HBL.out.size)
         replace HO : Hid (Blk y8 go [.int .i64 (C.most : Int), .slice (cutA a3 c3) (lw + 1 - 1) (c3 - 1), .slice a4 (lw + 1) c4, .int .i64 (C.hits : Int), .int .i64 (C.miss : Int)] 27) := b5
         clear b5 o5)
      | (clear tk11; with_reducible refine wpSeq_cutI (.tmp 32) a4 (lw + 1) c4 (Nat.succ_le_succ (Nat.zero_le _)) HN34.out.2 ?_ ?_ ?_ ?_
         · rfl
         · rfl
         · rfl)
      | (clear tk12; with_reducible refine wpSeq_cellIs (.tmp 34) (.tmp 33) go 2 [.int .i64 (C.most : Int), .slice (cutA a3 c3) (lw + 1 - 1) (c3 - 1), .slice a4 (lw + 1) c4, .int .i64 (C.hits : Int), .int .i64 (C.miss : Int)] (cutA a4 c4) (lw + 1 - 1) (c4 - 1) 27 (by simp) HO.out ?_ ?_ ?_ ?_ ?_
         · rfl
         · rfl
         · rfl
         · rfl
         intro y9 b5 o5
         replace HRK : Hid (RdV 9 y9 (.slice (cutA a3 c3) (lw + 1 - 1) (c3 - 1)) (kyV (woK C.l s ++ [(s, v)]) |>.drop 1)) := HRK.out.only HO.out (by decide) o5
         replace HRV : Hid (RdV 3 y9 (.slice (cutA a4 c4) (lw + 1 - 1) (c4 - 1)) (vlV (woK C.l s ++ [(s, v)]) |>.drop 1)) := HRV.out.cut.only HO.out (by decide) o5
         replace HR : Hid (Blk y9 gr zRc 27) := HR.out.only o5 HNR.out
         replace HBL : Hid (Below w.heap.size w y9) := HBL.out.trans (o5.below (Nat.le_trans HS1.out.1 HS1.out.2.2) HBL.out.size)
         replace HO : Hid (Blk y9 go [.int .i64 (C.most : Int), .slice (cutA a3 c3) (lw + 1 - 1) (c3 - 1), .slice (cutA a4 c4) (lw + 1 - 1) (c4 - 1), .int .i64 (C.hits : Int), .int .i64 (C.miss : Int)] 27) := b5
         clear b5 o5)
      | (clear tk13; with_reducible refine load_rc (.tmp 7) go _ _ _ _ _ HO.out ?_ ?_ ?_ ?_
         · rfl
         · rfl
         · rfl)
      | (clear tk14; with_reducible refine wpSeq_storeRow 27 (.tmp 6) (.tmp 35) gr zRc [.int .i64 (C.most : Int), .slice (cutA a3 c3) (lw + 1 - 1) (c3 - 1), .slice (cutA a4 c4) (lw + 1 - 1) (c4 - 1), .int .i64 (C.hits : Int), .int .i64 (C.miss : Int)] HR.out rfl (info_rc _ _ _ _ _) ?_ ?_ ?_ ?_ ?_ ?_
         · exact one_rc _ _ _ ⟨rfl, rfl, rfl⟩ _ _ _ _ _ _
         · rfl
         · rfl
         · rfl
         · rfl
         intro y10 sr
         replace HRK : Hid (RdV 9 y10 (.slice (cutA a3 c3) (lw + 1 - 1) (c3 - 1)) (kyV (woK C.l s ++ [(s, v)]) |>.drop 1)) := HRK.out.only HR.out (by decide) sr.only
         replace HRV : Hid (RdV 3 y10 (.slice (cutA a4 c4) (lw + 1 - 1) (c4 - 1)) (vlV (woK C.l s ++ [(s, v)]) |>.drop 1)) := HRV.out.only HR.out (by decide) sr.only
         replace HBL : Hid (Below w.heap.size w y10) := HBL.out.trans (sr.only.below (HGR.out) HBL.out.size)
         have HF : Hid (Blk y10 gr [.int .i64 (C.most : Int), .slice (cutA a3 c3) (lw + 1 - 1) (c3 - 1), .slice (cutA a4 c4) (lw + 1 - 1) (c4 - 1), .int .i64 (C.hits : Int), .int .i64 (C.miss : Int)] 27) := sr.blk
         clear sr))
    refine bodyPost_ret (res_rc rfl _ _ gr _ _ _ _ _ rfl HF.out) rfl ?_
    refine ⟨_, _, rfl, ⟨?_, ?_⟩, HBL.out⟩
    · have := HRK.out; rw [HP.out]; unfold kyV at this ⊢; rw [List.map_drop]; exact this
    · have := HRV.out; rw [HP.out]; unfold vlV at this ⊢; rw [List.map_drop]; exact this
  · have q1 : ¬ ((C.most : Int) < (lw : Int) + 1) := by omega
    have HP : Hid ((putC C s v).l = woK C.l s ++ [(s, v)]) := by
      show (woK C.l s ++ [(s, v)]).drop _ = _
      rw [← HLW.out, if_neg hq]
      rfl
    clear hq
    go_enter Try.func21, Try.ntmps21
    have tk0 : Hid True := trivial
    have tk1 : Hid True := trivial
    have tk2 : Hid True := trivial
    have tk3 : Hid True := trivial
    have tk4 : Hid True := trivial
    have tk5 : Hid True := trivial
    have tk6 : Hid True := trivial
    have tk7 : Hid True := trivial
    have tk8 : Hid True := trivial
    have tk9 : Hid True := trivial
    have tk10 : Hid True := trivial
    have tk11 : Hid True := trivial
    have tk12 : Hid True := trivial
    have tk13 : Hid True := trivial
    have tk14 : Hid True := trivial
    go_wp2_with (first
      | (clear tk0; with_reducible refine wpSeq_boxW 27 (.tmp 0) [.int .i64 (C.most : Int), vk, vv, .int .i64 (C.hits : Int), .int .i64 (C.miss : Int)] ?_ ?_ ?_ ?_
         · rfl
         · rfl
         · rfl
         intro gc y0 nn
         have HC : Hid (Blk y0 gc [.int .i64 (C.most : Int), vk, vv, .int .i64 (C.hits : Int), .int .i64 (C.miss : Int)] 27) := nn.blk
         have HBL : Hid (Below w.heap.size w y0) := nn.below
         clear nn)
      | (clear tk1; with_reducible refine wpSeq_allocRc ?_ ?_ ?_
         · rfl
         · rfl
         intro gr y1 nn
         have HR : Hid (Blk y1 gr zRc 27) := nn.blk
         have HGR : Hid (w.heap.size ≤ gr) := Nat.le_trans HBL.out.size nn.ge
         replace HC : Hid (Blk y1 gc [.int .i64 (C.most : Int), vk, vv, .int .i64 (C.hits : Int), .int .i64 (C.miss : Int)] 27) := HC.out.below nn.below HC.out.lt
         replace HBL : Hid (Below w.heap.size w y1) := HBL.out.trans (nn.below.mono HBL.out.size)
         clear nn)
      | (clear tk2; with_reducible refine load_rc (.tmp 3) gc _ _ _ _ _ HC.out ?_ ?_ ?_ ?_
         · rfl
         · rfl
         · rfl)
      | (clear tk3; go_at_call 28; refine (kWithout_any (C.most : Int) (C.hits : Int) (C.miss : Int) (HK.out.k.below HBL.out) (HK.out.v.below HBL.out) HND.out HNL.out s).mono ?_; rintro e0 y2 ⟨vk2, vv2, rfl, rf2, bl2⟩
         rw [← HV0.out, ← HHB.out]
         obtain ⟨a1, c1, hv1⟩ := rf2.k.form
         obtain ⟨a2, c2, hv2⟩ := rf2.v.form
         obtain ⟨n1, HN1⟩ : ∃ z, Hid (z = (kyV (woK C.l s)).length) := ⟨_, rfl⟩
         obtain ⟨n2, HN2⟩ : ∃ z, Hid (z = (vlV (woK C.l s)).length) := ⟨_, rfl⟩
         rw [← HN1.out] at hv1
         rw [← HN2.out] at hv2
         subst hv1 hv2
         have HRF : Hid (RfO y2 y1.heap.size (woK C.l s) (.slice a1 n1 c1) (.slice a2 n2 c2)) := rf2
         have HS1 : Hid (w.heap.size ≤ y1.heap.size ∧ y1.heap.size ≤ y2.heap.size) := ⟨HBL.out.size, bl2.size⟩
         replace HC : Hid (Blk y2 gc [.int .i64 (C.most : Int), vk, vv, .int .i64 (C.hits : Int), .int .i64 (C.miss : Int)] 27) := HC.out.below bl2 HC.out.lt
         replace HR : Hid (Blk y2 gr zRc 27) := HR.out.below bl2 HR.out.lt
         replace HBL : Hid (Below w.heap.size w y2) := HBL.out.trans (bl2.mono HBL.out.size)
         clear rf2 bl2)
      | (clear tk4; with_reducible refine wpSeq_allocRc ?_ ?_ ?_
         · rfl
         · rfl
         intro go y3 nn
         have HO : Hid (Blk y3 go zRc 27) := nn.blk
         have HGO : Hid (y2.heap.size ≤ go) := nn.ge
         have HNC : Hid (gc ≠ go) := fun e => absurd HC.out.lt (by have := nn.ge; omega)
         have HNR : Hid (gr ≠ go) := fun e => absurd HR.out.lt (by have := nn.ge; omega)
         replace HC : Hid (Blk y3 gc [.int .i64 (C.most : Int), vk, vv, .int .i64 (C.hits : Int), .int .i64 (C.miss : Int)] 27) := HC.out.below nn.below HC.out.lt
         replace HR : Hid (Blk y3 gr zRc 27) := HR.out.below nn.below HR.out.lt
         replace HBL : Hid (Below w.heap.size w y3) := HBL.out.trans (nn.below.mono HBL.out.size)
         replace HRF : Hid (RfO y3 y1.heap.size (woK C.l s) (.slice a1 n1 c1) (.slice a2 n2 c2)) := ⟨HRF.out.k.below nn.below, HRF.out.v.below nn.below⟩
         replace HS1 : Hid (w.heap.size ≤ y1.heap.size ∧ y1.heap.size ≤ y3.heap.size ∧ y1.heap.size ≤ go) := ⟨HS1.out.1, Nat.le_trans HS1.out.2 nn.below.size, Nat.le_trans HS1.out.2 nn.ge⟩
         clear nn)
      | (clear tk5; with_reducible refine wpSeq_storeRow 27 (.tmp 7) (.tmp 14) go zRc [.int .i64 (C.most : Int), .slice a1 n1 c1, .slice a2 n2 c2, .int .i64 (C.hits : Int), .int .i64 (C.miss : Int)] HO.out rfl (info_rc _ _ _ _ _) ?_ ?_ ?_ ?_ ?_ ?_
         · exact one_rc _ _ _ ⟨rfl, rfl, rfl⟩ _ _ _ _ _ _
         · rfl
         · rfl
         · rfl
         · rfl
         intro y4 sr
         replace HRF : Hid (RfO y4 y1.heap.size (woK C.l s) (.slice a1 n1 c1) (.slice a2 n2 c2)) := ⟨HRF.out.k.only HO.out (by decide) sr.only, HRF.out.v.only HO.out (by decide) sr.only⟩
         replace HC : Hid (Blk y4 gc [.int .i64 (C.most : Int), vk, vv, .int .i64 (C.hits : Int), .int .i64 (C.miss : Int)] 27) := HC.out.only sr.only HNC.out
         replace HR : Hid (Blk y4 gr zRc 27) := HR.out.only sr.only HNR.out
         replace HBL : Hid (Below w.heap.size w y4) := HBL.out.trans (sr.only.below (Nat.le_trans HS1.out.1 HS1.out.2.2) HBL.out.size)
         replace HO : Hid (Blk y4 go [.int .i64 (C.most : Int), .slice a1 n1 c1, .slice a2 n2 c2, .int .i64 (C.hits : Int), .int .i64 (C.miss : Int)] 27) := sr.blk
         replace HS1 : Hid (w.heap.size ≤ y1.heap.size ∧ y1.heap.size ≤ y4.heap.size ∧ y1.heap.size ≤ go) := ⟨HS1.out.1, Nat.le_trans HS1.out.2.1 sr.only.size, HS1.out.2.2⟩
         have c0 : y4.cell? ⟨gc, 0, none⟩ = some (.int .i64 (C.most : Int)) := HC.out.cell 0
         have c4 : y4.cell? ⟨go, 4, none⟩ = some (.int .i64 (C.miss : Int)) := HO.out.cell 4
         have c3 : y4.cell? ⟨go, 3, none⟩ = some (.int .i64 (C.hits : Int)) := HO.out.cell 3
         clear sr)
      | (clear tk6; with_reducible refine load_rc (.tmp 7) go _ _ _ _ _ HO.out ?_ ?_ ?_ ?_
         · rfl
         · rfl
         · rfl)
      | (clear tk7; go_at_call 29; refine (kBehind_any (.int .i64 (C.most : Int)) (.int .i64 (C.hits : Int)) (.int .i64 (C.miss : Int)) rfl rfl rfl HRF.out HS1.out.2.1 (Nat.lt_of_le_of_lt (wo_len _ _) HNL.out) s v).mono ?_; rintro e6 y6 ⟨vk6, vv6, rfl, rf6, bl6, kp6⟩
         obtain ⟨a3, c3, hv3⟩ := rf6.k.form
         obtain ⟨a4, c4, hv4⟩ := rf6.v.form
         rw [HE3.out.1] at hv3
         rw [HE3.out.2] at hv4
         subst hv3 hv4
         replace HRF : Hid (RfO y6 y1.heap.size (woK C.l s ++ [(s, v)]) (.slice a3 (lw + 1) c3) (.slice a4 (lw + 1) c4)) := rf6
         replace HC : Hid (Blk y6 gc [.int .i64 (C.most : Int), vk, vv, .int .i64 (C.hits : Int), .int .i64 (C.miss : Int)] 27) := kp6 gc _ HC.out
         replace HR : Hid (Blk y6 gr zRc 27) := kp6 gr _ HR.out
         replace HO : Hid (Blk y6 go [.int .i64 (C.most : Int), .slice a1 n1 c1, .slice a2 n2 c2, .int .i64 (C.hits : Int), .int .i64 (C.miss : Int)] 27) := kp6 go _ HO.out
         replace HBL : Hid (Below w.heap.size w y6) := HBL.out.trans (bl6.mono HS1.out.1)
         have HN34 : Hid (lw + 1 ≤ c3 ∧ lw + 1 ≤ c4) := by
           obtain ⟨_, cp, e, h7, _⟩ := rf6.k.rd
           obtain ⟨_, cp2, e2, h8, _⟩ := rf6.v.rd
           simp only [Value.slice.injEq] at e e2
           rw [HE3.out.1] at h7
           rw [HE3.out.2] at h8
           rw [e.2.2, e2.2.2]
           exact ⟨h7, h8⟩
         clear rf6 bl6 kp6)
      | (clear tk8; with_reducible refine wpSeq_storeRow 27 (.tmp 7) (.tmp 20) go [.int .i64 (C.most : Int), .slice a1 n1 c1, .slice a2 n2 c2, .int .i64 (C.hits : Int), .int .i64 (C.miss : Int)] [.int .i64 (C.most : Int), .slice a3 (lw + 1) c3, .slice a4 (lw + 1) c4, .int .i64 (C.hits : Int), .int .i64 (C.miss : Int)] HO.out rfl (info_rc _ _ _ _ _) ?_ ?_ ?_ ?_ ?_ ?_
         · exact one_rc _ _ _ ⟨rfl, rfl, rfl⟩ _ _ _ _ _ _
         · rfl
         · rfl
         · rfl
         · rfl
         intro y7 sr
         replace HRF : Hid (RfO y7 y1.heap.size (woK C.l s ++ [(s, v)]) (.slice a3 (lw + 1) c3) (.slice a4 (lw + 1) c4)) := ⟨HRF.out.k.only HO.out (by decide) sr.only, HRF.out.v.only HO.out (by decide) sr.only⟩
         replace HC : Hid (Blk y7 gc [.int .i64 (C.most : Int), vk, vv, .int .i64 (C.hits : Int), .int .i64 (C.miss : Int)] 27) := HC.out.only sr.only HNC.out
         replace HR : Hid (Blk y7 gr zRc 27) := HR.out.only sr.only HNR.out
         replace HBL : Hid (Below w.heap.size w y7) := HBL.out.trans (sr.only.below (Nat.le_trans HS1.out.1 HS1.out.2.2) HBL.out.size)
         replace HO : Hid (Blk y7 go [.int .i64 (C.most : Int), .slice a3 (lw + 1) c3, .slice a4 (lw + 1) c4, .int .i64 (C.hits : Int), .int .i64 (C.miss : Int)] 27) := sr.blk
         have k1 : y7.cell? ⟨go, 1, none⟩ = some (.slice a3 (lw + 1) c3) := HO.out.cell 1
         have k0 : y7.cell? ⟨gc, 0, none⟩ = some (.int .i64 (C.most : Int)) := HC.out.cell 0
         clear sr)
      | (clear tk13; with_reducible refine load_rc (.tmp 7) go _ _ _ _ _ HO.out ?_ ?_ ?_ ?_
         · rfl
         · rfl
         · rfl)
      | (clear tk14; with_reducible refine wpSeq_storeRow 27 (.tmp 6) (.tmp 35) gr zRc [.int .i64 (C.most : Int), .slice a3 (lw + 1) c3, .slice a4 (lw + 1) c4, .int .i64 (C.hits : Int), .int .i64 (C.miss : Int)] HR.out rfl (info_rc _ _ _ _ _) ?_ ?_ ?_ ?_ ?_ ?_
         · exact one_rc _ _ _ ⟨rfl, rfl, rfl⟩ _ _ _ _ _ _
         · rfl
         · rfl
         · rfl
         · rfl
         intro y10 sr
         replace HRF : Hid (RfO y10 y1.heap.size (woK C.l s ++ [(s, v)]) (.slice a3 (lw + 1) c3) (.slice a4 (lw + 1) c4)) := ⟨HRF.out.k.only HR.out (by decide) sr.only, HRF.out.v.only HR.out (by decide) sr.only⟩
         replace HBL : Hid (Below w.heap.size w y10) := HBL.out.trans (sr.only.below (HGR.out) HBL.out.size)
         have HF : Hid (Blk y10 gr [.int .i64 (C.most : Int), .slice a3 (lw + 1) c3, .slice a4 (lw + 1) c4, .int .i64 (C.hits : Int), .int .i64 (C.miss : Int)] 27) := sr.blk
         clear sr))
    refine bodyPost_ret (res_rc rfl _ _ gr _ _ _ _ _ rfl HF.out) rfl ?_
    refine ⟨_, _, rfl, ⟨?_, ?_⟩, HBL.out⟩
    · rw [HP.out]; exact HRF.out.k.rd
    · rw [HP.out]; exact HRF.out.v.rd
end Go.Proofs.Ytgmemibhddnjjaa

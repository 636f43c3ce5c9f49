/- Acts on a disk: their bytes; few of them (layer 13). -/
import Derived.Test.YtdllnedmhhajnaaDkRf5
namespace Go.Proofs.Ytdllnedmhhajnaa
open Go.RowKit
set_option maxRecDepth 100000
/-- an act -/
structure OpT where
  kind : Int
  i : Int
  n : Int
  c : BitVec 8
  keep : List Int
def opC (o : OpT) (vk : Value) : List Value := [.int .i64 o.kind, .int .i64 o.i, .int .i64 o.n, .int .u8 (o.c.toNat : Int), vk]
def opL (o : OpT) : Nat := if o.n < 0 ∨ 200 < o.n then 64 else o.n.toNat
def opB (o : OpT) : Bs := List.replicate (opL o) o.c
theorem len_opB (o : OpT) : (opB o).length = opL o := List.length_replicate
theorem opL_le (o : OpT) : opL o ≤ 200 := by
  unfold opL
  split
  · omega
  · omega
theorem info_op (a b c d e : Value) : (Try.prog.info? 36).map (·.size) = some [a, b, c, d, e].length := by kernel_rfl
def midB (L k : Nat) (c : BitVec 8) : Bs := List.replicate k c ++ List.replicate (L - k) 0
theorem midB_more {L k : Nat} (c : BitVec 8) (h : k < L) : (midB L k c).set k c = midB L (k + 1) c := by
  unfold midB
  rw [List.set_append_right _ _ (by rw [List.length_replicate]; exact Nat.le_refl _), List.length_replicate, Nat.sub_self]
  obtain ⟨m, hm⟩ : ∃ m, L - k = m + 1 := ⟨L - k - 1, by omega⟩
  rw [hm, show L - (k + 1) = m by omega, List.replicate_succ, List.set_cons_zero, List.replicate_succ']
  simp
theorem len_midB {L k : Nat} (c : BitVec 8) (h : k ≤ L) : (midB L k c).length = L := by
  unfold midB
  rw [List.length_append, List.length_replicate, List.length_replicate]
  omega
set_option maxRecDepth 100000 in
set_option maxHeartbeats 8000000 in
theorem opBytes_any (o : OpT) (ak : Option Addr) (nk ck : Nat) (w : World) :
    Calls Try.prog 25 #[.agg (opC o (.slice ak nk ck)).toArray] w fun r w' => ∃ g, r = .returned (.slice (some ⟨g, 0, none⟩) (opL o) (opL o)) ∧ w.heap.size ≤ g ∧ Blk w' g (cb (opB o)) 5 ∧ Below w.heap.size w w' := by
  obtain ⟨kd, HKD⟩ : ∃ x, Hid (x = o.kind) := ⟨_, rfl⟩
  obtain ⟨oi, HOI⟩ : ∃ x, Hid (x = o.i) := ⟨_, rfl⟩
  obtain ⟨on, HON⟩ : ∃ x, Hid (x = o.n) := ⟨_, rfl⟩
  obtain ⟨oc, HOC⟩ : ∃ x, Hid (x = o.c) := ⟨_, rfl⟩
  obtain ⟨L, HL⟩ : ∃ x, Hid (x = opL o) := ⟨_, rfl⟩
  have HCO : Hid (opC o (.slice ak nk ck) = [.int .i64 kd, .int .i64 oi, .int .i64 on, .int .u8 (oc.toNat : Int), .slice ak nk ck]) := by show _ = _; rw [opC, HKD.out, HOI.out, HON.out, HOC.out]
  have HOB : Hid (opB o = List.replicate L oc) := by show _ = _; rw [opB, HL.out, HOC.out]
  have HL2 : Hid (L ≤ 200) := by rw [HL.out]; exact opL_le o
  have HLE : Hid (L = if on < 0 ∨ 200 < on then 64 else on.toNat) := by show _ = _; rw [HL.out, opL, HON.out]
  rw [HCO.out, HOB.out, ← HL.out]
  have HBW : Hid (Below w.heap.size w w) := Below.refl _ _
  clear HCO HOB HL HKD HOI HON HOC
  by_cases h0 : on < 0
  · have HNV : Hid ((64 : Int) = (L : Int)) := by show _ = _; rw [HLE.out, if_pos (Or.inl h0)]; rfl
    go_enter Try.func25, Try.ntmps25
    have tk0 : Hid True := trivial
    have tk1 : Hid True := trivial
    go_wp2_with (first
      | (clear tk0; with_reducible refine wpSeq_boxW 36 (.tmp 0) [.int .i64 kd, .int .i64 oi, .int .i64 on, .int .u8 (oc.toNat : Int), .slice ak nk ck] ?_ ?_ ?_ ?_
         · rfl
         · rfl
         · rfl
         intro g1 y1 nn
         have GE_g1 : Hid (w.heap.size ≤ g1) := Nat.le_trans HBW.out.size nn.ge
         replace HBW : Hid (Below w.heap.size w y1) := HBW.out.trans (nn.below.mono HBW.out.size)
         have HG1 : Hid (Blk y1 g1 [.int .i64 kd, .int .i64 oi, .int .i64 on, .int .u8 (oc.toNat : Int), .slice ak nk ck] 36) := nn.blk
         have c2 : y1.cell? ⟨g1, 2, none⟩ = some (.int .i64 on) := HG1.out.cell 2
         have c3 : y1.cell? ⟨g1, 3, none⟩ = some (.int .u8 (oc.toNat : Int)) := HG1.out.cell 3
         clear nn)
      | (clear tk1; with_reducible refine wpSeq_make (.tmp 14) (.tmp 14) L L (Nat.le_refl _) ?_ ?_ ?_ ?_ ?_ ?_
         · have := HL2.out; omega
         · rfl
         · first | rfl | (exact congrArg (Value.int .i64) HNV.out)
         · first | rfl | (exact congrArg (Value.int .i64) HNV.out)
         · rfl
         intro g4 y2 z hz hge hzb hzl
         have H4 : Hid (Blk y2 g4 (cb (midB L 0 oc)) 5) := by rw [hz] at hzb; exact hzb
         have N14 : Hid (g1 ≠ g4) := by have h := HG1.out.lt; show _ ≠ _; omega
         have GE4 : Hid (w.heap.size ≤ g4) := Nat.le_trans HBW.out.size hge
         clear c2
         clear c3
         replace HG1 : Hid (Blk y2 g1 [.int .i64 kd, .int .i64 oi, .int .i64 on, .int .u8 (oc.toNat : Int), .slice ak nk ck] 36) := HG1.out.below hzl HG1.out.lt
         replace HBW : Hid (Below w.heap.size w y2) := HBW.out.trans (hzl.mono HBW.out.size)
         have c2 : y2.cell? ⟨g1, 2, none⟩ = some (.int .i64 on) := HG1.out.cell 2
         have c3 : y2.cell? ⟨g1, 3, none⟩ = some (.int .u8 (oc.toNat : Int)) := HG1.out.cell 3
         clear hz hge hzb hzl))
    have HI4 := H4
    have HI1 := HG1
    have HIB := HBW
    clear H4 HG1 HBW c2 c3
    go_loopw [5] (fun i wr => ∃ (k : Nat), k ≤ L ∧ i = .int .i64 (k : Int) ∧ Hid (Blk wr g4 (cb (midB L k oc)) 5) ∧ Hid (Blk wr g1 [.int .i64 kd, .int .i64 oi, .int .i64 on, .int .u8 (oc.toNat : Int), .slice ak nk ck] 36) ∧ Hid (Below w.heap.size w wr)) (fun i _ => L - (intOf i).toNat)
    case atStart => exact ⟨0, Nat.zero_le _, rfl, HI4, HI1, HIB⟩
    case round =>
      obtain ⟨k, hkn, rfl, H4, HG1, HBW⟩ := hrel
      clear HI4 HI1 HIB
      have c3 : wr.cell? ⟨g1, 3, none⟩ = some (.int .u8 (oc.toNat : Int)) := HG1.out.cell 3
      by_cases hlt : k < L
      case neg =>
        have hlk : ¬ ((k : Int) < (64 : Int)) := by have h := HNV.out; omega
        have HO : Hid (Blk wr g4 (cb (List.replicate L oc)) 5) := by
          have h := H4.out
          rw [show k = L by omega, midB, Nat.sub_self] at h
          exact (List.append_nil (List.replicate L oc)) ▸ h
        go_wp2
        go_ret
        exact ⟨g4, rfl, GE4.out, HO.out, HBW.out⟩
      case pos =>
        have hlk : (k : Int) < (64 : Int) := by have h := HNV.out; omega
        have hlL : (k : Int) < (L : Int) := by omega
        have k0 : (0 : Int) ≤ (k : Int) := by omega
        have f5 : IntKind.i64.wrap ((k : Int) + 1) = (k : Int) + 1 := by rw [IntKind.wrap_i64]; have := HL2.out; omega
        have tk1 : Hid True := trivial
        go_wp2_with (first
          | (clear tk1; with_reducible refine wpSeq_storeY (.tmp 25) (.tmp 24) g4 k (midB L k oc) oc ?_ H4.out ?_ ?_ ?_ ?_ ?_
             · rw [len_midB oc (Nat.le_of_lt hlt)]; exact hlt
             · rfl
             · first | rfl | (simp [Act.eval]; done)
             · rfl
             · rfl
             intro y5 hb5 ho5
             have H45 : Hid (Blk y5 g4 (cb (midB L (k + 1) oc)) 5) := by rw [← midB_more oc hlt]; exact hb5
             have HG5 : Hid (Blk y5 g1 [.int .i64 kd, .int .i64 oi, .int .i64 on, .int .u8 (oc.toNat : Int), .slice ak nk ck] 36) := HG1.out.only ho5 N14.out
             have HB5 : Hid (Below w.heap.size w y5) := HBW.out.trans (ho5.below GE4.out HBW.out.size)
             clear hb5 ho5 c3))
        go_roundw
        case rel => exact ⟨k + 1, by omega, by simp, H45, HG5, HB5⟩
        case measure => simp [intOf]; omega
  by_cases h2 : 200 < on
  · have HNV : Hid ((64 : Int) = (L : Int)) := by show _ = _; rw [HLE.out, if_pos (Or.inr h2)]; rfl
    have h3 : on > 200 := h2
    go_enter Try.func25, Try.ntmps25
    have tk0 : Hid True := trivial
    have tk1 : Hid True := trivial
    go_wp2_with (first
      | (clear tk0; with_reducible refine wpSeq_boxW 36 (.tmp 0) [.int .i64 kd, .int .i64 oi, .int .i64 on, .int .u8 (oc.toNat : Int), .slice ak nk ck] ?_ ?_ ?_ ?_
         · rfl
         · rfl
         · rfl
         intro g1 y1 nn
         have GE_g1 : Hid (w.heap.size ≤ g1) := Nat.le_trans HBW.out.size nn.ge
         replace HBW : Hid (Below w.heap.size w y1) := HBW.out.trans (nn.below.mono HBW.out.size)
         have HG1 : Hid (Blk y1 g1 [.int .i64 kd, .int .i64 oi, .int .i64 on, .int .u8 (oc.toNat : Int), .slice ak nk ck] 36) := nn.blk
         have c2 : y1.cell? ⟨g1, 2, none⟩ = some (.int .i64 on) := HG1.out.cell 2
         have c3 : y1.cell? ⟨g1, 3, none⟩ = some (.int .u8 (oc.toNat : Int)) := HG1.out.cell 3
         clear nn)
      | (clear tk1; with_reducible refine wpSeq_make (.tmp 14) (.tmp 14) L L (Nat.le_refl _) ?_ ?_ ?_ ?_ ?_ ?_
         · have := HL2.out; omega
         · rfl
         · first | rfl | (exact congrArg (Value.int .i64) HNV.out)
         · first | rfl | (exact congrArg (Value.int .i64) HNV.out)
         · rfl
         intro g4 y2 z hz hge hzb hzl
         have H4 : Hid (Blk y2 g4 (cb (midB L 0 oc)) 5) := by rw [hz] at hzb; exact hzb
         have N14 : Hid (g1 ≠ g4) := by have h := HG1.out.lt; show _ ≠ _; omega
         have GE4 : Hid (w.heap.size ≤ g4) := Nat.le_trans HBW.out.size hge
         clear c2
         clear c3
         replace HG1 : Hid (Blk y2 g1 [.int .i64 kd, .int .i64 oi, .int .i64 on, .int .u8 (oc.toNat : Int), .slice ak nk ck] 36) := HG1.out.below hzl HG1.out.lt
         replace HBW : Hid (Below w.heap.size w y2) := HBW.out.trans (hzl.mono HBW.out.size)
         have c2 : y2.cell? ⟨g1, 2, none⟩ = some (.int .i64 on) := HG1.out.cell 2
         have c3 : y2.cell? ⟨g1, 3, none⟩ = some (.int .u8 (oc.toNat : Int)) := HG1.out.cell 3
         clear hz hge hzb hzl))
    have HI4 := H4
    have HI1 := HG1
    have HIB := HBW
    clear H4 HG1 HBW c2 c3
    go_loopw [5] (fun i wr => ∃ (k : Nat), k ≤ L ∧ i = .int .i64 (k : Int) ∧ Hid (Blk wr g4 (cb (midB L k oc)) 5) ∧ Hid (Blk wr g1 [.int .i64 kd, .int .i64 oi, .int .i64 on, .int .u8 (oc.toNat : Int), .slice ak nk ck] 36) ∧ Hid (Below w.heap.size w wr)) (fun i _ => L - (intOf i).toNat)
    case atStart => exact ⟨0, Nat.zero_le _, rfl, HI4, HI1, HIB⟩
    case round =>
      obtain ⟨k, hkn, rfl, H4, HG1, HBW⟩ := hrel
      clear HI4 HI1 HIB
      have c3 : wr.cell? ⟨g1, 3, none⟩ = some (.int .u8 (oc.toNat : Int)) := HG1.out.cell 3
      by_cases hlt : k < L
      case neg =>
        have hlk : ¬ ((k : Int) < (64 : Int)) := by have h := HNV.out; omega
        have HO : Hid (Blk wr g4 (cb (List.replicate L oc)) 5) := by
          have h := H4.out
          rw [show k = L by omega, midB, Nat.sub_self] at h
          exact (List.append_nil (List.replicate L oc)) ▸ h
        go_wp2
        go_ret
        exact ⟨g4, rfl, GE4.out, HO.out, HBW.out⟩
      case pos =>
        have hlk : (k : Int) < (64 : Int) := by have h := HNV.out; omega
        have hlL : (k : Int) < (L : Int) := by omega
        have k0 : (0 : Int) ≤ (k : Int) := by omega
        have f5 : IntKind.i64.wrap ((k : Int) + 1) = (k : Int) + 1 := by rw [IntKind.wrap_i64]; have := HL2.out; omega
        have tk1 : Hid True := trivial
        go_wp2_with (first
          | (clear tk1; with_reducible refine wpSeq_storeY (.tmp 25) (.tmp 24) g4 k (midB L k oc) oc ?_ H4.out ?_ ?_ ?_ ?_ ?_
             · rw [len_midB oc (Nat.le_of_lt hlt)]; exact hlt
             · rfl
             · first | rfl | (simp [Act.eval]; done)
             · rfl
             · rfl
             intro y5 hb5 ho5
             have H45 : Hid (Blk y5 g4 (cb (midB L (k + 1) oc)) 5) := by rw [← midB_more oc hlt]; exact hb5
             have HG5 : Hid (Blk y5 g1 [.int .i64 kd, .int .i64 oi, .int .i64 on, .int .u8 (oc.toNat : Int), .slice ak nk ck] 36) := HG1.out.only ho5 N14.out
             have HB5 : Hid (Below w.heap.size w y5) := HBW.out.trans (ho5.below GE4.out HBW.out.size)
             clear hb5 ho5 c3))
        go_roundw
        case rel => exact ⟨k + 1, by omega, by simp, H45, HG5, HB5⟩
        case measure => simp [intOf]; omega
  have HNV : Hid (on = (L : Int)) := by show _ = _; rw [HLE.out, if_neg (by omega)]; omega
  have h3 : ¬ (on > 200) := h2
  go_enter Try.func25, Try.ntmps25
  have tk0 : Hid True := trivial
  have tk1 : Hid True := trivial
  go_wp2_with (first
    | (clear tk0; with_reducible refine wpSeq_boxW 36 (.tmp 0) [.int .i64 kd, .int .i64 oi, .int .i64 on, .int .u8 (oc.toNat : Int), .slice ak nk ck] ?_ ?_ ?_ ?_
       · rfl
       · rfl
       · rfl
       intro g1 y1 nn
       have GE_g1 : Hid (w.heap.size ≤ g1) := Nat.le_trans HBW.out.size nn.ge
       replace HBW : Hid (Below w.heap.size w y1) := HBW.out.trans (nn.below.mono HBW.out.size)
       have HG1 : Hid (Blk y1 g1 [.int .i64 kd, .int .i64 oi, .int .i64 on, .int .u8 (oc.toNat : Int), .slice ak nk ck] 36) := nn.blk
       have c2 : y1.cell? ⟨g1, 2, none⟩ = some (.int .i64 on) := HG1.out.cell 2
       have c3 : y1.cell? ⟨g1, 3, none⟩ = some (.int .u8 (oc.toNat : Int)) := HG1.out.cell 3
       clear nn)
    | (clear tk1; with_reducible refine wpSeq_make (.tmp 14) (.tmp 14) L L (Nat.le_refl _) ?_ ?_ ?_ ?_ ?_ ?_
       · have := HL2.out; omega
       · rfl
       · first | rfl | (exact congrArg (Value.int .i64) HNV.out)
       · first | rfl | (exact congrArg (Value.int .i64) HNV.out)
       · rfl
       intro g4 y2 z hz hge hzb hzl
       have H4 : Hid (Blk y2 g4 (cb (midB L 0 oc)) 5) := by rw [hz] at hzb; exact hzb
       have N14 : Hid (g1 ≠ g4) := by have h := HG1.out.lt; show _ ≠ _; omega
       have GE4 : Hid (w.heap.size ≤ g4) := Nat.le_trans HBW.out.size hge
       clear c2
       clear c3
       replace HG1 : Hid (Blk y2 g1 [.int .i64 kd, .int .i64 oi, .int .i64 on, .int .u8 (oc.toNat : Int), .slice ak nk ck] 36) := HG1.out.below hzl HG1.out.lt
       replace HBW : Hid (Below w.heap.size w y2) := HBW.out.trans (hzl.mono HBW.out.size)
       have c2 : y2.cell? ⟨g1, 2, none⟩ = some (.int .i64 on) := HG1.out.cell 2
       have c3 : y2.cell? ⟨g1, 3, none⟩ = some (.int .u8 (oc.toNat : Int)) := HG1.out.cell 3
       clear hz hge hzb hzl))
  have HI4 := H4
  have HI1 := HG1
  have HIB := HBW
  clear H4 HG1 HBW c2 c3
  go_loopw [5] (fun i wr => ∃ (k : Nat), k ≤ L ∧ i = .int .i64 (k : Int) ∧ Hid (Blk wr g4 (cb (midB L k oc)) 5) ∧ Hid (Blk wr g1 [.int .i64 kd, .int .i64 oi, .int .i64 on, .int .u8 (oc.toNat : Int), .slice ak nk ck] 36) ∧ Hid (Below w.heap.size w wr)) (fun i _ => L - (intOf i).toNat)
  case atStart => exact ⟨0, Nat.zero_le _, rfl, HI4, HI1, HIB⟩
  case round =>
    obtain ⟨k, hkn, rfl, H4, HG1, HBW⟩ := hrel
    clear HI4 HI1 HIB
    have c3 : wr.cell? ⟨g1, 3, none⟩ = some (.int .u8 (oc.toNat : Int)) := HG1.out.cell 3
    by_cases hlt : k < L
    case neg =>
      have hlk : ¬ ((k : Int) < on) := by have h := HNV.out; omega
      have HO : Hid (Blk wr g4 (cb (List.replicate L oc)) 5) := by
        have h := H4.out
        rw [show k = L by omega, midB, Nat.sub_self] at h
        exact (List.append_nil (List.replicate L oc)) ▸ h
      go_wp2
      go_ret
      exact ⟨g4, rfl, GE4.out, HO.out, HBW.out⟩
    case pos =>
      have hlk : (k : Int) < on := by have h := HNV.out; omega
      have hlL : (k : Int) < (L : Int) := by omega
      have k0 : (0 : Int) ≤ (k : Int) := by omega
      have f5 : IntKind.i64.wrap ((k : Int) + 1) = (k : Int) + 1 := by rw [IntKind.wrap_i64]; have := HL2.out; omega
      have tk1 : Hid True := trivial
      go_wp2_with (first
        | (clear tk1; with_reducible refine wpSeq_storeY (.tmp 25) (.tmp 24) g4 k (midB L k oc) oc ?_ H4.out ?_ ?_ ?_ ?_ ?_
           · rw [len_midB oc (Nat.le_of_lt hlt)]; exact hlt
           · rfl
           · first | rfl | (simp [Act.eval]; done)
           · rfl
           · rfl
           intro y5 hb5 ho5
           have H45 : Hid (Blk y5 g4 (cb (midB L (k + 1) oc)) 5) := by rw [← midB_more oc hlt]; exact hb5
           have HG5 : Hid (Blk y5 g1 [.int .i64 kd, .int .i64 oi, .int .i64 on, .int .u8 (oc.toNat : Int), .slice ak nk ck] 36) := HG1.out.only ho5 N14.out
           have HB5 : Hid (Below w.heap.size w y5) := HBW.out.trans (ho5.below GE4.out HBW.out.size)
           clear hb5 ho5 c3))
      go_roundw
      case rel => exact ⟨k + 1, by omega, by simp, H45, HG5, HB5⟩
      case measure => simp [intOf]; omega
set_option maxRecDepth 100000 in
theorem few13_any (ad : Option Addr) (n c : Nat) (w : World) : Calls Try.prog 9 #[.slice ad n c] w fun r w' => r = .returned (.bool (decide (n ≤ 60))) ∧ w' = w := by
  by_cases h : n ≤ 60
  · have hi : (n : Int) ≤ 60 := by omega
    have HD : Hid (decide (n ≤ 60) = true) := decide_eq_true h
    clear h
    go_enter Try.func9, Try.ntmps9
    go_wp2
    go_ret
    exact ⟨by rw [HD.out]; rfl, rfl⟩
  · have hi : ¬ ((n : Int) ≤ 60) := by omega
    have HD : Hid (decide (n ≤ 60) = false) := decide_eq_false h
    clear h
    go_enter Try.func9, Try.ntmps9
    go_wp2
    go_ret
    exact ⟨by rw [HD.out]; rfl, rfl⟩
end Go.Proofs.Ytdllnedmhhajnaa

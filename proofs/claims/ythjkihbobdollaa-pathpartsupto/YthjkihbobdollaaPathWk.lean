/- The law's own examples (works). -/
import Derived.Test.YthjkihbobdollaaPathR3
namespace Go.Proofs.Ythjkihbobdollaa
open Go.RowKit
def dg (b : Nat) : List (BitVec 8) := BitVec.ofNat 8 b :: List.replicate 31 0
theorem dg_len (b : Nat) : (dg b).length = 32 := by simp [dg]
theorem build_128 (a : Act) (o : Oper) (ho : o.op = .build 23 #[(0, .const (.int .u8 128))]) (w : World) : (execOp a.eval o).run Try.prog w = .ok (.value (.agg (cb (dg 128)).toArray)) w := by
  unfold execOp
  rw [ho]
  kernel_rfl
theorem wpSeq_b128 {ops : Array Oper} {Q : Exit → Act → World → Prop} {rest : List Oper} {o : Oper} {a : Act} {w : World} (ho : o.op = .build 23 #[(0, .const (.int .u8 128))]) (hw : Region.wanted o (yielded ops a.tmps) = true)
    (h : wpList Try.prog ops Q rest (a.put o.dst (.agg (cb (dg 128)).toArray)) w) : wpList Try.prog ops Q (o :: rest) a w := wpSeq_val _ _ hw (build_128 a o ho w) h
theorem build_129 (a : Act) (o : Oper) (ho : o.op = .build 23 #[(0, .const (.int .u8 129))]) (w : World) : (execOp a.eval o).run Try.prog w = .ok (.value (.agg (cb (dg 129)).toArray)) w := by
  unfold execOp
  rw [ho]
  kernel_rfl
theorem wpSeq_b129 {ops : Array Oper} {Q : Exit → Act → World → Prop} {rest : List Oper} {o : Oper} {a : Act} {w : World} (ho : o.op = .build 23 #[(0, .const (.int .u8 129))]) (hw : Region.wanted o (yielded ops a.tmps) = true)
    (h : wpList Try.prog ops Q rest (a.put o.dst (.agg (cb (dg 129)).toArray)) w) : wpList Try.prog ops Q (o :: rest) a w := wpSeq_val _ _ hw (build_129 a o ho w) h
theorem build_1 (a : Act) (o : Oper) (ho : o.op = .build 23 #[(0, .const (.int .u8 1))]) (w : World) : (execOp a.eval o).run Try.prog w = .ok (.value (.agg (cb (dg 1)).toArray)) w := by
  unfold execOp
  rw [ho]
  kernel_rfl
theorem wpSeq_b1 {ops : Array Oper} {Q : Exit → Act → World → Prop} {rest : List Oper} {o : Oper} {a : Act} {w : World} (ho : o.op = .build 23 #[(0, .const (.int .u8 1))]) (hw : Region.wanted o (yielded ops a.tmps) = true)
    (h : wpList Try.prog ops Q rest (a.put o.dst (.agg (cb (dg 1)).toArray)) w) : wpList Try.prog ops Q (o :: rest) a w := wpSeq_val _ _ hw (build_1 a o ho w) h
theorem build_2 (a : Act) (o : Oper) (ho : o.op = .build 23 #[(0, .const (.int .u8 2))]) (w : World) : (execOp a.eval o).run Try.prog w = .ok (.value (.agg (cb (dg 2)).toArray)) w := by
  unfold execOp
  rw [ho]
  kernel_rfl
theorem wpSeq_b2 {ops : Array Oper} {Q : Exit → Act → World → Prop} {rest : List Oper} {o : Oper} {a : Act} {w : World} (ho : o.op = .build 23 #[(0, .const (.int .u8 2))]) (hw : Region.wanted o (yielded ops a.tmps) = true)
    (h : wpList Try.prog ops Q rest (a.put o.dst (.agg (cb (dg 2)).toArray)) w) : wpList Try.prog ops Q (o :: rest) a w := wpSeq_val _ _ hw (build_2 a o ho w) h
theorem build_255 (a : Act) (o : Oper) (ho : o.op = .build 23 #[(0, .const (.int .u8 255))]) (w : World) : (execOp a.eval o).run Try.prog w = .ok (.value (.agg (cb (dg 255)).toArray)) w := by
  unfold execOp
  rw [ho]
  kernel_rfl
theorem wpSeq_b255 {ops : Array Oper} {Q : Exit → Act → World → Prop} {rest : List Oper} {o : Oper} {a : Act} {w : World} (ho : o.op = .build 23 #[(0, .const (.int .u8 255))]) (hw : Region.wanted o (yielded ops a.tmps) = true)
    (h : wpList Try.prog ops Q rest (a.put o.dst (.agg (cb (dg 255)).toArray)) w) : wpList Try.prog ops Q (o :: rest) a w := wpSeq_val _ _ hw (build_255 a o ho w) h
theorem build_192 (a : Act) (o : Oper) (ho : o.op = .build 23 #[(0, .const (.int .u8 192))]) (w : World) : (execOp a.eval o).run Try.prog w = .ok (.value (.agg (cb (dg 192)).toArray)) w := by
  unfold execOp
  rw [ho]
  kernel_rfl
theorem wpSeq_b192 {ops : Array Oper} {Q : Exit → Act → World → Prop} {rest : List Oper} {o : Oper} {a : Act} {w : World} (ho : o.op = .build 23 #[(0, .const (.int .u8 192))]) (hw : Region.wanted o (yielded ops a.tmps) = true)
    (h : wpList Try.prog ops Q rest (a.put o.dst (.agg (cb (dg 192)).toArray)) w) : wpList Try.prog ops Q (o :: rest) a w := wpSeq_val _ _ hw (build_192 a o ho w) h
theorem cut_255 : IsCut (dg 255) 2 (dg 192) := ⟨dg_len _, by decide +kernel⟩
set_option maxRecDepth 100000 in
set_option maxHeartbeats 2000000 in
theorem pworks_any (w : World) : Calls Try.prog 12 #[] w fun e w' => e = .returned (.bool true) ∧ Below w.heap.size w w' := by
  have h1 : bitI (dg 128) 0 = true := by decide
  have h2 : bitI (dg 128) 1 = false := by decide
  have h3 : common (dg 128) (dg 129) = 7 := by decide +kernel
  have h4 : lessB (dg 1) (dg 2) = true := by decide
  have H1 : Hid (bitI (dg 128) 0 = true) := h1
  have H2 : Hid (bitI (dg 128) 1 = false) := h2
  have H3 : Hid (common (dg 128) (dg 129) = 7) := h3
  have H4 : Hid (lessB (dg 1) (dg 2) = true) := h4
  have heq : ∀ w, (Op.equalIn 10000 23 (.agg (cb (dg 192)).toArray) (.agg (cb (dg 192)).toArray)).run Try.prog w = .ok true w := fun w => eq_dig_same (dg 192) (dg_len _) w
  clear h1 h2 h3 h4
  have HBW : Hid (Below w.heap.size w w) := Below.refl _ _
  go_enter Try.func12, Try.ntmps12
  go_wp2_with (first
    | (with_reducible refine wpSeq_b128 ?_ ?_ ?_
       · with_reducible rfl
       · rfl)
    | (with_reducible refine wpSeq_b129 ?_ ?_ ?_
       · with_reducible rfl
       · rfl)
    | (with_reducible refine wpSeq_b1 ?_ ?_ ?_
       · with_reducible rfl
       · rfl)
    | (with_reducible refine wpSeq_b2 ?_ ?_ ?_
       · with_reducible rfl
       · rfl)
    | (with_reducible refine wpSeq_b255 ?_ ?_ ?_
       · with_reducible rfl
       · rfl)
    | (with_reducible refine wpSeq_b192 ?_ ?_ ?_
       · with_reducible rfl
       · rfl)
    | (go_at_call 9; refine (pBit_any (dg 128) (dg_len _) _ _).mono ?_; rintro e wz ⟨rfl, hbz⟩; first | rw [H1.out] | rw [H2.out]
       replace HBW : Hid (Below w.heap.size w wz) := HBW.out.trans (hbz.mono HBW.out.size)
       clear hbz)
    | (go_at_call 14; refine (pCommon_any (dg 128) (dg 129) (dg_len _) (dg_len _) _).mono ?_; rintro e wz ⟨rfl, hbz⟩; rw [H3.out]
       replace HBW : Hid (Below w.heap.size w wz) := HBW.out.trans (hbz.mono HBW.out.size)
       clear hbz)
    | (go_at_call 20; refine (pLess_any (dg 1) (dg 2) (dg_len _) (dg_len _) _).mono ?_; rintro e wz ⟨rfl, hbz⟩; rw [H4.out]
       replace HBW : Hid (Below w.heap.size w wz) := HBW.out.trans (hbz.mono HBW.out.size)
       clear hbz)
    | (go_at_call 16; refine (pCut_any (dg 255) (dg_len _) 2 _).mono ?_; rintro e wz ⟨yy, rfl, hyy, hbz⟩
       obtain rfl : yy = dg 192 := hyy.uniq cut_255
       replace HBW : Hid (Below w.heap.size w wz) := HBW.out.trans (hbz.mono HBW.out.size)
       clear hbz hyy))
  go_ret
  exact ⟨rfl, HBW.out⟩
end Go.Proofs.Ythjkihbobdollaa

/- Texts that the proof leans on, one behind the other: Plain: what putting does to the halves of leaves; leaves in order; a tree by its leaves (layer 7). What the functions of a tree do, over any way in which trees lie in memory (T); the walk of the statements' works. Trees in memory (layer 7): a tree's cells, and what lies below it. .. -/
import Derived.Test.YtphmmnffgknkcaaDoorMsb
import Derived.RangeFuncFrom
import Derived.Sort.Lot0
import Derived.Test.YtphmmnffgknkcaaDoorChecked
import Derived.Shelf.SlSortCmp.Kit1
import Derived.Sort.WalkB2
import Derived.Sort.WalkB12
import Derived.Deep.LoopGhost
import Derived.Sort.WalkA
import Derived.Deep.CutRange
import Derived.Lib.SliceRun
/- Plain: what putting does to the halves of leaves; leaves in order; a tree by its leaves (layer 7). -/
namespace Go.Proofs.YtphmmnffgknkcaaDoor
/-- x has the first d bits of the leaves -/
def Near (l : List Lf) (x : List (BitVec 8)) (d : Nat) : Prop := ∀ p ∈ l, ∀ j, j < d → bt p.1 j = bt x j
theorem Near.zero (l : List Lf) (x : List (BitVec 8)) : Near l x 0 := fun _ _ j hj => by omega
theorem Near.half {l : List Lf} {x : List (BitVec 8)} {d : Nat} (h : Near l x d) : Near (halfL l d (bt x d)) x (d + 1) := by
  intro p hp j hj
  have hp' := List.mem_filter.1 hp
  by_cases hjd : j < d
  · exact h p hp'.1 j hjd
  · have : j = d := by omega
    subst this
    exact eq_of_beq hp'.2
theorem mem_halfL {l : List Lf} {d : Nat} {b : Bool} {p : Lf} : p ∈ halfL l d b ↔ p ∈ l ∧ bt p.1 d = b := by
  unfold halfL
  rw [List.mem_filter]
  exact ⟨fun h => ⟨h.1, eq_of_beq h.2⟩, fun h => ⟨h.1, by rw [h.2]; simp⟩⟩
theorem Fits.put {l : List Lf} {x v : List (BitVec 8)} {d : Nat} (h : Fits l d) (hn : Near l x d) (hx : x.length = 32) (hv : v.length = 32) : Fits (putL l x v) d := by
  refine ⟨putL_ok h.1 hx hv, putL_up h.1 hx h.2.1, fun p hp q hq j hj => ?_⟩
  have key : ∀ p ∈ putL l x v, bt p.1 j = bt x j := fun p hp => by
    rcases mem_putL.1 hp with rfl | ⟨_, h1⟩
    · rfl
    · exact hn p h1 j hj
  rw [key p hp, key q hq]
theorem getL_half {l : List Lf} {x : List (BitVec 8)} {d : Nat} : getL (halfL l d (bt x d)) x = getL l x := by
  unfold getL halfL
  congr 1
  induction l with
  | nil => rfl
  | cons p r ih =>
    rw [List.filter_cons, List.find?_cons]
    by_cases hp : p.1 = x
    · have : (bt p.1 d == bt x d) = true := by rw [hp]; simp
      rw [if_pos this, List.find?_cons, decide_eq_true hp]
    · rw [decide_eq_false hp]
      split
      · rw [List.find?_cons, decide_eq_false hp]
        exact ih
      · exact ih
/-- the leaves whose next bit is off stand ahead of the others -/
theorem half_order {l : List Lf} {d : Nat} (h : Fits l d) : l = halfL l d false ++ halfL l d true := by
  have key : ∀ l : List Lf, okLf l → Up l → (∀ p ∈ l, ∀ q ∈ l, ∀ j, j < d → bt p.1 j = bt q.1 j) → l = halfL l d false ++ halfL l d true := by
    intro l
    induction l with
    | nil => intro _ _ _; rfl
    | cons p r ih =>
      intro ho hu hc
      have hu' := List.pairwise_cons.1 hu
      have hr := ih (fun q hq => ho q (List.mem_cons_of_mem _ hq)) hu'.2 (fun a ha b hb => hc a (List.mem_cons_of_mem _ ha) b (List.mem_cons_of_mem _ hb))
      cases hb : bt p.1 d with
      | false =>
        have e1 : halfL (p :: r) d false = p :: halfL r d false := by unfold halfL; rw [List.filter_cons, hb]; rfl
        have e2 : halfL (p :: r) d true = halfL r d true := by unfold halfL; rw [List.filter_cons, hb]; rfl
        rw [e1, e2, List.cons_append, ← hr]
      | true =>
        have e1 : halfL (p :: r) d false = halfL r d false := by unfold halfL; rw [List.filter_cons, hb]; rfl
        have e2 : halfL (p :: r) d true = p :: halfL r d true := by unfold halfL; rw [List.filter_cons, hb]; rfl
        have e3 : halfL r d false = [] := by
          unfold halfL
          rw [List.filter_eq_nil_iff]
          intro q hq hqb
          have hqf : bt q.1 d = false := eq_of_beq hqb
          have hlt := hu'.1 q hq
          have hp32 := (ho p List.mem_cons_self).1
          have hq32 := (ho q (List.mem_cons_of_mem _ hq)).1
          have hne := less_ne hlt
          have hcm := (common_spec p.1 q.1)
          rw [less_common p.1 q.1 hp32 hq32 hne] at hlt
          have hcd : common p.1 q.1 = d := by
            rcases Nat.lt_trichotomy (common p.1 q.1) d with h1 | h1 | h1
            · exact absurd (hc p List.mem_cons_self q (List.mem_cons_of_mem _ hq) _ h1) (hcm.2.2 (common_lt _ _ hp32 hq32 hne))
            · exact h1
            · have := hcm.2.1 d h1
              rw [hb, hqf] at this
              cases this
          rw [hcd, hqf] at hlt
          cases hlt
        rw [e1, e2, e3, List.nil_append]
        rw [e3, List.nil_append] at hr
        rw [← hr]
  exact key l h.1 h.2.1 h.2.2
theorem half_len {l : List Lf} {d : Nat} (h : Fits l d) : l.length = (halfL l d false).length + (halfL l d true).length := by
  have := congrArg List.length (half_order h)
  rwa [List.length_append] at this
end Go.Proofs.YtphmmnffgknkcaaDoor
/- What the functions of a tree do, over any way in which trees lie in memory (T); the walk of the statements' works. -/
namespace Go.Proofs.YtphmmnffgknkcaaDoor
open Go.RowKit
set_option maxRecDepth 100000
end Go.Proofs.YtphmmnffgknkcaaDoor
/- Trees in memory (layer 7): a tree's cells, and what lies below it. -/
namespace Go.Proofs.YtphmmnffgknkcaaDoor
open Go.RowKit
set_option maxRecDepth 100000
/-- a tree's cells: count, root, index, value, off, on -/
def treeV (c : Nat) (rt ix vl : List (BitVec 8)) (p q : Value) : List Value := .int .i64 (c : Int) :: (cb rt ++ (cb ix ++ (cb vl ++ [p, q])))
structure TreeC (W : World) (g c : Nat) (rt ix vl : List (BitVec 8)) (p q : Value) : Prop where
  blk : Blk W g (treeV c rt ix vl p q) 72
  l1 : rt.length = 32
  l2 : ix.length = 32
  l3 : vl.length = 32
theorem TreeC.below {W W' : World} {g c B : Nat} {rt ix vl : List (BitVec 8)} {p q : Value} (h : TreeC W g c rt ix vl p q) (hb : Below B W W') (hB : g < B) : TreeC W' g c rt ix vl p q := ⟨h.blk.below hb hB, h.l1, h.l2, h.l3⟩
theorem TreeC.next {W W' : World} {g c : Nat} {rt ix vl : List (BitVec 8)} {p q : Value} (h : TreeC W g c rt ix vl p q) (hb : Below W.heap.size W W') : TreeC W' g c rt ix vl p q := h.below hb h.blk.lt
theorem TreeC.drew {W : World} {g c : Nat} {rt ix vl : List (BitVec 8)} {p q : Value} (h : TreeC W g c rt ix vl p q) : TreeC W.drew g c rt ix vl p q := ⟨h.blk.drew, h.l1, h.l2, h.l3⟩
theorem TreeC.cnt {W : World} {g c : Nat} {rt ix vl : List (BitVec 8)} {p q : Value} (h : TreeC W g c rt ix vl p q) : W.cell? ⟨g, 0, none⟩ = some (.int .i64 (c : Int)) := by rw [h.blk.cell]; rfl
theorem TreeC.root {W : World} {g c : Nat} {rt ix vl : List (BitVec 8)} {p q : Value} (h : TreeC W g c rt ix vl p q) : W.rangeAt g 1 (cb rt) := fun j v hv => by
  have hj : j < (cb rt).length := (List.getElem?_eq_some_iff.1 hv).1
  rw [h.blk.cell, treeV, Nat.add_comm, List.getElem?_cons_succ, List.getElem?_append_left hj, hv]
theorem TreeC.index {W : World} {g c : Nat} {rt ix vl : List (BitVec 8)} {p q : Value} (h : TreeC W g c rt ix vl p q) : W.rangeAt g 33 (cb ix) := fun j v hv => by
  have hj : j < (cb ix).length := (List.getElem?_eq_some_iff.1 hv).1
  have e1 : (cb rt).length = 32 := by rw [cb_len, h.l1]
  rw [h.blk.cell, treeV, show 33 + j = (32 + j) + 1 by omega, List.getElem?_cons_succ, List.getElem?_append_right (by omega), e1, Nat.add_sub_cancel_left, List.getElem?_append_left hj, hv]
theorem TreeC.value {W : World} {g c : Nat} {rt ix vl : List (BitVec 8)} {p q : Value} (h : TreeC W g c rt ix vl p q) : W.rangeAt g 65 (cb vl) := fun j v hv => by
  have hj : j < (cb vl).length := (List.getElem?_eq_some_iff.1 hv).1
  have e1 : (cb rt).length = 32 := by rw [cb_len, h.l1]
  have e2 : (cb ix).length = 32 := by rw [cb_len, h.l2]
  rw [h.blk.cell, treeV, show 65 + j = (32 + (32 + j)) + 1 by omega, List.getElem?_cons_succ, List.getElem?_append_right (by omega), e1, Nat.add_sub_cancel_left, List.getElem?_append_right (by omega), e2, Nat.add_sub_cancel_left, List.getElem?_append_left hj, hv]
theorem TreeC.tail {W : World} {g c : Nat} {rt ix vl : List (BitVec 8)} {p q : Value} (h : TreeC W g c rt ix vl p q) (j : Nat) : W.cell? ⟨g, 97 + j, none⟩ = [p, q][j]? := by
  have e1 : (cb rt).length = 32 := by rw [cb_len, h.l1]
  have e2 : (cb ix).length = 32 := by rw [cb_len, h.l2]
  have e3 : (cb vl).length = 32 := by rw [cb_len, h.l3]
  rw [h.blk.cell, treeV, show 97 + j = (32 + (32 + (32 + j))) + 1 by omega, List.getElem?_cons_succ, List.getElem?_append_right (by omega), e1, Nat.add_sub_cancel_left, List.getElem?_append_right (by omega), e2, Nat.add_sub_cancel_left, List.getElem?_append_right (by omega), e3, Nat.add_sub_cancel_left]
theorem TreeC.off {W : World} {g c : Nat} {rt ix vl : List (BitVec 8)} {p q : Value} (h : TreeC W g c rt ix vl p q) : W.cell? ⟨g, 97, none⟩ = some p := h.tail 0
theorem TreeC.on {W : World} {g c : Nat} {rt ix vl : List (BitVec 8)} {p q : Value} (h : TreeC W g c rt ix vl p q) : W.cell? ⟨g, 98, none⟩ = some q := h.tail 1
def ptr (g : Nat) : Value := .pointer (some ⟨g, 0, none⟩)
/-- a tree of the leaves l, that stands below d bits, lies at block g -/
inductive TreeIs (W : World) : Nat → Nat → List Lf → Prop
  | none (d g : Nat) : TreeC W g 0 (dig [69]) zb32 zb32 (.pointer none) (.pointer none) → TreeIs W d g []
  | leaf (d g : Nat) (x v : List (BitVec 8)) : TreeC W g 1 (dig (pairB 76 x v)) x v (.pointer none) (.pointer none) → TreeIs W d g [(x, v)]
  | node (d g g0 g1 : Nat) (l : List Lf) : 2 ≤ l.length → Fits l d → TreeIs W (d + 1) g0 (halfL l d false) → TreeIs W (d + 1) g1 (halfL l d true) → TreeC W g l.length (rootL l d) zb32 zb32 (ptr g0) (ptr g1) → TreeIs W d g l
theorem TreeIs.next {W W' : World} {d g : Nat} {l : List Lf} (h : TreeIs W d g l) (hb : Below W.heap.size W W') : TreeIs W' d g l := by
  induction h with
  | none d g hc => exact .none d g (hc.next hb)
  | leaf d g x v hc => exact .leaf d g x v (hc.next hb)
  | node d g g0 g1 l h2 hf _ _ hc i0 i1 => exact .node d g g0 g1 l h2 hf i0 i1 (hc.next hb)
/-- what a tree's own cells tell -/
theorem TreeIs.cells {W : World} {d g : Nat} {l : List Lf} (h : TreeIs W d g l) : ∃ ix vl p q, TreeC W g l.length (rootL l d) ix vl p q := by
  cases h with
  | none _ _ hc => exact ⟨_, _, _, _, by rw [rootL_nil]; exact hc⟩
  | leaf _ _ x v hc => exact ⟨_, _, _, _, by rw [rootL_one]; exact hc⟩
  | node _ _ g0 g1 _ h2 hf _ _ hc => exact ⟨_, _, _, _, hc⟩
/-- a whole tree -/
def TT (W : World) (g : Nat) (l : List Lf) : Prop := TreeIs W 0 g l ∧ okLf l ∧ Up l
theorem TT.next {W W' : World} {g : Nat} {l : List Lf} (h : TT W g l) (hb : Below W.heap.size W W') : TT W' g l := ⟨h.1.next hb, h.2⟩
theorem fits_zero {l : List Lf} (h1 : okLf l) (h2 : Up l) : Fits l 0 := ⟨h1, h2, fun _ _ _ _ j hj => by omega⟩
theorem trLen_any (W : World) (d g : Nat) (l : List Lf) (h : TreeIs W d g l) : Calls Tryd.prog 32 #[.pointer (some ⟨g, 0, none⟩)] W fun e w' => e = .returned (.int .i64 (l.length : Int)) ∧ Below W.heap.size W w' := by
  obtain ⟨ix, vl, p, q, hc⟩ := h.cells
  have c0 := hc.cnt
  clear h hc
  go_enter Tryd.func32, Tryd.ntmps32
  go_wp2
  go_ret
  exact ⟨rfl, Below.refl _ _⟩
end Go.Proofs.YtphmmnffgknkcaaDoor
/- The walks of tree.Empty, single and joined. -/
namespace Go.Proofs.YtphmmnffgknkcaaDoor
open Go.RowKit
set_option maxRecDepth 100000
theorem builtE (f : Operand → Value) (o : Oper) (x : Operand) (ho : o.op = .build 72 #[(1, x)]) (rt : List (BitVec 8)) (hl : rt.length = 32) (hx : f x = .agg (cb rt).toArray) (w : World) : (execOp f o).run Tryd.prog w = .ok (.value (.agg (treeV 0 rt zb32 zb32 (.pointer none) (.pointer none)).toArray)) w := by
  unfold execOp
  rw [ho]
  simp only [List.map_toArray, List.map_cons, List.map_nil, hx]
  match rt, hl with
  | [x0, x1, x2, x3, x4, x5, x6, x7, x8, x9, x10, x11, x12, x13, x14, x15, x16, x17, x18, x19, x20, x21, x22, x23, x24, x25, x26, x27, x28, x29, x30, x31], _ =>
    refine id ?_
    show _ = _
    kernel_rfl
theorem builtS (f : Operand → Value) (o : Oper) (x y z : Operand) (ho : o.op = .build 72 #[(0, .const (.int .i64 1)), (1, x), (2, y), (3, z)]) (rt ix vl : List (BitVec 8)) (hl : rt.length = 32) (hl2 : ix.length = 32) (hl3 : vl.length = 32) (hc : f (.const (.int .i64 1)) = .int .i64 1) (hx : f x = .agg (cb rt).toArray) (hy : f y = .agg (cb ix).toArray) (hz : f z = .agg (cb vl).toArray) (w : World) : (execOp f o).run Tryd.prog w = .ok (.value (.agg (treeV 1 rt ix vl (.pointer none) (.pointer none)).toArray)) w := by
  unfold execOp
  rw [ho]
  simp only [List.map_toArray, List.map_cons, List.map_nil, hc, hx, hy, hz]
  match rt, hl, ix, hl2, vl, hl3 with
  | [x0, x1, x2, x3, x4, x5, x6, x7, x8, x9, x10, x11, x12, x13, x14, x15, x16, x17, x18, x19, x20, x21, x22, x23, x24, x25, x26, x27, x28, x29, x30, x31], _, [y0, y1, y2, y3, y4, y5, y6, y7, y8, y9, y10, y11, y12, y13, y14, y15, y16, y17, y18, y19, y20, y21, y22, y23, y24, y25, y26, y27, y28, y29, y30, y31], _, [z0, z1, z2, z3, z4, z5, z6, z7, z8, z9, z10, z11, z12, z13, z14, z15, z16, z17, z18, z19, z20, z21, z22, z23, z24, z25, z26, z27, z28, z29, z30, z31], _ =>
    refine id ?_
    show _ = _
    kernel_rfl
theorem builtJ (f : Operand → Value) (o : Oper) (c x y z : Operand) (ho : o.op = .build 72 #[(0, c), (1, x), (4, y), (5, z)]) (n g0 g1 : Nat) (rt : List (BitVec 8)) (hl : rt.length = 32) (hc : f c = .int .i64 (n : Int)) (hx : f x = .agg (cb rt).toArray) (hy : f y = ptr g0) (hz : f z = ptr g1) (w : World) : (execOp f o).run Tryd.prog w = .ok (.value (.agg (treeV n rt zb32 zb32 (ptr g0) (ptr g1)).toArray)) w := by
  unfold execOp
  rw [ho]
  simp only [List.map_toArray, List.map_cons, List.map_nil, hc, hx, hy, hz]
  match rt, hl with
  | [x0, x1, x2, x3, x4, x5, x6, x7, x8, x9, x10, x11, x12, x13, x14, x15, x16, x17, x18, x19, x20, x21, x22, x23, x24, x25, x26, x27, x28, x29, x30, x31], _ =>
    refine id ?_
    show _ = _
    kernel_rfl
theorem boxTree (f : Operand → Value) (o : Oper) (x : Operand) (ho : o.op = .box 72 x) (cs : List Value) (hx : f x = .agg cs.toArray) (w : World) : (execOp f o).run Tryd.prog w = .ok (.value (.pointer (some ⟨w.heap.size, 0, none⟩))) (w.alloc (.cells cs.toArray 72)) := by
  unfold execOp
  rw [ho]
  simp only [hx]
  rfl
set_option maxRecDepth 100000 in
set_option maxHeartbeats 1000000 in
theorem trEmpty_any (w : World) (hK : KOk w) : Calls Tryd.prog 36 #[] w fun e w' => ∃ g, e = .returned (.pointer (some ⟨g, 0, none⟩)) ∧ TreeC w' g 0 (dig [69]) zb32 zb32 (.pointer none) (.pointer none) ∧ Below w.heap.size w w' := by
  obtain ⟨r, HRD⟩ : ∃ r, Hid (r = dig [69]) := ⟨_, rfl⟩
  have HRL : Hid (r.length = 32) := by show _ = _; rw [HRD.out]; exact len_dig' _
  have HK : Hid (KOk w) := hK
  clear hK
  rw [← HRD.out]
  go_enter Tryd.func36, Tryd.ntmps36
  go_wp2_with (first
    | (go_at_call 63; refine (tEmpty_any _).mono ?_; rintro e w1 ⟨v1, rfl, hr1, hb1⟩
       have HR1 : Hid (Reads w1 v1 [69]) := hr1
       have HBW : Hid (Below w.heap.size w w1) := hb1
       replace HK : Hid (KOk w1) := HK.out.below hb1 HK.out.lt
       clear hr1 hb1)
    | (go_at_call 48; refine (tOf_any v1 _ _ HK.out HR1.out (by decide)).mono ?_; rintro e w2 ⟨rfl, hb1⟩
       rw [← HRD.out]
       replace HBW : Hid (Below w.heap.size w w2) := HBW.out.trans (hb1.mono HBW.out.size)
       clear hb1 HR1 HK)
    | (refine wpSeq_val _ _ (by rfl) (builtE _ _ (.tmp 2) rfl r HRL.out rfl _) ?_)
    | (refine wpSeq_val _ _ (by rfl) (boxTree _ _ (.tmp 3) rfl _ rfl _) ?_
       obtain ⟨w3, HW3⟩ : ∃ z, Hid (z = w2.alloc (.cells (treeV 0 r zb32 zb32 (.pointer none) (.pointer none)).toArray 72)) := ⟨_, rfl⟩
       rw [← HW3.out]))
  go_ret
  refine ⟨w2.heap.size, rfl, ⟨by rw [HW3.out]; exact Blk.new _ _ _, HRL.out, rfl, rfl⟩, by rw [HW3.out]; exact HBW.out.trans ((below_alloc w2 _).mono HBW.out.size)⟩
set_option maxRecDepth 100000 in
set_option maxHeartbeats 2000000 in
theorem trSingle_any (x v : List (BitVec 8)) (hx : x.length = 32) (hv : v.length = 32) (w : World) (hK : KOk w) : Calls Tryd.prog 35 #[.agg (cb x).toArray, .agg (cb v).toArray] w fun e w' => ∃ g, e = .returned (.pointer (some ⟨g, 0, none⟩)) ∧ w.heap.size ≤ g ∧ TreeC w' g 1 (dig (pairB 76 x v)) x v (.pointer none) (.pointer none) ∧ Below w.heap.size w w' := by
  obtain ⟨r, HRD⟩ : ∃ r, Hid (r = dig (pairB 76 x v)) := ⟨_, rfl⟩
  have HRL : Hid (r.length = 32) := by show _ = _; rw [HRD.out]; exact len_dig' _
  have HK : Hid (KOk w) := hK
  have HX : Hid (x.length = 32) := hx
  have HV : Hid (v.length = 32) := hv
  clear hK hx hv
  rw [← HRD.out]
  go_enter Tryd.func35, Tryd.ntmps35
  go_wp2_with (first
    | (with_reducible refine wpSeq_boxD (.tmp 0) x ?_ ?_ ?_ ?_
       · rfl
       · rfl
       · rfl
       intro gx wx nn
       have HBX : Hid (Blk wx gx (cb x) 28) := nn.blk
       have HBW : Hid (Below w.heap.size w wx) := nn.below
       clear nn)
    | (with_reducible refine wpSeq_boxD (.tmp 1) v ?_ ?_ ?_ ?_
       · rfl
       · rfl
       · rfl
       intro gv wv nn
       replace HBX : Hid (Blk wv gx (cb x) 28) := HBX.out.below nn.below HBX.out.lt
       have HBV : Hid (Blk wv gv (cb v) 28) := nn.blk
       replace HBW : Hid (Below w.heap.size w wv) := HBW.out.trans (nn.below.mono HBW.out.size)
       clear nn))
  replace HK : Hid (KOk wv.drew) := (HK.out.below HBW.out HK.out.lt : KOk wv)
  refine wp_region_held_drew (S := Over wv.drew) (by kernel_rfl) (Over.refl _) ?_
  intro hS
  refine wpAnyH_take (i := 0) (v := .agg (cb x).toArray) rfl (by kernel_rfl) (by kernel_rfl) (by kernel_rfl) (fun _ _ _ h => h) (Or.inl ⟨by rfl, fun wx hx => by exact loadDigest _ gx x HX.out (Over.blk hx HBX.out.drew) rfl rfl⟩) hS ?_
  simp only [Act.put, List.getElem_toArray, List.getElem_cons_zero, List.setIfInBounds_toArray, List.set_cons_zero, List.set_cons_succ]
  refine wpAnyH_take (i := 1) (v := .agg (cb v).toArray) rfl (by kernel_rfl) (by kernel_rfl) (by kernel_rfl) (fun _ _ _ h => h) (Or.inl ⟨by rfl, fun wx hx => by exact loadDigest _ gv v HV.out (Over.blk hx HBV.out.drew) rfl rfl⟩) hS ?_
  simp only [Act.put, List.getElem_toArray, List.getElem_cons_succ, List.getElem_cons_zero, List.setIfInBounds_toArray, List.set_cons_zero, List.set_cons_succ]
  refine wpAnyH_take (i := 4) (v := .agg (cb x).toArray) rfl (by kernel_rfl) (by kernel_rfl) (by kernel_rfl) (fun _ _ _ h => h) (Or.inl ⟨by rfl, fun wx hx => by exact loadDigest _ gx x HX.out (Over.blk hx HBX.out.drew) rfl rfl⟩) hS ?_
  simp only [Act.put, List.getElem_toArray, List.getElem_cons_succ, List.getElem_cons_zero, List.setIfInBounds_toArray, List.set_cons_zero, List.set_cons_succ]
  refine wpAnyH_take (i := 5) (v := .agg (cb v).toArray) rfl (by kernel_rfl) (by kernel_rfl) (by kernel_rfl) (fun _ _ _ h => h) (Or.inl ⟨by rfl, fun wx hx => by exact loadDigest _ gv v HV.out (Over.blk hx HBV.out.drew) rfl rfl⟩) hS ?_
  simp only [Act.put, List.getElem_toArray, List.getElem_cons_succ, List.getElem_cons_zero, List.setIfInBounds_toArray, List.set_cons_zero, List.set_cons_succ]
  refine wpAnyH_enter 2 (by kernel_rfl) rfl (by rfl) (f := 62) (args := #[.agg (cb x).toArray, .agg (cb v).toArray]) (by simp [go_sem]) (tLeaf_any x v HX.out HV.out _) ?_
  rintro e wy ⟨v7, rfl, hr7, hbq⟩
  refine ⟨_, rfl, hS.more hbq, ?_⟩
  replace hS := hS.more hbq
  clear hbq
  generalize HVV : v7 = vv at *
  clear HVV
  simp only [Act.put, List.getElem_toArray, List.getElem_cons_succ, List.getElem_cons_zero, List.setIfInBounds_toArray, List.set_cons_zero, List.set_cons_succ]
  refine wpAnyH_enter 3 (by kernel_rfl) rfl (by rfl) (f := 48) (args := #[vv]) (by simp [go_sem]) (tOf_any vv _ _ (HK.out.below hS.out HK.out.lt) hr7 (by have h1 := HX.out; have h2 := HV.out; simp [pairB]; omega)) ?_
  rintro e wz ⟨rfl, hbq⟩
  have HGE : Hid (w.heap.size ≤ wz.heap.size) := Nat.le_trans HBW.out.size (hS.more hbq).out.size
  refine ⟨_, rfl, hS.more hbq, ?_⟩
  replace hS := hS.more hbq
  clear hbq hr7
  rw [← HRD.out]
  simp only [Act.put, List.getElem_toArray, List.getElem_cons_succ, List.getElem_cons_zero, List.setIfInBounds_toArray, List.set_cons_zero, List.set_cons_succ]
  refine wpAnyH_take (i := 6) (v := .agg (treeV 1 r x v (.pointer none) (.pointer none)).toArray) rfl (by kernel_rfl) (by kernel_rfl) (by kernel_rfl) (fun _ _ _ h => h) (Or.inl ⟨by rfl, fun wx hx => by exact builtS _ _ (.tmp 8) (.tmp 9) (.tmp 10) rfl r x v HRL.out HX.out HV.out rfl rfl rfl rfl _⟩) hS ?_
  simp only [Act.put, List.getElem_toArray, List.getElem_cons_succ, List.getElem_cons_zero, List.setIfInBounds_toArray, List.set_cons_zero, List.set_cons_succ]
  refine wpAnyH_step 7 (.pointer (some ⟨wz.heap.size, 0, none⟩)) (wz.alloc (.cells (treeV 1 r x v (.pointer none) (.pointer none)).toArray 72)) (by kernel_rfl) rfl (by rfl) (boxTree _ _ (.tmp 11) rfl _ rfl _) (hS.more (below_alloc _ _)) ?_
  simp only [Act.put, List.getElem_toArray, List.getElem_cons_succ, List.getElem_cons_zero, List.setIfInBounds_toArray, List.set_cons_zero, List.set_cons_succ]
  replace hS := hS.more (below_alloc wz (.cells (treeV 1 r x v (.pointer none) (.pointer none)).toArray 72))
  have HBN : Hid (Blk (wz.alloc (.cells (treeV 1 r x v (.pointer none) (.pointer none)).toArray 72)) wz.heap.size (treeV 1 r x v (.pointer none) (.pointer none)) 72) := Blk.new _ _ _
  generalize wz.alloc (.cells (treeV 1 r x v (.pointer none) (.pointer none)).toArray 72) = wn at *
  refine wpAnyH_take (i := 8) (v := .pointer (some ⟨wz.heap.size, 0, none⟩)) rfl (by kernel_rfl) (by kernel_rfl) (by kernel_rfl) (fun _ _ _ h => h) (Or.inl ⟨by rfl, fun wx hx => by simp [go_sem]⟩) hS ?_
  simp only [Act.put, List.getElem_toArray, List.getElem_cons_succ, List.getElem_cons_zero, List.setIfInBounds_toArray, List.set_cons_zero, List.set_cons_succ]
  refine wpAnyH_done (by kernel_rfl) ?_ _
  go_wp2
  go_ret
  exact ⟨wz.heap.size, rfl, HGE.out, ⟨HBN.out, HRL.out, HX.out, HV.out⟩, hS.after HBW.out.drew⟩
set_option maxRecDepth 100000 in
set_option maxHeartbeats 4000000 in
theorem trJoined_any (g0 g1 n0 n1 : Nat) (r0 r1 ix0 vl0 ix1 vl1 : List (BitVec 8)) (p0 q0 p1 q1 : Value) (w : World) (hK : KOk w) (h0 : TreeC w g0 n0 r0 ix0 vl0 p0 q0) (h1 : TreeC w g1 n1 r1 ix1 vl1 p1 q1) (hn : n0 + n1 < 1000000) : Calls Tryd.prog 40 #[.pointer (some ⟨g0, 0, none⟩), .pointer (some ⟨g1, 0, none⟩)] w fun e w' => ∃ g, e = .returned (.pointer (some ⟨g, 0, none⟩)) ∧ TreeC w' g (n0 + n1) (dig (pairB 78 r0 r1)) zb32 zb32 (ptr g0) (ptr g1) ∧ Below w.heap.size w w' := by
  obtain ⟨r, HRD⟩ : ∃ r, Hid (r = dig (pairB 78 r0 r1)) := ⟨_, rfl⟩
  have HRL : Hid (r.length = 32) := by show _ = _; rw [HRD.out]; exact len_dig' _
  have HK : Hid (KOk w.drew) := hK
  have H0 : Hid (TreeC w g0 n0 r0 ix0 vl0 p0 q0) := h0
  have H1 : Hid (TreeC w g1 n1 r1 ix1 vl1 p1 q1) := h1
  have HL0 : Hid (r0.length = 32) := h0.l1
  have HL1 : Hid (r1.length = 32) := h1.l1
  have rn : IntKind.i64.wrap ((n0 : Int) + (n1 : Int)) = (n0 : Int) + (n1 : Int) := by rw [IntKind.wrap_i64]; omega
  clear hK h0 h1
  rw [← HRD.out]
  go_enter Tryd.func40, Tryd.ntmps40
  go_wp2_with fail
  refine wp_region_held_drew (S := Over w.drew) (by kernel_rfl) (Over.refl _) ?_
  intro hS
  refine wpAnyH_take (i := 0) (v := .pointer (some ⟨g0, 0, none⟩)) rfl (by kernel_rfl) (by kernel_rfl) (by kernel_rfl) (fun _ _ _ h => h) (Or.inl ⟨by rfl, fun wx hx => by simp [go_sem]⟩) hS ?_
  simp only [Act.put, List.getElem_toArray, List.getElem_cons_zero, List.setIfInBounds_toArray, List.set_cons_zero, List.set_cons_succ]
  refine wpAnyH_take (i := 1) (v := .pointer (some ⟨g0, 0, none⟩)) rfl (by kernel_rfl) (by kernel_rfl) (by kernel_rfl) (fun _ _ _ h => h) (Or.inl ⟨by rfl, fun wx hx => by simp [go_sem]⟩) hS ?_
  simp only [Act.put, List.getElem_toArray, List.getElem_cons_succ, List.getElem_cons_zero, List.setIfInBounds_toArray, List.set_cons_zero, List.set_cons_succ]
  refine wpAnyH_take (i := 2) (v := .pointer (some ⟨g0, 0, none⟩)) rfl (by kernel_rfl) (by kernel_rfl) (by kernel_rfl) (fun _ _ _ h => h) (Or.inl ⟨by rfl, fun wx hx => by simp [go_sem]⟩) hS ?_
  simp only [Act.put, List.getElem_toArray, List.getElem_cons_succ, List.getElem_cons_zero, List.setIfInBounds_toArray, List.set_cons_zero, List.set_cons_succ]
  refine wpAnyH_take (i := 3) (v := .int .i64 (n0 : Int)) rfl (by kernel_rfl) (by kernel_rfl) (by kernel_rfl) (fun _ _ _ h => h) (Or.inl ⟨by rfl, fun wx hx => by (have hc := (H0.out.drew.below hx.out H0.out.blk.lt).cnt; simp [go_sem, hc])⟩) hS ?_
  simp only [Act.put, List.getElem_toArray, List.getElem_cons_succ, List.getElem_cons_zero, List.setIfInBounds_toArray, List.set_cons_zero, List.set_cons_succ]
  refine wpAnyH_take (i := 4) (v := .pointer (some ⟨g1, 0, none⟩)) rfl (by kernel_rfl) (by kernel_rfl) (by kernel_rfl) (fun _ _ _ h => h) (Or.inl ⟨by rfl, fun wx hx => by simp [go_sem]⟩) hS ?_
  simp only [Act.put, List.getElem_toArray, List.getElem_cons_succ, List.getElem_cons_zero, List.setIfInBounds_toArray, List.set_cons_zero, List.set_cons_succ]
  refine wpAnyH_take (i := 5) (v := .pointer (some ⟨g1, 0, none⟩)) rfl (by kernel_rfl) (by kernel_rfl) (by kernel_rfl) (fun _ _ _ h => h) (Or.inl ⟨by rfl, fun wx hx => by simp [go_sem]⟩) hS ?_
  simp only [Act.put, List.getElem_toArray, List.getElem_cons_succ, List.getElem_cons_zero, List.setIfInBounds_toArray, List.set_cons_zero, List.set_cons_succ]
  refine wpAnyH_take (i := 6) (v := .pointer (some ⟨g1, 0, none⟩)) rfl (by kernel_rfl) (by kernel_rfl) (by kernel_rfl) (fun _ _ _ h => h) (Or.inl ⟨by rfl, fun wx hx => by simp [go_sem]⟩) hS ?_
  simp only [Act.put, List.getElem_toArray, List.getElem_cons_succ, List.getElem_cons_zero, List.setIfInBounds_toArray, List.set_cons_zero, List.set_cons_succ]
  refine wpAnyH_take (i := 7) (v := .int .i64 (n1 : Int)) rfl (by kernel_rfl) (by kernel_rfl) (by kernel_rfl) (fun _ _ _ h => h) (Or.inl ⟨by rfl, fun wx hx => by (have hc := (H1.out.drew.below hx.out H1.out.blk.lt).cnt; simp [go_sem, hc])⟩) hS ?_
  simp only [Act.put, List.getElem_toArray, List.getElem_cons_succ, List.getElem_cons_zero, List.setIfInBounds_toArray, List.set_cons_zero, List.set_cons_succ]
  refine wpAnyH_take (i := 8) (v := .int .i64 ((n0 + n1 : Nat) : Int)) rfl (by kernel_rfl) (by kernel_rfl) (by kernel_rfl) (fun _ _ _ h => h) (Or.inl ⟨by rfl, fun wx hx => by simp [go_sem, rn]⟩) hS ?_
  simp only [Act.put, List.getElem_toArray, List.getElem_cons_succ, List.getElem_cons_zero, List.setIfInBounds_toArray, List.set_cons_zero, List.set_cons_succ]
  refine wpAnyH_take (i := 9) (v := .pointer (some ⟨g0, 0, none⟩)) rfl (by kernel_rfl) (by kernel_rfl) (by kernel_rfl) (fun _ _ _ h => h) (Or.inl ⟨by rfl, fun wx hx => by simp [go_sem]⟩) hS ?_
  simp only [Act.put, List.getElem_toArray, List.getElem_cons_succ, List.getElem_cons_zero, List.setIfInBounds_toArray, List.set_cons_zero, List.set_cons_succ]
  refine wpAnyH_take (i := 10) (v := .pointer (some ⟨g0, 0, none⟩)) rfl (by kernel_rfl) (by kernel_rfl) (by kernel_rfl) (fun _ _ _ h => h) (Or.inl ⟨by rfl, fun wx hx => by simp [go_sem]⟩) hS ?_
  simp only [Act.put, List.getElem_toArray, List.getElem_cons_succ, List.getElem_cons_zero, List.setIfInBounds_toArray, List.set_cons_zero, List.set_cons_succ]
  refine wpAnyH_take (i := 11) (v := .pointer (some ⟨g0, 1, none⟩)) rfl (by kernel_rfl) (by kernel_rfl) (by kernel_rfl) (fun _ _ _ h => h) (Or.inl ⟨by rfl, fun wx hx => by simp [go_sem]⟩) hS ?_
  simp only [Act.put, List.getElem_toArray, List.getElem_cons_succ, List.getElem_cons_zero, List.setIfInBounds_toArray, List.set_cons_zero, List.set_cons_succ]
  refine wpAnyH_take (i := 12) (v := .agg (cb r0).toArray) rfl (by kernel_rfl) (by kernel_rfl) (by kernel_rfl) (fun _ _ _ h => h) (Or.inl ⟨by rfl, fun wx hx => by exact load_run 28 _ rfl _ _ rfl (cb r0) _ ((H0.out.drew.below hx.out H0.out.blk.lt).root) Tryd.underlying28 rfl (by rw [cb_len, HL0.out]; exact info_digest)⟩) hS ?_
  simp only [Act.put, List.getElem_toArray, List.getElem_cons_succ, List.getElem_cons_zero, List.setIfInBounds_toArray, List.set_cons_zero, List.set_cons_succ]
  refine wpAnyH_take (i := 13) (v := .pointer (some ⟨g1, 0, none⟩)) rfl (by kernel_rfl) (by kernel_rfl) (by kernel_rfl) (fun _ _ _ h => h) (Or.inl ⟨by rfl, fun wx hx => by simp [go_sem]⟩) hS ?_
  simp only [Act.put, List.getElem_toArray, List.getElem_cons_succ, List.getElem_cons_zero, List.setIfInBounds_toArray, List.set_cons_zero, List.set_cons_succ]
  refine wpAnyH_take (i := 14) (v := .pointer (some ⟨g1, 0, none⟩)) rfl (by kernel_rfl) (by kernel_rfl) (by kernel_rfl) (fun _ _ _ h => h) (Or.inl ⟨by rfl, fun wx hx => by simp [go_sem]⟩) hS ?_
  simp only [Act.put, List.getElem_toArray, List.getElem_cons_succ, List.getElem_cons_zero, List.setIfInBounds_toArray, List.set_cons_zero, List.set_cons_succ]
  refine wpAnyH_take (i := 15) (v := .pointer (some ⟨g1, 1, none⟩)) rfl (by kernel_rfl) (by kernel_rfl) (by kernel_rfl) (fun _ _ _ h => h) (Or.inl ⟨by rfl, fun wx hx => by simp [go_sem]⟩) hS ?_
  simp only [Act.put, List.getElem_toArray, List.getElem_cons_succ, List.getElem_cons_zero, List.setIfInBounds_toArray, List.set_cons_zero, List.set_cons_succ]
  refine wpAnyH_take (i := 16) (v := .agg (cb r1).toArray) rfl (by kernel_rfl) (by kernel_rfl) (by kernel_rfl) (fun _ _ _ h => h) (Or.inl ⟨by rfl, fun wx hx => by exact load_run 28 _ rfl _ _ rfl (cb r1) _ ((H1.out.drew.below hx.out H1.out.blk.lt).root) Tryd.underlying28 rfl (by rw [cb_len, HL1.out]; exact info_digest)⟩) hS ?_
  simp only [Act.put, List.getElem_toArray, List.getElem_cons_succ, List.getElem_cons_zero, List.setIfInBounds_toArray, List.set_cons_zero, List.set_cons_succ]
  refine wpAnyH_take (i := 19) (v := .pointer (some ⟨g0, 0, none⟩)) rfl (by kernel_rfl) (by kernel_rfl) (by kernel_rfl) (fun _ _ _ h => h) (Or.inl ⟨by rfl, fun wx hx => by simp [go_sem]⟩) hS ?_
  simp only [Act.put, List.getElem_toArray, List.getElem_cons_succ, List.getElem_cons_zero, List.setIfInBounds_toArray, List.set_cons_zero, List.set_cons_succ]
  refine wpAnyH_take (i := 20) (v := .pointer (some ⟨g1, 0, none⟩)) rfl (by kernel_rfl) (by kernel_rfl) (by kernel_rfl) (fun _ _ _ h => h) (Or.inl ⟨by rfl, fun wx hx => by simp [go_sem]⟩) hS ?_
  simp only [Act.put, List.getElem_toArray, List.getElem_cons_succ, List.getElem_cons_zero, List.setIfInBounds_toArray, List.set_cons_zero, List.set_cons_succ]
  refine wpAnyH_enter 17 (by kernel_rfl) rfl (by rfl) (f := 66) (args := #[.agg (cb r0).toArray, .agg (cb r1).toArray]) (by simp [go_sem]) (tNode_any r0 r1 HL0.out HL1.out _) ?_
  rintro e wy ⟨v7, rfl, hr7, hbq⟩
  refine ⟨_, rfl, hS.more hbq, ?_⟩
  replace hS := hS.more hbq
  clear hbq
  generalize HVV : v7 = vv at *
  clear HVV
  simp only [Act.put, List.getElem_toArray, List.getElem_cons_succ, List.getElem_cons_zero, List.setIfInBounds_toArray, List.set_cons_zero, List.set_cons_succ]
  refine wpAnyH_enter 18 (by kernel_rfl) rfl (by rfl) (f := 48) (args := #[vv]) (by simp [go_sem]) (tOf_any vv _ _ (HK.out.below hS.out HK.out.lt) hr7 (by have h1 := HL0.out; have h2 := HL1.out; simp [pairB]; omega)) ?_
  rintro e wz ⟨rfl, hbq⟩
  refine ⟨_, rfl, hS.more hbq, ?_⟩
  replace hS := hS.more hbq
  clear hbq hr7
  rw [← HRD.out]
  simp only [Act.put, List.getElem_toArray, List.getElem_cons_succ, List.getElem_cons_zero, List.setIfInBounds_toArray, List.set_cons_zero, List.set_cons_succ]
  refine wpAnyH_take (i := 21) (v := .agg (treeV (n0 + n1) r zb32 zb32 (ptr g0) (ptr g1)).toArray) rfl (by kernel_rfl) (by kernel_rfl) (by kernel_rfl) (fun _ _ _ h => h) (Or.inl ⟨by rfl, fun wx hx => by exact builtJ _ _ (.tmp 13) (.tmp 23) (.tmp 24) (.tmp 25) rfl (n0 + n1) g0 g1 r HRL.out rfl rfl rfl rfl _⟩) hS ?_
  simp only [Act.put, List.getElem_toArray, List.getElem_cons_succ, List.getElem_cons_zero, List.setIfInBounds_toArray, List.set_cons_zero, List.set_cons_succ]
  refine wpAnyH_step 22 (.pointer (some ⟨wz.heap.size, 0, none⟩)) (wz.alloc (.cells (treeV (n0 + n1) r zb32 zb32 (ptr g0) (ptr g1)).toArray 72)) (by kernel_rfl) rfl (by rfl) (boxTree _ _ (.tmp 26) rfl _ rfl _) (hS.more (below_alloc _ _)) ?_
  simp only [Act.put, List.getElem_toArray, List.getElem_cons_succ, List.getElem_cons_zero, List.setIfInBounds_toArray, List.set_cons_zero, List.set_cons_succ]
  replace hS := hS.more (below_alloc wz (.cells (treeV (n0 + n1) r zb32 zb32 (ptr g0) (ptr g1)).toArray 72))
  have HBN : Hid (Blk (wz.alloc (.cells (treeV (n0 + n1) r zb32 zb32 (ptr g0) (ptr g1)).toArray 72)) wz.heap.size (treeV (n0 + n1) r zb32 zb32 (ptr g0) (ptr g1)) 72) := Blk.new _ _ _
  generalize wz.alloc (.cells (treeV (n0 + n1) r zb32 zb32 (ptr g0) (ptr g1)).toArray 72) = wn at *
  refine wpAnyH_take (i := 23) (v := .pointer (some ⟨wz.heap.size, 0, none⟩)) rfl (by kernel_rfl) (by kernel_rfl) (by kernel_rfl) (fun _ _ _ h => h) (Or.inl ⟨by rfl, fun wx hx => by simp [go_sem]⟩) hS ?_
  simp only [Act.put, List.getElem_toArray, List.getElem_cons_succ, List.getElem_cons_zero, List.setIfInBounds_toArray, List.set_cons_zero, List.set_cons_succ]
  refine wpAnyH_done (by kernel_rfl) ?_ _
  go_wp2
  go_ret
  exact ⟨wz.heap.size, rfl, ⟨HBN.out, HRL.out, rfl, rfl⟩, hS.after (Below.refl _ w).drew⟩
end Go.Proofs.YtphmmnffgknkcaaDoor
/- The walks of tree's Root, sides and Get. -/
namespace Go.Proofs.YtphmmnffgknkcaaDoor
open Go.RowKit
set_option maxRecDepth 100000
theorem RETD {w w' W9 : World} {gr : Nat} {r : List (BitVec 8)} (h9 : SetB r w' gr W9) (hg : w.heap.size ≤ gr) (hb : Below w.heap.size w w') : Below w.heap.size w W9 := hb.trans (h9.only.below hg hb.size)
set_option maxRecDepth 100000 in
set_option maxHeartbeats 2000000 in
theorem trRoot_any (w : World) (d g : Nat) (l : List Lf) (hK : KOk w) (h : TreeIs w d g l) (hF : Fits l d) : Calls Tryd.prog 20 #[.pointer (some ⟨g, 0, none⟩)] w fun e w' => e = .returned (.agg (cb (rootL l d)).toArray) ∧ Below w.heap.size w w' := by
  obtain ⟨r, HRD⟩ : ∃ r, Hid (r = rootL l d) := ⟨_, rfl⟩
  have HRL : Hid (r.length = 32) := by show _ = _; rw [HRD.out]; exact rootL_len hF
  obtain ⟨ix, vl, p, q, hc⟩ := h.cells
  rw [← HRD.out] at hc ⊢
  have HC : Hid (TreeC w g l.length r ix vl p q) := hc
  have HK : Hid (KOk w) := hK
  obtain ⟨n, HN⟩ : ∃ n, Hid (n = l.length) := ⟨_, rfl⟩
  rw [← HN.out] at HC
  have HE : Hid (n = 0 → r = dig [69]) := fun e => by
    have : l = [] := List.length_eq_zero_iff.1 (by rw [← HN.out, e])
    rw [HRD.out, this, rootL_nil]
  clear h hF hc hK
  go_enter Tryd.func20, Tryd.ntmps20
  go_upto_region 1 with (first
    | (with_reducible refine wpSeq_allocD ?_ ?_ ?_
       · rfl
       · rfl
       intro gr wa nn
       have HGR : Hid (w.heap.size ≤ gr) := nn.ge
       have HB : Hid (Blk wa gr (cb zb32) 28) := nn.blk
       have HBW : Hid (Below w.heap.size w wa) := nn.below
       replace HC : Hid (TreeC wa g n r ix vl p q) := HC.out.next nn.below
       replace HK : Hid (KOk wa) := HK.out.below nn.below HK.out.lt
       clear nn))
  have c0 := HC.out.cnt
  by_cases hz : n = 0
  · subst hz
    have HRE := HE.out rfl
    clear HE
    go_wp2_with (first
      | (go_at_call 36; refine (trEmpty_any _ HK.out).mono ?_; rintro e wb ⟨ge, rfl, hce, hb⟩
         rw [← HRE] at hce
         have HCE : Hid (TreeC wb ge 0 r zb32 zb32 (.pointer none) (.pointer none)) := hce
         replace HB : Hid (Blk wb gr (cb zb32) 28) := HB.out.below hb HB.out.lt
         replace HBW : Hid (Below w.heap.size w wb) := HBW.out.trans (hb.mono HBW.out.size)
         clear hce hb c0 HRE)
      | (with_reducible refine wpSeq_loadAt (.tmp 10) ge 1 r ?_ ?_ ?_ ?_ ?_ ?_
         · exact HRL.out
         · exact HCE.out.root
         · with_reducible rfl
         · rfl
         · rfl)
      | (with_reducible refine wpSeq_storeD (.tmp 2) (.tmp 11) gr zb32 r ?_ ?_ ?_ ?_ ?_ ?_ ?_ ?_
         · rfl
         · exact HRL.out
         · exact HB.out
         · rfl
         · rfl
         · rfl
         · rfl
         intro W9 h9))
    exact bodyPost_ret (v := .agg (cb r).toArray) (results_cell_row (by rfl) _ _ gr 28 _ (0, 0) _ rfl h9.blk Tryd.underlying28 rfl (by rw [List.size_toArray, cb_len, HRL.out]; exact info_digest)) rfl ⟨rfl, RETD h9 HGR.out HBW.out⟩
  · have hz' : ¬ ((n : Int) = 0) := by omega
    have hz2 : ((n : Int) == 0) = false := by rw [beq_eq_false_iff_ne]; exact hz'
    clear HE HK
    go_wp2_with (first
      | (with_reducible refine wpSeq_loadAt (.tmp 14) g 1 r ?_ ?_ ?_ ?_ ?_ ?_
         · exact HRL.out
         · exact HC.out.root
         · with_reducible rfl
         · rfl
         · rfl)
      | (with_reducible refine wpSeq_storeD (.tmp 2) (.tmp 15) gr zb32 r ?_ ?_ ?_ ?_ ?_ ?_ ?_ ?_
         · rfl
         · exact HRL.out
         · exact HB.out
         · rfl
         · rfl
         · rfl
         · rfl
         intro W9 h9))
    exact bodyPost_ret (v := .agg (cb r).toArray) (results_cell_row (by rfl) _ _ gr 28 _ (0, 0) _ rfl h9.blk Tryd.underlying28 rfl (by rw [List.size_toArray, cb_len, HRL.out]; exact info_digest)) rfl ⟨rfl, RETD h9 HGR.out HBW.out⟩
/-- where Get stands -/
structure Gt (w : World) (x : List (BitVec 8)) (gx gr : Nat) (l0 : List Lf) (d g : Nat) (l : List Lf) (W : World) : Prop where
  le : d ≤ 256
  tree : TreeIs W d g l
  fit : Fits l d
  eq : getL l x = getL l0 x
  xb : Blk W gx (cb x) 28
  rb : Blk W gr (cb zb32) 28
  ge : w.heap.size ≤ gr
  bel : Below w.heap.size w W
theorem Gt.next {w W W' : World} {x : List (BitVec 8)} {gx gr d g : Nat} {l0 l : List Lf} (h : Gt w x gx gr l0 d g l W) (hb : Below W.heap.size W W') : Gt w x gx gr l0 d g l W' :=
  ⟨h.le, h.tree.next hb, h.fit, h.eq, h.xb.below hb h.xb.lt, h.rb.below hb h.rb.lt, h.ge, h.bel.trans (hb.mono h.bel.size)⟩
theorem Gt.down {w W : World} {x : List (BitVec 8)} {gx gr d g g2 : Nat} {l0 l : List Lf} (h : Gt w x gx gr l0 d g l W) (h2 : 2 ≤ l.length) (ht : TreeIs W (d + 1) g2 (halfL l d (bt x d))) : Gt w x gx gr l0 (d + 1) g2 (halfL l d (bt x d)) W :=
  ⟨h.fit.lt h2, ht, h.fit.half _, by rw [getL_half, h.eq], h.xb, h.rb, h.ge, h.bel⟩
/-- a tree of two leaves or more -/
theorem TreeIs.two {W : World} {d g : Nat} {l : List Lf} (h : TreeIs W d g l) (h2 : 2 ≤ l.length) : ∃ g0 g1, TreeIs W (d + 1) g0 (halfL l d false) ∧ TreeIs W (d + 1) g1 (halfL l d true) ∧ TreeC W g l.length (rootL l d) zb32 zb32 (ptr g0) (ptr g1) := by
  cases h with
  | none _ _ _ => simp at h2
  | leaf _ _ _ _ _ => simp at h2
  | node _ _ g0 g1 _ _ _ h0 h1 hc => exact ⟨g0, g1, h0, h1, hc⟩
theorem TreeIs.one {W : World} {d g : Nat} {p : Lf} (h : TreeIs W d g [p]) : TreeC W g 1 (dig (pairB 76 p.1 p.2)) p.1 p.2 (.pointer Option.none) (.pointer Option.none) := by
  cases h with
  | leaf _ _ x v hc => exact hc
  | node _ _ g0 g1 _ h2 => simp at h2
theorem TreeIs.nil {W : World} {d g : Nat} (h : TreeIs W d g []) : TreeC W g 0 (dig [69]) zb32 zb32 (.pointer Option.none) (.pointer Option.none) := by
  cases h with
  | none _ _ hc => exact hc
  | node _ _ g0 g1 _ h2 => simp at h2
end Go.Proofs.YtphmmnffgknkcaaDoor
/- tree's each, and the function that All hands out: it yields all leaves, in order. -/
namespace Go.Proofs.YtphmmnffgknkcaaDoor
open Go.RowKit Go.Shelf
set_option maxRecDepth 100000
attribute [local go_sem] Oper.semAt_some
abbrev encsL (p : Lf) : Array Value := #[.agg (cb p.1).toArray, .agg (cb p.2).toArray]
theorem roundIn_wide {m k : Nat} {P : Program} {l : Nat} {f : FuncId} {tmps : Array Value} {assign body : Code} {w : World} {R : Ending → World → Prop} (h : RoundIn Fence.wide m P l f tmps assign body w R) : RoundIn Fence.wide k P l f tmps assign body w R :=
  ⟨h.1, fun c cs _ => h.2 c cs (room_wide _)⟩
theorem grownBy_drew (w : World) : w.grownBy w.drew none := ⟨rfl, rfl, rfl, Nat.le_refl _, fun _ _ _ => rfl⟩
section
variable {n : Nat} {P : Program} {ops : Array Oper} {Q : Exit → Act → World → Prop}
theorem wpOpIn_val {i : Nat} {o : Oper} {v : Value} {a : Act} {w w' : World} {K : Act → World → Prop} (hi : ops[i]? = some o) (hw : Region.wanted o (yielded ops a.tmps) = true) (he : (execOp a.eval o).run P w = .ok (.value v) w') (h : K (a.put o.dst v) w') : wpOpIn Fence.wide n P ops Q i K a w := by
  unfold wpOpIn
  simp only [hi, hw, if_true]
  refine ⟨fun _ _ => trivial, ?_⟩
  show Oper.uponIn _ _ _ _ _ _ _ ((execOp a.eval o).run P w)
  rw [he]
  exact h
theorem wpOpIn_round {i : Nat} {o : Oper} {l : Nat} {fn : FuncId} {tmps : Array Value} {assign body : Code} {a : Act} {w : World} {K : Act → World → Prop} {R : Ending → World → Prop} {m : Nat} (hi : ops[i]? = some o) (hw : Region.wanted o (yielded ops a.tmps) = true) (he : (execOp a.eval o).run P w = .ok (.round l fn tmps assign body) w) (hR : RoundIn Fence.wide m P l fn tmps assign body w R) (h : ∀ e w', R e w' → ∃ v, e = .returned v ∧ K (a.put o.dst v) w') : wpOpIn Fence.wide n P ops Q i K a w := by
  unfold wpOpIn
  simp only [hi, hw, if_true]
  refine ⟨fun _ _ => trivial, ?_⟩
  show Oper.uponIn _ _ _ _ _ _ _ ((execOp a.eval o).run P w)
  rw [he, Oper.uponIn_round]
  refine ⟨fun h => (by cases h), (roundIn_wide hR).mono fun e w' hr => ?_⟩
  obtain ⟨v, rfl, hk⟩ := h e w' hr
  exact hk
theorem wpAnyIn_pairs {md : Region.Mode} {fuel : Nat} {listed : Array Bool} {a : Act} {w : World} (i j : Nat) (hr : Region.ready md ops listed = [i, j]) (h1 : wpOpIn Fence.wide n P ops Q i (wpAnyIn Fence.wide n P md ops Q fuel (listed.setIfInBounds i true)) a w) (h2 : wpOpIn Fence.wide n P ops Q j (wpAnyIn Fence.wide n P md ops Q fuel (listed.setIfInBounds j true)) a w) : wpAnyIn Fence.wide n P md ops Q (fuel + 1) listed a w := by
  refine wpAnyIn_all hr (by simp) fun k hk => ?_
  simp only [List.mem_cons, List.not_mem_nil, or_false] at hk
  rcases hk with rfl | rfl
  · exact h1
  · exact h2
theorem wpAnyIn_lone {md : Region.Mode} {fuel : Nat} {listed : Array Bool} {a : Act} {w : World} (i : Nat) (hr : Region.ready md ops listed = [i]) (h1 : wpOpIn Fence.wide n P ops Q i (wpAnyIn Fence.wide n P md ops Q fuel (listed.setIfInBounds i true)) a w) : wpAnyIn Fence.wide n P md ops Q (fuel + 1) listed a w := by
  refine wpAnyIn_all hr (by simp) fun k hk => ?_
  simp only [List.mem_singleton] at hk
  rw [hk]; exact h1
end
/-- what a walk over leaves does, to whom they are yielded -/
def EachDoes (v0 : World) (n₀ lab : Nat) (J Jx : List Lf → World → Prop) (g : Nat) (l pre : List Lf) (W : World) : Prop :=
  Calls Tryd.prog 72 #[.pointer (some ⟨g, 0, none⟩), .func (.yield lab) #[] #[]] W fun e W' => (e = .returned (.bool true) ∧ J (pre ++ l) W' ∧ Below n₀ v0 W') ∨ (e = .returned (.bool false) ∧ ∃ k, k < l.length ∧ Jx (pre ++ l.take (k + 1)) W')
theorem each_none {v0 : World} {n₀ lab : Nat} {J Jx : List Lf → World → Prop} {g : Nat} {pre : List Lf} {W : World} (hc : TreeC W g 0 (dig [69]) zb32 zb32 (.pointer none) (.pointer none)) (hb : Below n₀ v0 W) (h : J pre W) : EachDoes v0 n₀ lab J Jx g [] pre W := by
  unfold EachDoes
  have c0 := hc.cnt
  have HJ : Hid (J (pre ++ []) W) := by rw [List.append_nil]; exact h
  have HB : Hid (Below n₀ v0 W) := hb
  clear hc h hb
  go_enter Tryd.func72, Tryd.ntmps72
  go_wp2
  go_ret
  exact Or.inl ⟨rfl, HJ.out, HB.out⟩
set_option maxRecDepth 100000 in
set_option maxHeartbeats 2000000 in
theorem each_leaf {v0 : World} {n₀ lab m : Nat} {J Jx : List Lf → World → Prop} {g : Nat} {x v : List (BitVec 8)} {pre : List Lf} {W : World} (hc : TreeC W g 1 (dig (pairB 76 x v)) x v (.pointer none) (.pointer none)) (hb : Below n₀ v0 W)
    (hy : YieldAt Fence.wide m Tryd.prog lab (encsL (x, v)) W.drew fun e W' => (e = .returned (.bool true) ∧ J (pre ++ [(x, v)]) W' ∧ Below n₀ W.drew W') ∨ (e = .returned (.bool false) ∧ Jx (pre ++ [(x, v)]) W')) : EachDoes v0 n₀ lab J Jx g [(x, v)] pre W := by
  unfold EachDoes
  have c0 := hc.cnt
  have HX : Hid (W.drew.rangeAt g 33 (cb x)) := hc.index
  have HV : Hid (W.drew.rangeAt g 65 (cb v)) := hc.value
  have HL2 : Hid (x.length = 32) := hc.l2
  have HL3 : Hid (v.length = 32) := hc.l3
  have HB : Hid (∀ W', Below n₀ W.drew W' → Below n₀ v0 W') := fun W' h => hb.trans ⟨h.os, h.tape, h.output, h.size, h.block⟩
  obtain ⟨fn, tmps, assign, body, hyr, hR⟩ := hy
  dsimp only [encsL] at hyr
  clear hc hb
  go_enter Tryd.func72, Tryd.ntmps72
  go_upto_region 5 with fail
  clear c0
  refine (wpIn_wide (n := 5)).1 ?_
  refine wpIn_region_any (by kernel_rfl) ?_
  change wpAnyIn _ _ _ _ _ _ _ _ _ (World.drew W)
  refine wpAnyIn_take (i := 0) (v := .func (.yield lab) #[] #[]) rfl rfl (by kernel_rfl) (by kernel_rfl) (by kernel_rfl) (fun _ _ _ h => h) ⟨Or.inl ⟨by rfl, fun wx => by simp [go_sem]⟩, fun _ => rfl⟩ ?_
  simp only [Act.put, List.getElem_toArray, List.getElem_cons_zero, List.setIfInBounds_toArray, List.set_cons_zero, List.set_cons_succ]
  refine wpAnyIn_take (i := 1) (v := .pointer (some ⟨g, 0, none⟩)) rfl rfl (by kernel_rfl) (by kernel_rfl) (by kernel_rfl) (fun _ _ _ h => h) ⟨Or.inl ⟨by rfl, fun wx => by simp [go_sem]⟩, fun _ => rfl⟩ ?_
  simp only [Act.put, List.getElem_toArray, List.getElem_cons_succ, List.getElem_cons_zero, List.setIfInBounds_toArray, List.set_cons_zero, List.set_cons_succ]
  refine wpAnyIn_take (i := 2) (v := .pointer (some ⟨g, 0, none⟩)) rfl rfl (by kernel_rfl) (by kernel_rfl) (by kernel_rfl) (fun _ _ _ h => h) ⟨Or.inl ⟨by rfl, fun wx => by simp [go_sem]⟩, fun _ => rfl⟩ ?_
  simp only [Act.put, List.getElem_toArray, List.getElem_cons_succ, List.getElem_cons_zero, List.setIfInBounds_toArray, List.set_cons_zero, List.set_cons_succ]
  refine wpAnyIn_take (i := 3) (v := .pointer (some ⟨g, 33, none⟩)) rfl rfl (by kernel_rfl) (by kernel_rfl) (by kernel_rfl) (fun _ _ _ h => h) ⟨Or.inl ⟨by rfl, fun wx => by simp [go_sem]⟩, fun _ => rfl⟩ ?_
  simp only [Act.put, List.getElem_toArray, List.getElem_cons_succ, List.getElem_cons_zero, List.setIfInBounds_toArray, List.set_cons_zero, List.set_cons_succ]
  refine wpAnyIn_take (i := 5) (v := .pointer (some ⟨g, 0, none⟩)) rfl rfl (by kernel_rfl) (by kernel_rfl) (by kernel_rfl) (fun _ _ _ h => h) ⟨Or.inl ⟨by rfl, fun wx => by simp [go_sem]⟩, fun _ => rfl⟩ ?_
  simp only [Act.put, List.getElem_toArray, List.getElem_cons_succ, List.getElem_cons_zero, List.setIfInBounds_toArray, List.set_cons_zero, List.set_cons_succ]
  refine wpAnyIn_take (i := 6) (v := .pointer (some ⟨g, 0, none⟩)) rfl rfl (by kernel_rfl) (by kernel_rfl) (by kernel_rfl) (fun _ _ _ h => h) ⟨Or.inl ⟨by rfl, fun wx => by simp [go_sem]⟩, fun _ => rfl⟩ ?_
  simp only [Act.put, List.getElem_toArray, List.getElem_cons_succ, List.getElem_cons_zero, List.setIfInBounds_toArray, List.set_cons_zero, List.set_cons_succ]
  refine wpAnyIn_take (i := 7) (v := .pointer (some ⟨g, 65, none⟩)) rfl rfl (by kernel_rfl) (by kernel_rfl) (by kernel_rfl) (fun _ _ _ h => h) ⟨Or.inl ⟨by rfl, fun wx => by simp [go_sem]⟩, fun _ => rfl⟩ ?_
  simp only [Act.put, List.getElem_toArray, List.getElem_cons_succ, List.getElem_cons_zero, List.setIfInBounds_toArray, List.set_cons_zero, List.set_cons_succ]
  refine wpAnyIn_pairs 4 8 (by kernel_rfl) ?_ ?_
  · skip
    refine wpOpIn_val (v := .agg (cb x).toArray) (w' := W.drew) rfl (by rfl) (load_run 28 _ rfl _ _ rfl (cb x) _ HX.out Tryd.underlying28 rfl (by rw [cb_len, HL2.out]; exact info_digest)) ?_
    simp only [Act.put, List.getElem_toArray, List.getElem_cons_succ, List.getElem_cons_zero, List.setIfInBounds_toArray, List.set_cons_zero, List.set_cons_succ]
    refine wpAnyIn_lone 8 (by kernel_rfl) ?_
    refine wpOpIn_val (v := .agg (cb v).toArray) (w' := W.drew) rfl (by rfl) (load_run 28 _ rfl _ _ rfl (cb v) _ HV.out Tryd.underlying28 rfl (by rw [cb_len, HL3.out]; exact info_digest)) ?_
    simp only [Act.put, List.getElem_toArray, List.getElem_cons_succ, List.getElem_cons_zero, List.setIfInBounds_toArray, List.set_cons_zero, List.set_cons_succ]
    refine wpAnyIn_lone 9 (by kernel_rfl) ?_
    refine wpOpIn_round rfl (by rfl) (by simp [go_sem, hyr]) hR ?_
    rintro e W' (⟨rfl, hj, hbb⟩ | ⟨rfl, hj⟩)
    · refine ⟨_, rfl, ?_⟩
      simp only [Act.put, List.getElem_toArray, List.getElem_cons_succ, List.getElem_cons_zero, List.setIfInBounds_toArray, List.set_cons_zero, List.set_cons_succ]
      refine wpAnyIn_lone 10 (by kernel_rfl) ?_
      refine wpOpIn_val (v := .bool true) (w' := W') rfl (by rfl) (by simp [go_sem]) ?_
      simp only [Act.put, List.getElem_toArray, List.getElem_cons_succ, List.getElem_cons_zero, List.setIfInBounds_toArray, List.set_cons_zero, List.set_cons_succ]
      refine wpAnyIn_done (by kernel_rfl) ?_ _
      have HJ : Hid (J (pre ++ [(x, v)]) W') := hj
      have HB2 : Hid (Below n₀ v0 W') := HB.out W' hbb
      clear hj hbb hyr hR
      go_wp2
      go_ret
      exact Or.inl ⟨rfl, HJ.out, HB2.out⟩
    · refine ⟨_, rfl, ?_⟩
      simp only [Act.put, List.getElem_toArray, List.getElem_cons_succ, List.getElem_cons_zero, List.setIfInBounds_toArray, List.set_cons_zero, List.set_cons_succ]
      refine wpAnyIn_lone 10 (by kernel_rfl) ?_
      refine wpOpIn_val (v := .bool false) (w' := W') rfl (by rfl) (by simp [go_sem]) ?_
      simp only [Act.put, List.getElem_toArray, List.getElem_cons_succ, List.getElem_cons_zero, List.setIfInBounds_toArray, List.set_cons_zero, List.set_cons_succ]
      refine wpAnyIn_done (by kernel_rfl) ?_ _
      have HJ : Hid (Jx (pre ++ [(x, v)]) W') := hj
      clear hj hyr hR
      go_wp2
      go_ret
      exact Or.inr ⟨rfl, 0, by simp, HJ.out⟩
  · skip
    refine wpOpIn_val (v := .agg (cb v).toArray) (w' := W.drew) rfl (by rfl) (load_run 28 _ rfl _ _ rfl (cb v) _ HV.out Tryd.underlying28 rfl (by rw [cb_len, HL3.out]; exact info_digest)) ?_
    simp only [Act.put, List.getElem_toArray, List.getElem_cons_succ, List.getElem_cons_zero, List.setIfInBounds_toArray, List.set_cons_zero, List.set_cons_succ]
    refine wpAnyIn_lone 4 (by kernel_rfl) ?_
    refine wpOpIn_val (v := .agg (cb x).toArray) (w' := W.drew) rfl (by rfl) (load_run 28 _ rfl _ _ rfl (cb x) _ HX.out Tryd.underlying28 rfl (by rw [cb_len, HL2.out]; exact info_digest)) ?_
    simp only [Act.put, List.getElem_toArray, List.getElem_cons_succ, List.getElem_cons_zero, List.setIfInBounds_toArray, List.set_cons_zero, List.set_cons_succ]
    refine wpAnyIn_lone 9 (by kernel_rfl) ?_
    refine wpOpIn_round rfl (by rfl) (by simp [go_sem, hyr]) hR ?_
    rintro e W' (⟨rfl, hj, hbb⟩ | ⟨rfl, hj⟩)
    · refine ⟨_, rfl, ?_⟩
      simp only [Act.put, List.getElem_toArray, List.getElem_cons_succ, List.getElem_cons_zero, List.setIfInBounds_toArray, List.set_cons_zero, List.set_cons_succ]
      refine wpAnyIn_lone 10 (by kernel_rfl) ?_
      refine wpOpIn_val (v := .bool true) (w' := W') rfl (by rfl) (by simp [go_sem]) ?_
      simp only [Act.put, List.getElem_toArray, List.getElem_cons_succ, List.getElem_cons_zero, List.setIfInBounds_toArray, List.set_cons_zero, List.set_cons_succ]
      refine wpAnyIn_done (by kernel_rfl) ?_ _
      have HJ : Hid (J (pre ++ [(x, v)]) W') := hj
      have HB2 : Hid (Below n₀ v0 W') := HB.out W' hbb
      clear hj hbb hyr hR
      go_wp2
      go_ret
      exact Or.inl ⟨rfl, HJ.out, HB2.out⟩
    · refine ⟨_, rfl, ?_⟩
      simp only [Act.put, List.getElem_toArray, List.getElem_cons_succ, List.getElem_cons_zero, List.setIfInBounds_toArray, List.set_cons_zero, List.set_cons_succ]
      refine wpAnyIn_lone 10 (by kernel_rfl) ?_
      refine wpOpIn_val (v := .bool false) (w' := W') rfl (by rfl) (by simp [go_sem]) ?_
      simp only [Act.put, List.getElem_toArray, List.getElem_cons_succ, List.getElem_cons_zero, List.setIfInBounds_toArray, List.set_cons_zero, List.set_cons_succ]
      refine wpAnyIn_done (by kernel_rfl) ?_ _
      have HJ : Hid (Jx (pre ++ [(x, v)]) W') := hj
      clear hj hyr hR
      go_wp2
      go_ret
      exact Or.inr ⟨rfl, 0, by simp, HJ.out⟩
set_option maxRecDepth 100000 in
set_option maxHeartbeats 2000000 in
theorem each_node {v0 : World} {n₀ lab : Nat} {J Jx : List Lf → World → Prop} {g g0 g1 c : Nat} {rt : List (BitVec 8)} {A B pre : List Lf} {W : World} (hc : ∀ W', Below n₀ v0 W' → TreeC W' g c rt zb32 zb32 (ptr g0) (ptr g1)) (hb : Below n₀ v0 W) (h2 : 2 ≤ c)
    (h0 : EachDoes v0 n₀ lab J Jx g0 A pre W) (h1 : ∀ W', J (pre ++ A) W' → Below n₀ v0 W' → EachDoes v0 n₀ lab J Jx g1 B (pre ++ A) W') : EachDoes v0 n₀ lab J Jx g (A ++ B) pre W := by
  unfold EachDoes at *
  have HC : Hid (∀ W', Below n₀ v0 W' → TreeC W' g c rt zb32 zb32 (ptr g0) (ptr g1)) := hc
  have H0 : Hid (Calls Tryd.prog 72 #[.pointer (some ⟨g0, 0, none⟩), .func (.yield lab) #[] #[]] W fun e W' => (e = .returned (.bool true) ∧ J (pre ++ A) W' ∧ Below n₀ v0 W') ∨ (e = .returned (.bool false) ∧ ∃ k, k < A.length ∧ Jx (pre ++ A.take (k + 1)) W')) := h0
  have H1 : Hid (∀ W', J (pre ++ A) W' → Below n₀ v0 W' → Calls Tryd.prog 72 #[.pointer (some ⟨g1, 0, none⟩), .func (.yield lab) #[] #[]] W' fun e W'' => (e = .returned (.bool true) ∧ J (pre ++ A ++ B) W'' ∧ Below n₀ v0 W'') ∨ (e = .returned (.bool false) ∧ ∃ k, k < B.length ∧ Jx (pre ++ A ++ B.take (k + 1)) W'')) := h1
  have c0 : W.cell? ⟨g, 0, none⟩ = some (.int .i64 (c : Int)) := (hc W hb).cnt
  have c97 : W.cell? ⟨g, 97, none⟩ = some (.pointer (some ⟨g0, 0, none⟩)) := (hc W hb).off
  have z0 : ¬ ((c : Int) = 0) := by omega
  have z0' : ((c : Int) == 0) = false := by rw [beq_eq_false_iff_ne]; omega
  have z1 : ¬ ((c : Int) = 1) := by omega
  have z1' : ((c : Int) == 1) = false := by rw [beq_eq_false_iff_ne]; omega
  clear hc hb h0 h1
  go_enter Tryd.func72, Tryd.ntmps72
  go_wp2_with fail
  refine H0.out.mono ?_
  clear H0 c0 c97 z0 z0' z1 z1'
  rintro e W1 (⟨rfl, hj, hbb⟩ | ⟨rfl, k, hk, hj⟩)
  · have HA : Hid (Calls Tryd.prog 72 #[.pointer (some ⟨g1, 0, none⟩), .func (.yield lab) #[] #[]] W1 fun e W'' => (e = .returned (.bool true) ∧ J (pre ++ A ++ B) W'' ∧ Below n₀ v0 W'') ∨ (e = .returned (.bool false) ∧ ∃ k, k < B.length ∧ Jx (pre ++ A ++ B.take (k + 1)) W'')) := H1.out W1 hj hbb
    have c98 : W1.cell? ⟨g, 98, none⟩ = some (.pointer (some ⟨g1, 0, none⟩)) := (HC.out W1 hbb).on
    clear hj hbb H1 HC
    go_wp2_with fail
    refine HA.out.mono ?_
    clear HA c98
    rintro e W2 (⟨rfl, hj, hbb⟩ | ⟨rfl, k, hk, hj⟩)
    · have HJ : Hid (J (pre ++ (A ++ B)) W2) := by rw [← List.append_assoc]; exact hj
      have HB : Hid (Below n₀ v0 W2) := hbb
      clear hj hbb
      go_wp2
      go_ret
      exact Or.inl ⟨rfl, HJ.out, HB.out⟩
    · have HJ : Hid (∃ k, k < (A ++ B).length ∧ Jx (pre ++ (A ++ B).take (k + 1)) W2) := by
        refine ⟨A.length + k, by rw [List.length_append]; omega, ?_⟩
        rw [show A.length + k + 1 = A.length + (k + 1) by omega, List.take_length_add_append, ← List.append_assoc]
        exact hj
      clear hj hk
      go_wp2
      go_ret
      exact Or.inr ⟨rfl, HJ.out⟩
  · have HJ : Hid (∃ k, k < (A ++ B).length ∧ Jx (pre ++ (A ++ B).take (k + 1)) W1) := by
      refine ⟨k, by rw [List.length_append]; omega, ?_⟩
      rw [List.take_append_of_le_length (by omega)]
      exact hj
    clear hj hk H1 HC
    go_wp2
    go_ret
    exact Or.inr ⟨rfl, HJ.out⟩
theorem each_any {v0 : World} {n₀ lab m N B : Nat} {J Jx : List Lf → World → Prop} (hz : v0.heap.size = n₀) (hJ : AbidesFrom B J)
    (hY : ∀ pre x W1, x.1.length = 32 ∧ x.2.length = 32 → J pre W1 → pre.length < N → YieldAt Fence.wide m Tryd.prog lab (encsL x) W1 fun e W' => (e = .returned (.bool true) ∧ J (pre ++ [x]) W' ∧ Below n₀ W1 W') ∨ (e = .returned (.bool false) ∧ Jx (pre ++ [x]) W')) {d g : Nat} {l : List Lf} (h : TreeIs v0 d g l) :
    ∀ (pre : List Lf) (W : World), Below n₀ v0 W → J pre W → pre.length + l.length ≤ N → EachDoes v0 n₀ lab J Jx g l pre W := by
  induction h with
  | none d g hc => exact fun pre W hb hj _ => each_none (hc.below hb (by rw [← hz]; exact hc.blk.lt)) hb hj
  | leaf d g x v hc => exact fun pre W hb hj hl => each_leaf (hc.below hb (by rw [← hz]; exact hc.blk.lt)) hb (hY pre (x, v) W.drew ⟨hc.l2, hc.l3⟩ (hJ _ _ _ none hj (grownBy_drew W) (fun r e => by cases e)) (by simp at hl; omega))
  | node d g g0 g1 l h2 hf _ _ hc i0 i1 =>
    intro pre W hb hj hl
    have ho := half_order hf
    have hlen := half_len hf
    rw [ho]
    refine each_node (fun W' hb' => hc.below hb' (by rw [← hz]; exact hc.blk.lt)) hb h2 (i0 pre W hb hj (by omega)) fun W' hj' hb' => i1 _ W' hb' hj' (by rw [List.length_append]; omega)
theorem trAll_any (w : World) (g : Nat) : Calls Tryd.prog 51 #[.pointer (some ⟨g, 0, none⟩)] w fun e w' => ∃ gb, e = .returned (.func (.func 71) #[] #[.pointer (some ⟨gb, 0, none⟩)]) ∧ Blk w' gb [ptr g] 25 ∧ Below w.heap.size w w' := by
  go_enter Tryd.func51, Tryd.ntmps51
  go_wp2
  go_ret
  exact ⟨_, rfl, Blk.new w [ptr g] _, below_alloc w _⟩
/-- a leaf: an index and a value, two digests -/
abbrev Lf32 : Type := { p : Lf // p.1.length = 32 ∧ p.2.length = 32 }
abbrev encs32 (p : Lf32) : Array Value := encsL p.1
set_option maxRecDepth 100000 in
set_option maxHeartbeats 2000000 in
theorem all_stops (n : Nat) {v0 : World} {n₀ g gb : Nat} {l : List Lf} (hz : v0.heap.size = n₀) (hT : TreeIs v0 0 g l) (w : World) (hw : Below n₀ v0 w) (hnw : n₀ ≤ w.heap.size) (hB : Blk w gb [ptr g] 25) :
    SeqStopsK Fence.wide n Tryd.prog 71 #[.pointer (some ⟨gb, 0, none⟩)] encs32 (Below n₀) (fun xs => xs.map (·.1) = l) (fun pre => ∃ k, k ≤ l.length ∧ pre.map (·.1) = l.take k) l.length w := fun lab J Jx W hW hJ hJx hY h0 => by
  have HE : Hid (EachDoes v0 n₀ lab (fun pre W => ∃ p : List Lf32, p.map (·.1) = pre ∧ J p W) (fun pre W => ∃ p : List Lf32, p.map (·.1) = pre ∧ Jx p W) g l [] W) := by
    refine each_any (m := n - 1) (N := l.length) (B := W.heap.size) hz (fun s A A' row hs hg hr => ?_) (fun pre x W1 hx hp hl => ?_) hT [] W (hw.trans (hW.mono hnw)) ⟨[], rfl, h0⟩ (by simp)
    · obtain ⟨p, e, hp⟩ := hs
      exact ⟨p, e, hJ p A A' row hp hg hr⟩
    · obtain ⟨p, e, hp⟩ := hp
      refine (hY p ⟨x, hx⟩ W1 hp (by rw [← e, List.length_map] at hl; exact hl)).mono fun e' W' he => ?_
      rcases he with ⟨h1, h2, h3⟩ | ⟨h1, h2⟩
      · exact Or.inl ⟨h1, ⟨p ++ [⟨x, hx⟩], by rw [List.map_append, e]; rfl, h2⟩, h3⟩
      · exact Or.inr ⟨h1, ⟨p ++ [⟨x, hx⟩], by rw [List.map_append, e]; rfl, h2⟩⟩
  have c0 : W.cell? ⟨gb, 0, none⟩ = some (.pointer (some ⟨g, 0, none⟩)) := (hB.below hW hB.lt).cell 0
  clear hB hW hw hT hY h0 hJ hJx
  refine callsIn_wide.2 ?_
  simp only [List.append_toArray, List.cons_append, List.nil_append]
  go_enter Tryd.func71, Tryd.ntmps71
  go_wp2_with fail
  have HE2 := HE.out
  unfold EachDoes at HE2
  refine HE2.mono ?_
  clear HE HE2 c0
  rintro e W2 (⟨rfl, hj, hbb⟩ | ⟨rfl, k, hk, hj⟩)
  · have HJ : Hid (∃ p : List Lf32, p.map (·.1) = l ∧ J p W2) := by simp only [List.nil_append] at hj; exact hj
    clear hj hbb
    go_wp2
    go_end0
    exact ⟨⟨_, rfl⟩, .inl HJ.out⟩
  · have HJ : Hid (∃ p : List Lf32, p.map (·.1) = l.take (k + 1) ∧ Jx p W2) := by simp only [List.nil_append] at hj; exact hj
    clear hj
    go_wp2
    go_end0
    obtain ⟨p, e, hp⟩ := HJ.out
    exact ⟨⟨_, rfl⟩, .inr ⟨p, ⟨k + 1, hk, e⟩, hp⟩⟩
end Go.Proofs.YtphmmnffgknkcaaDoor
/- The walks of sort.Search, and of tree.below: the tree of leaves that stand in a row. -/
namespace Go.Proofs.YtphmmnffgknkcaaDoor
open Go.RowKit
set_option maxRecDepth 100000
set_option maxRecDepth 100000 in
set_option maxHeartbeats 2000000 in
theorem soSearch_any (n g : Nat) (cbs : Array Value) (p : Nat → Bool) (w : World) (eg : ∀ args w, (callFunc g args).run Tryd.prog w = .ok (.enter g args) w) (hn : n < 1000000000) (hf : ∀ W i, Over w W → i < n → Calls Tryd.prog g (#[.int .i64 (i : Int)] ++ cbs) W fun e w' => e = .returned (.bool (p i)) ∧ Below W.heap.size W w') :
    Calls Tryd.prog 37 #[.int .i64 (n : Int), .func (.func g) #[] cbs] w fun e w' => ∃ k : Nat, e = .returned (.int .i64 (k : Int)) ∧ k ≤ n ∧ (k = 0 ∨ p (k - 1) = false) ∧ (k = n ∨ p k = true) ∧ Below w.heap.size w w' := by
  have HFF : Aside (∀ W i, Over w W → i < n → Calls Tryd.prog g (#[.int .i64 (i : Int)] ++ cbs) W fun e w' => e = .returned (.bool (p i)) ∧ Below W.heap.size W w') := hf
  clear hf
  go_enter Tryd.func37, Tryd.ntmps37
  go_wp2
  go_loopg [5, 6] n (fun kx s5 s6 wr => ∃ (i j : Nat), s5 = .int .i64 i ∧ s6 = .int .i64 j ∧ i ≤ j ∧ j ≤ n ∧ j - i ≤ kx ∧ Hid (Over w wr) ∧ Hid (i = 0 ∨ p (i - 1) = false) ∧ Hid (j = n ∨ p j = true))
  case atStart => exact ⟨0, n, rfl, rfl, by omega, by omega, by omega, Over.refl w, Or.inl rfl, Or.inl rfl⟩
  case round =>
    obtain ⟨i, j, rfl, rfl, hij, hjn, hkx, HO, H1, H2⟩ := hrel
    by_cases hlt : i < j
    · have hltz : (i : Int) < (j : Int) := by omega
      have rs : IntKind.i64.wrap ((i : Int) + (j : Int)) = (i : Int) + (j : Int) := by rw [IntKind.wrap_i64]; omega
      go_upto_region 4 with (fail)
      obtain ⟨h, hh1, hh2, eh⟩ : ∃ h : Nat, i ≤ h ∧ h < j ∧ ((i : Int) + (j : Int)) / 2 = (h : Int) := ⟨(i + j) / 2, by omega, by omega, by omega⟩
      simp only [eh]
      clear eh rs
      have HCA : Hid (Calls Tryd.prog g (#[.int .i64 (h : Int)] ++ cbs) wr fun e w' => e = .returned (.bool (p h)) ∧ Below wr.heap.size wr w') := HFF.out wr h HO.out (by omega)
      have r1 : IntKind.i64.wrap ((h : Int) + 1) = (h : Int) + 1 := by rw [IntKind.wrap_i64]; omega
      cases hp : p h with
      | false =>
        rw [hp] at HCA
        go_wp2_with (go_at_fn g; refine HCA.out.mono ?_; rintro e w2 ⟨rfl, hb⟩)
        go_roundg (j - (h + 1))
        case measure => omega
        case rel => exact ⟨h + 1, j, by go_num, rfl, by omega, hjn, Nat.le_refl _, HO.out.more hb, Or.inr hp, H2⟩
      | true =>
        rw [hp] at HCA
        go_wp2_with (go_at_fn g; refine HCA.out.mono ?_; rintro e w2 ⟨rfl, hb⟩)
        go_roundg (h - i)
        case measure => omega
        case rel => exact ⟨i, h, rfl, rfl, by omega, by omega, Nat.le_refl _, HO.out.more hb, H1, Or.inr hp⟩
    · have hltz : ¬ (i : Int) < (j : Int) := by omega
      have e : j = i := by omega
      subst e
      go_wp2
      go_ret
      exact ⟨j, rfl, hjn, H1.out, H2.out, HO.out⟩
/-- a slice of trees that are leaves, one behind the other; ps: their blocks and what they hold -/
structure LvRow (W : World) (b off : Nat) (ps : List (Nat × Lf)) : Prop where
  cell : ∀ k, k < ps.length → W.cell? ⟨b, off + k, none⟩ = some (ptr (ps.getD k default).1)
  leaf : ∀ q ∈ ps, TreeC W q.1 1 (dig (pairB 76 q.2.1 q.2.2)) q.2.1 q.2.2 (.pointer none) (.pointer none)
theorem LvRow.next {W W' : World} {b off : Nat} {ps : List (Nat × Lf)} (h : LvRow W b off ps) (hb : Below W.heap.size W W') : LvRow W' b off ps :=
  ⟨fun k hk => by
    have h1 := h.cell k hk
    rw [hb.cell (p := ⟨b, off + k, none⟩) (block_lt_of_cell h1)]
    exact h1, fun q hq => (h.leaf q hq).next hb⟩
theorem LvRow.take {W : World} {b off k : Nat} {ps : List (Nat × Lf)} (h : LvRow W b off ps) : LvRow W b off (ps.take k) :=
  ⟨fun j hj => by
    rw [List.length_take] at hj
    rw [h.cell j (by omega), List.getD_eq_getElem?_getD, List.getD_eq_getElem?_getD, List.getElem?_take_of_lt (by omega)], fun q hq => h.leaf q (List.mem_of_mem_take hq)⟩
theorem LvRow.drop {W : World} {b off k : Nat} {ps : List (Nat × Lf)} (h : LvRow W b off ps) : LvRow W b (off + k) (ps.drop k) :=
  ⟨fun j hj => by
    rw [List.length_drop] at hj
    rw [Nat.add_assoc, h.cell (k + j) (by omega), List.getD_eq_getElem?_getD, List.getD_eq_getElem?_getD, List.getElem?_drop], fun q hq => h.leaf q (List.mem_of_mem_drop hq)⟩
set_option maxRecDepth 100000 in
set_option maxHeartbeats 2000000 in
theorem trBelow1_any (b off n cap i g2 g3 : Nat) (d : Nat) (ps : List (Nat × Lf)) (w : World) (hR : LvRow w b off ps) (hn : ps.length = n) (hi : i < n) (hd : d < 256) (hc2 : w.cell? ⟨g2, 0, none⟩ = some (.slice (some ⟨b, off, none⟩) n cap)) (hc3 : w.cell? ⟨g3, 0, none⟩ = some (.int .i64 (d : Int))) :
    Calls Tryd.prog 38 (#[.int .i64 (i : Int)] ++ #[.pointer (some ⟨g2, 0, none⟩), .pointer (some ⟨g3, 0, none⟩)]) w fun e w' => e = .returned (.bool (bt (ps.getD i default).2.1 d)) ∧ Below w.heap.size w w' := by
  have HR : Hid (LvRow w.drew b off ps) := hR.next (Below.refl _ w).drew
  obtain ⟨q, HQ⟩ : ∃ q, Hid (q = ps.getD i default) := ⟨_, rfl⟩
  have HM : Hid (q ∈ ps) := by
    show _ ∈ _
    rw [HQ.out, List.getD_eq_getElem?_getD, List.getElem?_eq_getElem (by omega), Option.getD_some]
    exact List.getElem_mem _
  have HL : Hid (q.2.1.length = 32) := (hR.leaf q HM.out).l2
  have HB : Hid (bitI q.2.1 (d : Int) = bt q.2.1 d) := bitI_nat _ _ hd
  rw [← HQ.out, ← HB.out]
  obtain ⟨gq, x, vq⟩ := q
  have HC : Hid (∀ wx, Over w.drew wx → wx.cell? ⟨b, off + i, none⟩ = some (.pointer (some ⟨gq, 0, none⟩))) := fun wx hx => by
    have := (HR.out.next hx.out).cell i (by omega)
    rw [← HQ.out] at this
    exact this
  have HX : Hid (∀ wx, Over w.drew wx → wx.rangeAt gq 33 (cb x)) := fun wx hx => ((HR.out.next hx.out).leaf _ HM.out).index
  have HC2 : Hid (∀ wx, Over w.drew wx → wx.cell? ⟨g2, 0, none⟩ = some (.slice (some ⟨b, off, none⟩) n cap)) := fun wx hx => (hx.out.cell (p := ⟨g2, 0, none⟩) (block_lt_of_cell hc2)).trans hc2
  have HC3 : Hid (∀ wx, Over w.drew wx → wx.cell? ⟨g3, 0, none⟩ = some (.int .i64 (d : Int))) := fun wx hx => (hx.out.cell (p := ⟨g3, 0, none⟩) (block_lt_of_cell hc3)).trans hc3
  clear hR hn hc2 hc3 HR HQ HM HB
  have i0 : (0 : Int) ≤ (i : Int) := by omega
  have i1 : (i : Int) < (n : Int) := by omega
  simp only [List.append_toArray, List.cons_append, List.nil_append]
  go_enter Tryd.func38, Tryd.ntmps38
  go_wp2_with fail
  refine wp_region_held_drew (S := Over w.drew) (by kernel_rfl) (Over.refl _) ?_
  intro hS
  refine wpAnyH_take (i := 0) (v := .slice (some ⟨b, off, none⟩) n cap) rfl (by kernel_rfl) (by kernel_rfl) (by kernel_rfl) (fun _ _ _ h => h) (Or.inl ⟨by rfl, fun wx hx => by (have hc := HC2.out wx hx; simp [go_sem, hc])⟩) hS ?_
  simp only [Act.put, List.getElem_toArray, List.getElem_cons_zero, List.setIfInBounds_toArray, List.set_cons_zero, List.set_cons_succ]
  refine wpAnyH_take (i := 1) (v := .int .i64 (i : Int)) rfl (by kernel_rfl) (by kernel_rfl) (by kernel_rfl) (fun _ _ _ h => h) (Or.inl ⟨by rfl, fun wx hx => by simp [go_sem]⟩) hS ?_
  simp only [Act.put, List.getElem_toArray, List.getElem_cons_succ, List.getElem_cons_zero, List.setIfInBounds_toArray, List.set_cons_zero, List.set_cons_succ]
  refine wpAnyH_take (i := 2) (v := .pointer (some ⟨b, off + i, none⟩)) rfl (by kernel_rfl) (by kernel_rfl) (by kernel_rfl) (fun _ _ _ h => h) (Or.inl ⟨by rfl, fun wx hx => by simp [go_sem, i0, i1]⟩) hS ?_
  simp only [Act.put, List.getElem_toArray, List.getElem_cons_succ, List.getElem_cons_zero, List.setIfInBounds_toArray, List.set_cons_zero, List.set_cons_succ]
  refine wpAnyH_take (i := 3) (v := .pointer (some ⟨gq, 0, none⟩)) rfl (by kernel_rfl) (by kernel_rfl) (by kernel_rfl) (fun _ _ _ h => h) (Or.inl ⟨by rfl, fun wx hx => by (have hc := HC.out wx hx; simp [go_sem, hc])⟩) hS ?_
  simp only [Act.put, List.getElem_toArray, List.getElem_cons_succ, List.getElem_cons_zero, List.setIfInBounds_toArray, List.set_cons_zero, List.set_cons_succ]
  refine wpAnyH_take (i := 4) (v := .pointer (some ⟨gq, 0, none⟩)) rfl (by kernel_rfl) (by kernel_rfl) (by kernel_rfl) (fun _ _ _ h => h) (Or.inl ⟨by rfl, fun wx hx => by simp [go_sem]⟩) hS ?_
  simp only [Act.put, List.getElem_toArray, List.getElem_cons_succ, List.getElem_cons_zero, List.setIfInBounds_toArray, List.set_cons_zero, List.set_cons_succ]
  refine wpAnyH_take (i := 5) (v := .pointer (some ⟨gq, 33, none⟩)) rfl (by kernel_rfl) (by kernel_rfl) (by kernel_rfl) (fun _ _ _ h => h) (Or.inl ⟨by rfl, fun wx hx => by simp [go_sem]⟩) hS ?_
  simp only [Act.put, List.getElem_toArray, List.getElem_cons_succ, List.getElem_cons_zero, List.setIfInBounds_toArray, List.set_cons_zero, List.set_cons_succ]
  refine wpAnyH_take (i := 6) (v := .agg (cb x).toArray) rfl (by kernel_rfl) (by kernel_rfl) (by kernel_rfl) (fun _ _ _ h => h) (Or.inl ⟨by rfl, fun wx hx => by exact load_run 28 _ rfl _ _ rfl (cb x) _ (HX.out wx hx) Tryd.underlying28 rfl (by rw [cb_len, HL.out]; exact info_digest)⟩) hS ?_
  simp only [Act.put, List.getElem_toArray, List.getElem_cons_succ, List.getElem_cons_zero, List.setIfInBounds_toArray, List.set_cons_zero, List.set_cons_succ]
  refine wpAnyH_take (i := 7) (v := .int .i64 (d : Int)) rfl (by kernel_rfl) (by kernel_rfl) (by kernel_rfl) (fun _ _ _ h => h) (Or.inl ⟨by rfl, fun wx hx => by (have hc := HC3.out wx hx; simp [go_sem, hc])⟩) hS ?_
  simp only [Act.put, List.getElem_toArray, List.getElem_cons_succ, List.getElem_cons_zero, List.setIfInBounds_toArray, List.set_cons_zero, List.set_cons_succ]
  refine wpAnyH_enter 8 (by kernel_rfl) rfl (by rfl) (f := 39) (args := #[.agg (cb x).toArray, .int .i64 (d : Int)]) (by simp [go_sem]) (pBit_any x HL.out _ _) ?_
  rintro e wy ⟨rfl, hbq⟩
  refine ⟨_, rfl, hS.more hbq, ?_⟩
  replace hS := hS.more hbq
  clear hbq
  simp only [Act.put, List.getElem_toArray, List.getElem_cons_succ, List.getElem_cons_zero, List.setIfInBounds_toArray, List.set_cons_zero, List.set_cons_succ]
  refine wpAnyH_take (i := 9) (v := .bool (bitI x (d : Int))) rfl (by kernel_rfl) (by kernel_rfl) (by kernel_rfl) (fun _ _ _ h => h) (Or.inl ⟨by rfl, fun wx hx => by simp [go_sem]⟩) hS ?_
  simp only [Act.put, List.getElem_toArray, List.getElem_cons_succ, List.getElem_cons_zero, List.setIfInBounds_toArray, List.set_cons_zero, List.set_cons_succ]
  refine wpAnyH_done (by kernel_rfl) ?_ _
  go_wp2_with fail
  go_ret
  exact ⟨rfl, hS.after (Below.refl _ w).drew⟩
theorem slLo (b off n cap k : Nat) (h : k ≤ cap) (w : World) : (Instr.sliceAt 53 (.slice (some ⟨b, off, none⟩) n cap) none (some (.int .i64 (k : Int))) none).run Tryd.prog w = .ok (.slice (some ⟨b, off, none⟩) k cap) w := by
  have hs : (sizeOf 25).run Tryd.prog w = .ok 1 w := by kernel_rfl
  rw [run_sliceAt_slice w 53 _ _ _ _ (by kernel_rfl), run_slice_h w 53 _ _ _ (by kernel_rfl) .i64 _ (by omega) (by omega)]
  rw [show Tryd.prog.elem 53 = 25 from by kernel_rfl, hs]
  simp only [Result.andThen_ok, sliced, Int.toNat_natCast, Nat.mul_one, Option.map_some]
  split <;> simp [Addr.add_mid]
theorem slHi (b off n cap k : Nat) (h : k ≤ n) (w : World) : (Instr.sliceAt 53 (.slice (some ⟨b, off, none⟩) n cap) (some (.int .i64 (k : Int))) none none).run Tryd.prog w = .ok (.slice (some ⟨b, if cap = k then off else off + k, none⟩) (n - k) (cap - k)) w := by
  have hs : (sizeOf 25).run Tryd.prog w = .ok 1 w := by kernel_rfl
  rw [run_sliceAt_slice w 53 _ _ _ _ (by kernel_rfl), run_slice_l w 53 _ _ _ (by kernel_rfl) .i64 _ (by omega) (by omega)]
  rw [show Tryd.prog.elem 53 = 25 from by kernel_rfl, hs]
  simp only [Result.andThen_ok, sliced, Int.toNat_natCast, Nat.mul_one, Option.map_some]
  split <;> simp [Addr.add_mid]
/-- where the first leaf stands whose bit is on -/
theorem search_half {ps : List (Nat × Lf)} {d k : Nat} (hF : Fits (ps.map (·.2)) d) (hk : k ≤ ps.length) (h1 : k = 0 ∨ bt (ps.getD (k - 1) default).2.1 d = false) (h2 : k = ps.length ∨ bt (ps.getD k default).2.1 d = true) : (ps.take k).map (·.2) = halfL (ps.map (·.2)) d false ∧ (ps.drop k).map (·.2) = halfL (ps.map (·.2)) d true := by
  have ho := half_order hF
  obtain ⟨A, hA⟩ : ∃ A, A = halfL (ps.map (·.2)) d false := ⟨_, rfl⟩
  obtain ⟨B, hB⟩ : ∃ B, B = halfL (ps.map (·.2)) d true := ⟨_, rfl⟩
  rw [← hA, ← hB] at ho ⊢
  have hAm : ∀ p ∈ A, bt p.1 d = false := fun p hp => by rw [hA] at hp; exact (mem_halfL.1 hp).2
  have hBm : ∀ p ∈ B, bt p.1 d = true := fun p hp => by rw [hB] at hp; exact (mem_halfL.1 hp).2
  have hlen : ps.length = A.length + B.length := by have := congrArg List.length ho; rw [List.length_map, List.length_append] at this; exact this
  have get : ∀ j, j < ps.length → (ps.getD j default).2 = (A ++ B).getD j ([], []) := fun j hj => by
    rw [← ho, List.getD_eq_getElem?_getD, List.getD_eq_getElem?_getD, List.getElem?_map, List.getElem?_eq_getElem hj]
    rfl
  have hkA : k = A.length := by
    rcases Nat.lt_trichotomy k A.length with h | h | h
    · rcases h2 with e | e
      · omega
      · rw [get k (by omega), List.getD_eq_getElem?_getD, List.getElem?_append_left h, List.getElem?_eq_getElem h, Option.getD_some, hAm _ (List.getElem_mem _)] at e
        cases e
    · exact h
    · rcases h1 with e | e
      · omega
      · rw [get (k - 1) (by omega), List.getD_eq_getElem?_getD, List.getElem?_append_right (by omega), List.getElem?_eq_getElem (by omega), Option.getD_some, hBm _ (List.getElem_mem _)] at e
        cases e
  rw [List.map_take, List.map_drop, ho, hkA]
  exact ⟨List.take_left, List.drop_left⟩
theorem trBelow_nil (ad : Option Addr) (cap d : Nat) (w : World) (hK : KOk w) : Calls Tryd.prog 21 #[.slice ad 0 cap, .int .i64 (d : Int)] w fun e w' => ∃ g, e = .returned (.pointer (some ⟨g, 0, none⟩)) ∧ TreeIs w' d g [] ∧ Below w.heap.size w w' := by
  have HK : Hid (KOk w) := hK
  clear hK
  obtain ⟨wB, HWB⟩ : ∃ z, Hid (z = (w.alloc (.cells #[.slice ad 0 cap] 53)).alloc (.cells #[.int .i64 (d : Int)] 3)) := ⟨_, rfl⟩
  have HBW : Hid (Below w.heap.size w wB) := by rw [HWB.out]; exact ((Below.refl _ w).alloc (Nat.le_refl _) _).alloc (by simp) _
  replace HK : Hid (KOk wB) := HK.out.below HBW.out HK.out.lt
  go_enter Tryd.func21, Tryd.ntmps21
  go_upto_region 3 with fail
  rw [← HWB.out]
  go_wp2_with (go_at_call 36; refine (trEmpty_any _ HK.out).mono ?_; rintro e wb ⟨ge, rfl, hce, hb⟩)
  go_ret
  exact ⟨ge, rfl, .none d ge hce, HBW.out.trans (hb.mono HBW.out.size)⟩
theorem trBelow_one (b off cap d : Nat) (q : Nat × Lf) (w : World) (hR : LvRow w b off [q]) : Calls Tryd.prog 21 #[.slice (some ⟨b, off, none⟩) 1 cap, .int .i64 (d : Int)] w fun e w' => ∃ g, e = .returned (.pointer (some ⟨g, 0, none⟩)) ∧ TreeIs w' d g [q.2] ∧ Below w.heap.size w w' := by
  obtain ⟨gq, x, v⟩ := q
  obtain ⟨wB, HWB⟩ : ∃ z, Hid (z = (w.alloc (.cells #[.slice (some ⟨b, off, none⟩) 1 cap] 53)).alloc (.cells #[.int .i64 (d : Int)] 3)) := ⟨_, rfl⟩
  have HBW : Hid (Below w.heap.size w wB) := by rw [HWB.out]; exact ((Below.refl _ w).alloc (Nat.le_refl _) _).alloc (by simp) _
  have HR : Hid (LvRow wB b off [(gq, x, v)]) := hR.next HBW.out
  have c1 : wB.cell? ⟨b, off, none⟩ = some (.pointer (some ⟨gq, 0, none⟩)) := HR.out.cell 0 (by simp)
  have c2 : wB.cell? ⟨w.heap.size, 0, none⟩ = some (.slice (some ⟨b, off, none⟩) 1 cap) := by rw [HWB.out]; simp
  clear hR
  go_enter Tryd.func21, Tryd.ntmps21
  go_upto_region 5 with fail
  rw [← HWB.out]
  go_wp2_with fail
  go_ret
  exact ⟨gq, rfl, .leaf d gq x v (HR.out.leaf (gq, x, v) (by simp)), HBW.out⟩
set_option maxRecDepth 100000 in
set_option maxHeartbeats 8000000 in
theorem trBelow_many (b off n cap d : Nat) (ps : List (Nat × Lf)) (w : World) (IH : ∀ (ad : Option Addr) (b off n cap : Nat) (ps : List (Nat × Lf)) (w : World), KOk w → LvRow w b off ps → ps.length = n → n ≤ cap → (n = 0 ∨ ad = some ⟨b, off, none⟩) → n < 100000 → Fits (ps.map (·.2)) (d + 1) → Calls Tryd.prog 21 #[.slice ad n cap, .int .i64 ((d + 1 : Nat) : Int)] w fun e w' => ∃ g, e = .returned (.pointer (some ⟨g, 0, none⟩)) ∧ TreeIs w' (d + 1) g (ps.map (·.2)) ∧ Below w.heap.size w w') (hK : KOk w) (hR : LvRow w b off ps) (hn : ps.length = n) (hcap : n ≤ cap) (h2 : 2 ≤ n) (hn2 : n < 100000) (hF : Fits (ps.map (·.2)) d) :
    Calls Tryd.prog 21 #[.slice (some ⟨b, off, none⟩) n cap, .int .i64 (d : Int)] w fun e w' => ∃ g, e = .returned (.pointer (some ⟨g, 0, none⟩)) ∧ TreeIs w' d g (ps.map (·.2)) ∧ Below w.heap.size w w' := by
  have hd : d < 256 := hF.lt (by rw [List.length_map]; omega)
  have HFI : Hid (Fits (ps.map (·.2)) d) := hF
  have HN : Hid (ps.length = n) := hn
  have HIH : Aside _ := IH
  obtain ⟨gl, HGL⟩ : ∃ g, Hid (g = w.heap.size) := ⟨_, rfl⟩
  obtain ⟨wB, HWB⟩ : ∃ z, Hid (z = (w.alloc (.cells #[.slice (some ⟨b, off, none⟩) n cap] 53)).alloc (.cells #[.int .i64 (d : Int)] 3)) := ⟨_, rfl⟩
  have HBW : Hid (Below w.heap.size w wB) := by rw [HWB.out]; exact ((Below.refl _ w).alloc (Nat.le_refl _) _).alloc (by simp) _
  have HK : Hid (KOk wB) := hK.below HBW.out hK.lt
  have HR : Hid (LvRow wB b off ps) := hR.next HBW.out
  have c2 : wB.cell? ⟨gl, 0, none⟩ = some (.slice (some ⟨b, off, none⟩) n cap) := by rw [HWB.out, HGL.out]; simp
  have c3 : wB.cell? ⟨gl + 1, 0, none⟩ = some (.int .i64 (d : Int)) := by rw [HWB.out, HGL.out]; simp
  have HC2 : Hid (∀ wx, Over wB wx → wx.cell? ⟨gl, 0, none⟩ = some (.slice (some ⟨b, off, none⟩) n cap)) := fun wx hx => (hx.out.cell (p := ⟨gl, 0, none⟩) (block_lt_of_cell c2)).trans c2
  have HC3 : Hid (∀ wx, Over wB wx → wx.cell? ⟨gl + 1, 0, none⟩ = some (.int .i64 (d : Int))) := fun wx hx => (hx.out.cell (p := ⟨gl + 1, 0, none⟩) (block_lt_of_cell c3)).trans c3
  have HSE : Hid (Calls Tryd.prog 37 #[.int .i64 (n : Int), .func (.func 38) #[] #[.pointer (some ⟨gl, 0, none⟩), .pointer (some ⟨gl + 1, 0, none⟩)]] wB fun e w' => ∃ k : Nat, e = .returned (.int .i64 (k : Int)) ∧ k ≤ n ∧ (k = 0 ∨ bt (ps.getD (k - 1) default).2.1 d = false) ∧ (k = n ∨ bt (ps.getD k default).2.1 d = true) ∧ Below wB.heap.size wB w') :=
    soSearch_any n 38 _ (fun i => bt (ps.getD i default).2.1 d) wB (enters_of Tryd.func38 (by kernel_rfl) rfl) (by omega) fun W i hW hi => trBelow1_any b off n cap i gl (gl + 1) d ps W (HR.out.next hW.out) HN.out hi hd (HC2.out W hW) (HC3.out W hW)
  have z0 : ¬ ((n : Int) = 0) := by omega
  have z0' : ((n : Int) == 0) = false := by rw [beq_eq_false_iff_ne]; omega
  have z1 : ¬ ((n : Int) = 1) := by omega
  have z1' : ((n : Int) == 1) = false := by rw [beq_eq_false_iff_ne]; omega
  clear hF hn IH hK hR
  go_enter Tryd.func21, Tryd.ntmps21
  go_upto_region 1 with fail
  rw [← HWB.out]
  have e0 : (some ⟨w.heap.size, 0, none⟩ : Option Addr) = some ⟨gl, 0, none⟩ := by rw [HGL.out]
  have e1 : (some ⟨w.heap.size + 1, 0, none⟩ : Option Addr) = some ⟨gl + 1, 0, none⟩ := by rw [HGL.out]
  simp only [e0, e1]
  clear e0 e1
  go_upto_region 7 with (go_at_call 37; refine HSE.out.mono ?_; rintro e w1 ⟨k, rfl, hkn, hk1, hk2, hb1⟩
                         have HO : Hid (Over wB w1) := hb1
                         have HK1 : Hid (k = 0 ∨ bt (ps.getD (k - 1) default).2.1 d = false) := hk1
                         have HK2 : Hid (k = n ∨ bt (ps.getD k default).2.1 d = true) := hk2
                         clear hb1 hk1 hk2 c2 c3 HSE)
  clear z0 z0' z1 z1'
  have HSP : Hid ((ps.take k).map (·.2) = halfL (ps.map (·.2)) d false ∧ (ps.drop k).map (·.2) = halfL (ps.map (·.2)) d true) := search_half HFI.out (by rw [HN.out]; exact hkn) HK1.out (by rw [HN.out]; exact HK2.out)
  have HO1 : Hid (∀ wx, Over w1.drew wx → Over wB wx) := fun wx hx => (HO.out.more (Below.refl _ w1).drew).more hx.out
  have rd : IntKind.i64.wrap ((d : Int) + 1) = ((d + 1 : Nat) : Int) := by rw [IntKind.wrap_i64]; omega
  obtain ⟨o2, HO2⟩ : ∃ o, Hid (o = if cap = k then off else off + k) := ⟨_, rfl⟩
  have hsl := slLo b off n cap k (by omega)
  have hsh := slHi b off n cap k hkn
  rw [← HO2.out] at hsh
  obtain ⟨n2, HN2⟩ : ∃ x, Hid (x = n - k) := ⟨_, rfl⟩
  obtain ⟨cap2, HCAP2⟩ : ∃ x, Hid (x = cap - k) := ⟨_, rfl⟩
  rw [← HN2.out, ← HCAP2.out] at hsh
  obtain ⟨d1, HD1⟩ : ∃ x, Hid (x = d + 1) := ⟨_, rfl⟩
  rw [← HD1.out] at rd
  have HCA : Hid (∀ wx, Over w1.drew wx → Calls Tryd.prog 21 #[.slice (some ⟨b, off, none⟩) k cap, .int .i64 (d1 : Int)] wx fun e w' => ∃ g, e = .returned (.pointer (some ⟨g, 0, none⟩)) ∧ TreeIs w' (d + 1) g (halfL (ps.map (·.2)) d false) ∧ Below wx.heap.size wx w') := fun wx hx => by
    have := HIH.out (some ⟨b, off, none⟩) b off k cap (ps.take k) wx (HK.out.below (HO1.out wx hx).out HK.out.lt) (HR.out.next (HO1.out wx hx).out).take (by rw [List.length_take, HN.out]; omega) (by omega) (Or.inr rfl) (by omega) (by rw [HSP.out.1]; exact HFI.out.half _)
    rw [HSP.out.1] at this
    rw [HD1.out]
    exact this
  have HCB : Hid (∀ wx, Over w1.drew wx → Calls Tryd.prog 21 #[.slice (some ⟨b, o2, none⟩) n2 cap2, .int .i64 (d1 : Int)] wx fun e w' => ∃ g, e = .returned (.pointer (some ⟨g, 0, none⟩)) ∧ TreeIs w' (d + 1) g (halfL (ps.map (·.2)) d true) ∧ Below wx.heap.size wx w') := fun wx hx => by
    have hrow : LvRow wx b o2 (ps.drop k) := by
      by_cases e : cap = k
      · have h0 : ps.drop k = [] := List.drop_eq_nil_of_le (by rw [HN.out]; omega)
        rw [h0]
        exact ⟨fun j hj => absurd hj (Nat.not_lt_zero _), fun q hq => by simp at hq⟩
      · rw [HO2.out, if_neg e]
        exact (HR.out.next (HO1.out wx hx).out).drop
    have := HIH.out (some ⟨b, o2, none⟩) b o2 n2 cap2 (ps.drop k) wx (HK.out.below (HO1.out wx hx).out HK.out.lt) hrow (by rw [List.length_drop, HN.out, HN2.out]) (by rw [HN2.out, HCAP2.out]; omega) (Or.inr rfl) (by rw [HN2.out]; omega) (by rw [HSP.out.2]; exact HFI.out.half _)
    rw [HSP.out.2] at this
    rw [HD1.out]
    exact this
  have k0 : (0 : Int) ≤ (k : Int) := by omega
  refine wp_region_held_drew (S := Over w1.drew) (by kernel_rfl) (Over.refl _) ?_
  intro hS
  refine wpAnyH_take (i := 0) (v := .slice (some ⟨b, off, none⟩) n cap) rfl (by kernel_rfl) (by kernel_rfl) (by kernel_rfl) (fun _ _ _ h => h) (Or.inl ⟨by rfl, fun wx hx => by (have hc := HC2.out wx (HO1.out wx hx); simp [go_sem, hc])⟩) hS ?_
  simp only [Act.put, List.getElem_toArray, List.getElem_cons_zero, List.setIfInBounds_toArray, List.set_cons_zero, List.set_cons_succ]
  refine wpAnyH_take (i := 1) (v := .int .i64 (k : Int)) rfl (by kernel_rfl) (by kernel_rfl) (by kernel_rfl) (fun _ _ _ h => h) (Or.inl ⟨by rfl, fun wx hx => by simp [go_sem]⟩) hS ?_
  simp only [Act.put, List.getElem_toArray, List.getElem_cons_succ, List.getElem_cons_zero, List.setIfInBounds_toArray, List.set_cons_zero, List.set_cons_succ]
  refine wpAnyH_take (i := 2) (v := .slice (some ⟨b, off, none⟩) k cap) rfl (by kernel_rfl) (by kernel_rfl) (by kernel_rfl) (fun _ _ _ h => h) (Or.inl ⟨by rfl, fun wx hx => by simp [execOp, Act.eval, hsl]⟩) hS ?_
  simp only [Act.put, List.getElem_toArray, List.getElem_cons_succ, List.getElem_cons_zero, List.setIfInBounds_toArray, List.set_cons_zero, List.set_cons_succ]
  refine wpAnyH_take (i := 3) (v := .int .i64 (d : Int)) rfl (by kernel_rfl) (by kernel_rfl) (by kernel_rfl) (fun _ _ _ h => h) (Or.inl ⟨by rfl, fun wx hx => by (have hc := HC3.out wx (HO1.out wx hx); simp [go_sem, hc])⟩) hS ?_
  simp only [Act.put, List.getElem_toArray, List.getElem_cons_succ, List.getElem_cons_zero, List.setIfInBounds_toArray, List.set_cons_zero, List.set_cons_succ]
  refine wpAnyH_take (i := 4) (v := .int .i64 (d1 : Int)) rfl (by kernel_rfl) (by kernel_rfl) (by kernel_rfl) (fun _ _ _ h => h) (Or.inl ⟨by rfl, fun wx hx => by simp [go_sem, rd]⟩) hS ?_
  simp only [Act.put, List.getElem_toArray, List.getElem_cons_succ, List.getElem_cons_zero, List.setIfInBounds_toArray, List.set_cons_zero, List.set_cons_succ]
  refine wpAnyH_take (i := 6) (v := .slice (some ⟨b, off, none⟩) n cap) rfl (by kernel_rfl) (by kernel_rfl) (by kernel_rfl) (fun _ _ _ h => h) (Or.inl ⟨by rfl, fun wx hx => by (have hc := HC2.out wx (HO1.out wx hx); simp [go_sem, hc])⟩) hS ?_
  simp only [Act.put, List.getElem_toArray, List.getElem_cons_succ, List.getElem_cons_zero, List.setIfInBounds_toArray, List.set_cons_zero, List.set_cons_succ]
  refine wpAnyH_take (i := 7) (v := .int .i64 (k : Int)) rfl (by kernel_rfl) (by kernel_rfl) (by kernel_rfl) (fun _ _ _ h => h) (Or.inl ⟨by rfl, fun wx hx => by simp [go_sem]⟩) hS ?_
  simp only [Act.put, List.getElem_toArray, List.getElem_cons_succ, List.getElem_cons_zero, List.setIfInBounds_toArray, List.set_cons_zero, List.set_cons_succ]
  refine wpAnyH_take (i := 8) (v := .slice (some ⟨b, o2, none⟩) n2 cap2) rfl (by kernel_rfl) (by kernel_rfl) (by kernel_rfl) (fun _ _ _ h => h) (Or.inl ⟨by rfl, fun wx hx => by simp [execOp, Act.eval, hsh]⟩) hS ?_
  simp only [Act.put, List.getElem_toArray, List.getElem_cons_succ, List.getElem_cons_zero, List.setIfInBounds_toArray, List.set_cons_zero, List.set_cons_succ]
  refine wpAnyH_take (i := 9) (v := .int .i64 (d : Int)) rfl (by kernel_rfl) (by kernel_rfl) (by kernel_rfl) (fun _ _ _ h => h) (Or.inl ⟨by rfl, fun wx hx => by (have hc := HC3.out wx (HO1.out wx hx); simp [go_sem, hc])⟩) hS ?_
  simp only [Act.put, List.getElem_toArray, List.getElem_cons_succ, List.getElem_cons_zero, List.setIfInBounds_toArray, List.set_cons_zero, List.set_cons_succ]
  refine wpAnyH_take (i := 10) (v := .int .i64 (d1 : Int)) rfl (by kernel_rfl) (by kernel_rfl) (by kernel_rfl) (fun _ _ _ h => h) (Or.inl ⟨by rfl, fun wx hx => by simp [go_sem, rd]⟩) hS ?_
  simp only [Act.put, List.getElem_toArray, List.getElem_cons_succ, List.getElem_cons_zero, List.setIfInBounds_toArray, List.set_cons_zero, List.set_cons_succ]
  refine wpAnyH_enter 5 (by kernel_rfl) rfl (by rfl) (f := 21) (args := #[.slice (some ⟨b, off, none⟩) k cap, .int .i64 (d1 : Int)]) (by simp [go_sem]) (HCA.out _ hS) ?_
  rintro e wy ⟨g0, rfl, ht0, hbq⟩
  refine ⟨_, rfl, hS.more hbq, ?_⟩
  replace hS := hS.more hbq
  clear hbq
  simp only [Act.put, List.getElem_toArray, List.getElem_cons_succ, List.getElem_cons_zero, List.setIfInBounds_toArray, List.set_cons_zero, List.set_cons_succ]
  refine wpAnyH_enter 11 (by kernel_rfl) rfl (by rfl) (f := 21) (args := #[.slice (some ⟨b, o2, none⟩) n2 cap2, .int .i64 (d1 : Int)]) (by simp [go_sem]) (HCB.out _ hS) ?_
  rintro e wz ⟨g1, rfl, ht1, hbq⟩
  replace ht0 := ht0.next hbq
  refine ⟨_, rfl, hS.more hbq, ?_⟩
  replace hS := hS.more hbq
  clear hbq
  simp only [Act.put, List.getElem_toArray, List.getElem_cons_succ, List.getElem_cons_zero, List.setIfInBounds_toArray, List.set_cons_zero, List.set_cons_succ]
  obtain ⟨ix0, vl0, p0, q0, hc0⟩ := ht0.cells
  obtain ⟨ix1, vl1, p1, q1, hc1⟩ := ht1.cells
  have hlen : (halfL (ps.map (·.2)) d false).length + (halfL (ps.map (·.2)) d true).length = (ps.map (·.2)).length := (half_len HFI.out).symm
  refine wpAnyH_enter 12 (by kernel_rfl) rfl (by rfl) (f := 40) (args := #[.pointer (some ⟨g0, 0, none⟩), .pointer (some ⟨g1, 0, none⟩)]) (by simp [go_sem]) (trJoined_any g0 g1 _ _ _ _ _ _ _ _ _ _ _ _ wz (HK.out.below (HO1.out _ hS).out HK.out.lt) hc0 hc1 (by rw [hlen, List.length_map, HN.out]; omega)) ?_
  rintro e wn ⟨g, rfl, hcg, hbq⟩
  replace ht0 := ht0.next hbq
  replace ht1 := ht1.next hbq
  refine ⟨_, rfl, hS.more hbq, ?_⟩
  replace hS := hS.more hbq
  clear hbq
  have HTR : Hid (TreeIs wn d g (ps.map (·.2))) := by
    rw [hlen] at hcg
    refine .node d g g0 g1 _ (by rw [List.length_map, HN.out]; exact h2) HFI.out ht0 ht1 ?_
    rw [rootL_two HFI.out (by rw [List.length_map, HN.out]; exact h2)]
    exact hcg
  clear ht0 ht1 hc0 hc1 hcg hlen
  simp only [Act.put, List.getElem_toArray, List.getElem_cons_succ, List.getElem_cons_zero, List.setIfInBounds_toArray, List.set_cons_zero, List.set_cons_succ]
  refine wpAnyH_take (i := 13) (v := .pointer (some ⟨g, 0, none⟩)) rfl (by kernel_rfl) (by kernel_rfl) (by kernel_rfl) (fun _ _ _ h => h) (Or.inl ⟨by rfl, fun wx hx => by simp [go_sem]⟩) hS ?_
  simp only [Act.put, List.getElem_toArray, List.getElem_cons_succ, List.getElem_cons_zero, List.setIfInBounds_toArray, List.set_cons_zero, List.set_cons_succ]
  refine wpAnyH_done (by kernel_rfl) ?_ _
  go_wp2_with fail
  go_ret
  exact ⟨g, rfl, HTR.out, ((HO1.out _ hS).after HBW.out)⟩
theorem trBelow_any : ∀ (f d : Nat) (ad : Option Addr) (b off n cap : Nat) (ps : List (Nat × Lf)) (w : World), 256 ≤ d + f → KOk w → LvRow w b off ps → ps.length = n → n ≤ cap → (n = 0 ∨ ad = some ⟨b, off, none⟩) → n < 100000 → Fits (ps.map (·.2)) d → Calls Tryd.prog 21 #[.slice ad n cap, .int .i64 (d : Int)] w fun e w' => ∃ g, e = .returned (.pointer (some ⟨g, 0, none⟩)) ∧ TreeIs w' d g (ps.map (·.2)) ∧ Below w.heap.size w w'
  | f, d, ad, b, off, n, cap, ps, w, hf, hK, hR, hn, hcap, had, hn2, hF => by
    match n, had with
    | 0, _ =>
      have : ps = [] := List.length_eq_zero_iff.1 hn
      subst this
      exact trBelow_nil ad cap d w hK
    | 1, had =>
      obtain ⟨q, hq⟩ : ∃ q, ps = [q] := List.length_eq_one_iff.1 hn
      subst hq
      have e : ad = some ⟨b, off, none⟩ := by rcases had with h | h; cases h; exact h
      subst e
      exact trBelow_one b off cap d q w hR
    | n + 2, had =>
      have e : ad = some ⟨b, off, none⟩ := by rcases had with h | h; cases h; exact h
      subst e
      have hd : d < 256 := hF.lt (by rw [List.length_map]; omega)
      match f with
      | 0 => omega
      | f + 1 => exact trBelow_many b off (n + 2) cap d ps w (fun ad b off n cap ps w h1 h2 h3 h4 h5 h6 h7 => trBelow_any f (d + 1) ad b off n cap ps w (by omega) h1 h2 h3 h4 h5 h6 h7) hK hR hn hcap (by omega) hn2 hF
end Go.Proofs.YtphmmnffgknkcaaDoor
/- Plain: a sort that keeps the order of equals: insertions, pieces exchanged, merges in place (slices.SortStableFunc). -/
namespace Go.Proofs.YtphmmnffgknkcaaDoor
open Go.Sort
set_option maxRecDepth 100000
variable {α : Type} [Inhabited α] {lt : α → α → Bool} {R : α → α → Prop}
/-- rising by R, from place a up to b -/
def Ris (R : α → α → Prop) (a b : Nat) (d : Array α) : Prop := ∀ i j, a ≤ i → i < j → j < b → R d[i]! d[j]!
/-- R: by lt, and where neither is less by where they stood -/
structure Keep (lt : α → α → Bool) (R : α → α → Prop) : Prop where
  tr : ∀ x y z, R x y → R y z → R x z
  lr : ∀ x y, lt x y = true → R x y
/-- what stands from a to m stood ahead of what stands from m to b -/
def Ahead (lt : α → α → Bool) (R : α → α → Prop) (a m b : Nat) (d : Array α) : Prop := ∀ i j, a ≤ i → i < m → m ≤ j → j < b → lt d[j]! d[i]! = false → R d[i]! d[j]!
theorem Ahead.mono {a m b a' m' b' : Nat} {d : Array α} (h : Ahead lt R a m b d) (h1 : a ≤ a') (h2 : m' ≤ m) (h3 : m ≤ m') (h4 : b' ≤ b) : Ahead lt R a' m' b' d := fun i j hi hi2 hj hj2 => h i j (by omega) (by omega) (by omega) (by omega)
theorem Ris.mono {a b a' b' : Nat} {d : Array α} (h : Ris R a b d) (h1 : a ≤ a') (h2 : b' ≤ b) : Ris R a' b' d := fun i j hi hij hj => h i j (by omega) hij (by omega)
theorem Ris.glue {a q b : Nat} {d : Array α} (h1 : Ris R a q d) (h2 : Ris R q b d) (hc : ∀ i j, a ≤ i → i < q → q ≤ j → j < b → R d[i]! d[j]!) : Ris R a b d := by
  intro i j hi hij hj
  by_cases hq : j < q
  · exact h1 i j hi hij hq
  · by_cases hq2 : i < q
    · exact hc i j hi hq2 (by omega) hj
    · exact h2 i j (by omega) hij hj
theorem Ris.le (K : Keep lt R) {a b i j : Nat} {d : Array α} {y : α} (h : Ris R a b d) (hi : a ≤ i) (hij : i ≤ j) (hj : j < b) (hy : R d[j]! y) : R d[i]! y := by
  by_cases e : i = j
  · rw [e]; exact hy
  · exact K.tr _ _ _ (h i j hi (by omega) hj) hy
theorem Ris.ge (K : Keep lt R) {a b i j : Nat} {d : Array α} {y : α} (h : Ris R a b d) (hi : a ≤ i) (hij : i ≤ j) (hj : j < b) (hy : R y d[i]!) : R y d[j]! := by
  by_cases e : i = j
  · rw [← e]; exact hy
  · exact K.tr _ _ _ hy (h i j hi (by omega) hj)
/-- the pieces from s to m and from m to e, exchanged -/
structure Rot (s m e : Nat) (d d' : Array α) : Prop where
  le1 : s ≤ m
  le2 : m ≤ e
  hi : e ≤ d.size
  fst : ∀ k, s ≤ k → k < s + (e - m) → d'[k]! = d[k + (m - s)]!
  snd : ∀ k, s + (e - m) ≤ k → k < e → d'[k]! = d[k - (e - m)]!
  perm : PermIn s e d d'
theorem Rot.size {s m e : Nat} {d d' : Array α} (h : Rot s m e d d') : d'.size = d.size := h.perm.1
theorem Rot.out {s m e : Nat} {d d' : Array α} (h : Rot s m e d d') (k : Nat) (hk : k < s ∨ e ≤ k) : d'[k]! = d[k]! := h.perm.2.1 k hk
theorem Rot.none {s m e : Nat} {d : Array α} (h1 : s ≤ m) (h2 : m ≤ e) (h3 : e ≤ d.size) (h : s = m ∨ m = e) : Rot s m e d d := by
  refine ⟨h1, h2, h3, fun k hk hk2 => ?_, fun k hk hk2 => ?_, permIn_refl _ _ _⟩
  · congr 1; omega
  · congr 1; omega
/-- what an exchange of pieces leaves in order -/
structure Mid (lt : α → α → Bool) (R : α → α → Prop) (a s q e b : Nat) (d : Array α) : Prop where
  r1 : Ris R a s d
  r2 : Ris R s q d
  r3 : Ris R q e d
  r4 : Ris R e b d
  a1 : Ahead lt R a s q d
  a2 : Ahead lt R q e b d
  cross : ∀ i j, a ≤ i → i < q → q ≤ j → j < b → R d[i]! d[j]!
theorem rot_mid (K : Keep lt R) {a s m e b : Nat} {d d' : Array α} (h1 : Ris R a m d) (h2 : Ris R m b d) (hx : Ahead lt R a m b d) (hr : Rot s m e d d') (has : a ≤ s) (heb : e ≤ b) (hlo : (s = a ∨ e = b) ∨ lt d[e]! d[s - 1]! = false) (hhi : (s = m ∨ e = m) ∨ lt d[e - 1]! d[s]! = true) : Mid lt R a s (s + (e - m)) e b d' := by
  have l1 := hr.le1
  have l2 := hr.le2
  refine ⟨?_, ?_, ?_, ?_, ?_, ?_, ?_⟩
  · intro i j hi hij hj
    rw [hr.out i (by omega), hr.out j (by omega)]
    exact h1 i j hi hij (by omega)
  · intro i j hi hij hj
    rw [hr.fst i (by omega) (by omega), hr.fst j (by omega) (by omega)]
    exact h2 _ _ (by omega) (by omega) (by omega)
  · intro i j hi hij hj
    rw [hr.snd i (by omega) (by omega), hr.snd j (by omega) (by omega)]
    exact h1 _ _ (by omega) (by omega) (by omega)
  · intro i j hi hij hj
    rw [hr.out i (by omega), hr.out j (by omega)]
    exact h2 i j (by omega) hij hj
  · intro i j hi hi2 hj hj2
    rw [hr.out i (by omega), hr.fst j (by omega) (by omega)]
    exact hx _ _ hi (by omega) (by omega) (by omega)
  · intro i j hi hi2 hj hj2
    rw [hr.snd i (by omega) (by omega), hr.out j (by omega)]
    exact hx _ _ (by omega) (by omega) (by omega) (by omega)
  · intro i j hi hi2 hj hj2
    by_cases c1 : i < s
    · rw [hr.out i (by omega)]
      by_cases c2 : j < e
      · rw [hr.snd j (by omega) c2]
        exact h1 _ _ hi (by omega) (by omega)
      · rw [hr.out j (by omega)]
        rcases hlo with h | h
        · omega
        · have := hx (s - 1) e (by omega) (by omega) (by omega) (by omega) h
          exact Ris.le K h1 hi (show i ≤ s - 1 by omega) (by omega) (Ris.ge K h2 (show m ≤ e by omega) (by omega) hj2 this)
    · rw [hr.fst i (by omega) (by omega)]
      by_cases c2 : j < e
      · rw [hr.snd j (by omega) c2]
        rcases hhi with h | h
        · omega
        · have := K.lr _ _ h
          exact Ris.le K h2 (by omega) (show i + (m - s) ≤ e - 1 by omega) (by omega) (Ris.ge K h1 (show a ≤ s by omega) (by omega) (by omega) this)
      · rw [hr.out j (by omega)]
        exact h2 _ _ (by omega) (by omega) hj2
/-- a merge: in place, and rising -/
def Merged (R : α → α → Prop) (a b : Nat) (d d' : Array α) : Prop := PermIn a b d d' ∧ Ris R a b d'
theorem PermIn.wide {a b a' b' : Nat} {d d' : Array α} (h : PermIn a b d d') (h1 : a' ≤ a) (h2 : b ≤ b') (h3 : b' ≤ d.size) : PermIn a' b' d d' := permIn_mono d d' a b a' b' h1 h2 h3 h
/-- one that is merged with those behind it -/
theorem one_left (K : Keep lt R) {a m b i : Nat} {d d' : Array α} (hm : m = a + 1) (h2 : Ris R m b d) (hx : Ahead lt R a m b d) (hb : b ≤ d.size) (hi : i ≤ b) (hr : Rot a m i d d') (hlo : i = b ∨ lt d[i]! d[a]! = false) (hhi : i = m ∨ lt d[i - 1]! d[a]! = true) : Merged R a b d d' := by
  subst hm
  have l2 := hr.le2
  have h1 : Ris R a (a + 1) d := fun i j h1 h2 h3 => by omega
  have hM := rot_mid K h1 h2 hx hr (Nat.le_refl _) hi (Or.inl (Or.inl rfl)) (by rcases hhi with h | h; exact Or.inl (Or.inr h); exact Or.inr h)
  refine ⟨PermIn.wide hr.perm (Nat.le_refl _) hi hb, Ris.glue (q := a + (i - (a + 1))) hM.r2 (Ris.glue (q := i) hM.r3 hM.r4 ?_) hM.cross⟩
  intro k j hk hk2 hj hj2
  rw [hr.snd k hk hk2, hr.out j (by omega)]
  rcases hlo with h | h
  · omega
  · have e : k - (i - (a + 1)) = a := by omega
    rw [e]
    exact Ris.ge K h2 (by omega) hj hj2 (hx a i (by omega) (by omega) (by omega) (by omega) h)
/-- those that are merged with one behind them -/
theorem one_right (K : Keep lt R) {a m b i : Nat} {d d' : Array α} (hm : b = m + 1) (h1 : Ris R a m d) (hx : Ahead lt R a m b d) (hb : b ≤ d.size) (hi : a ≤ i) (hr : Rot i m b d d') (hlo : i = a ∨ lt d[m]! d[i - 1]! = false) (hhi : i = m ∨ lt d[m]! d[i]! = true) : Merged R a b d d' := by
  subst hm
  have l1 := hr.le1
  have h2 : Ris R m (m + 1) d := fun i j h1 h2 h3 => by omega
  have hM := rot_mid K h1 h2 hx hr hi (Nat.le_refl _) (Or.inl (Or.inr rfl)) (by rcases hhi with h | h; exact Or.inl (Or.inl h); exact Or.inr h)
  refine ⟨PermIn.wide hr.perm hi (Nat.le_refl _) hb, Ris.glue (q := i + (m + 1 - m)) (Ris.glue (q := i) hM.r1 hM.r2 ?_) (Ris.glue (q := m + 1) hM.r3 hM.r4 (fun _ _ _ _ h3 h4 => by omega)) hM.cross⟩
  intro k j hk hk2 hj hj2
  rw [hr.out k (by omega), hr.fst j (by omega) (by omega)]
  rcases hlo with h | h
  · omega
  · have e : j + (m - i) = m := by omega
    rw [e]
    exact Ris.le K h1 hk (show k ≤ i - 1 by omega) (by omega) (hx (i - 1) m (by omega) (by omega) (by omega) (by omega) h)
/-- both sides of a merge, each merged by itself -/
theorem both {a mid b : Nat} {d d1 d2 d3 : Array α} (h1 : PermIn a b d d1) (hb : b ≤ d.size) (ham : a ≤ mid) (hmb : mid ≤ b) (hc : ∀ i j, a ≤ i → i < mid → mid ≤ j → j < b → R d1[i]! d1[j]!) (m1 : Merged R a mid d1 d2) (m2 : Merged R mid b d2 d3) : Merged R a b d d3 := by
  have s1 : d1.size = d.size := h1.1
  have s2 : d2.size = d1.size := m1.1.1
  have p1 : PermIn a b d1 d2 := PermIn.wide m1.1 (Nat.le_refl _) hmb (by omega)
  have p2 : PermIn a b d2 d3 := PermIn.wide m2.1 ham (Nat.le_refl _) (by omega)
  refine ⟨permIn_trans _ _ _ _ _ (permIn_trans _ _ _ _ _ h1 p1) p2, Ris.glue (q := mid) ?_ m2.2 ?_⟩
  · intro i j hi hij hj
    rw [m2.1.2.1 i (by omega), m2.1.2.1 j (by omega)]
    exact m1.2 i j hi hij hj
  · intro i j hi hi2 hj hj2
    rw [m2.1.2.1 i (by omega)]
    have A := permIn_all d1 d2 a mid (fun x => ∀ j, mid ≤ j → j < b → R x d1[j]!) (by omega) m1.1 (fun i hi hi2 j hj hj2 => hc i j hi hi2 hj hj2) i hi hi2
    have B := permIn_all d2 d3 mid b (fun y => R d2[i]! y) (by omega) m2.1 (fun j hj hj2 => by rw [m1.1.2.1 j (by omega)]; exact A j hj hj2) j hj hj2
    exact B
theorem Merged.none {a b : Nat} {d : Array α} (h : Ris R a b d) : Merged R a b d d := ⟨permIn_refl _ _ _, h⟩
/-- as they stood -/
def Stood (lt : α → α → Bool) (R : α → α → Prop) (a b : Nat) (d : Array α) : Prop := ∀ i j, a ≤ i → i < j → j < b → lt d[j]! d[i]! = false → R d[i]! d[j]!
/-- no mixture across the place c -/
def Cut (lt : α → α → Bool) (R : α → α → Prop) (c n : Nat) (d : Array α) : Prop := Ahead lt R 0 c n d
theorem Cut.perm {c n a b : Nat} {d d' : Array α} (h : Cut lt R c n d) (hp : PermIn a b d d') (hb : b ≤ d.size) (hbn : b ≤ n) (hc : b ≤ c ∨ c ≤ a) : Cut lt R c n d' := by
  intro i j hi hi2 hj hj2
  rcases hc with hc | hc
  · rw [hp.2.1 j (by omega)]
    by_cases c1 : a ≤ i ∧ i < b
    · exact permIn_all d d' a b (fun x => lt d[j]! x = false → R x d[j]!) hb hp (fun k hk hk2 => h k j (by omega) (by omega) hj hj2) i c1.1 c1.2
    · rw [hp.2.1 i (by omega)]
      exact h i j hi hi2 hj hj2
  · rw [hp.2.1 i (by omega)]
    by_cases c1 : a ≤ j ∧ j < b
    · exact permIn_all d d' a b (fun y => lt y d[i]! = false → R d[i]! y) hb hp (fun k hk hk2 => h i k (by omega) (by omega) (by omega) (by omega)) j c1.1 c1.2
    · rw [hp.2.1 j (by omega)]
      exact h i j hi hi2 hj hj2
theorem Ris.other {a b a' b' : Nat} {d d' : Array α} (h : Ris R a' b' d) (hp : PermIn a b d d') (hc : b' ≤ a ∨ b ≤ a') : Ris R a' b' d' := by
  intro i j hi hij hj
  rw [hp.2.1 i (by omega), hp.2.1 j (by omega)]
  exact h i j hi hij hj
end Go.Proofs.YtphmmnffgknkcaaDoor
/- Plain: pieces exchanged by swaps; one place moved by swaps (slices.SortStableFunc's rotations). -/
namespace Go.Proofs.YtphmmnffgknkcaaDoor
open Go.Sort
set_option maxRecDepth 100000
variable {α : Type} [Inhabited α]
/-- the k places from a on and the k places from b on, exchanged one by one -/
def swaps (a b : Nat) : Nat → Array α → Array α
  | 0, d => d
  | k + 1, d => swp (swaps a b k d) (a + k) (b + k)
theorem size_swaps (a b k : Nat) (d : Array α) : (swaps a b k d).size = d.size := by
  induction k with
  | zero => rfl
  | succ k ih => rw [swaps, size_swp, ih]
theorem swaps_other (a b k : Nat) (d : Array α) (x : Nat) (h1 : x < a ∨ a + k ≤ x) (h2 : x < b ∨ b + k ≤ x) : (swaps a b k d)[x]! = d[x]! := by
  induction k with
  | zero => rfl
  | succ k ih => rw [swaps, swp_other _ _ _ _ (by omega) (by omega), ih (by omega) (by omega)]
theorem swaps_fst (a b k : Nat) (d : Array α) (hab : a + k ≤ b) (hb : b + k ≤ d.size) (x : Nat) (h1 : a ≤ x) (h2 : x < a + k) : (swaps a b k d)[x]! = d[x + (b - a)]! := by
  induction k with
  | zero => omega
  | succ k ih =>
    rw [swaps]
    by_cases e : x = a + k
    · rw [e, swp_left _ _ _ (by rw [size_swaps]; omega) (by omega), swaps_other _ _ _ _ _ (by omega) (by omega)]
      congr 1; omega
    · rw [swp_other _ _ _ _ (by omega) (by omega)]
      exact ih (by omega) (by omega) (by omega)
theorem swaps_snd (a b k : Nat) (d : Array α) (hab : a + k ≤ b) (hb : b + k ≤ d.size) (x : Nat) (h1 : b ≤ x) (h2 : x < b + k) : (swaps a b k d)[x]! = d[x - (b - a)]! := by
  induction k with
  | zero => omega
  | succ k ih =>
    rw [swaps]
    by_cases e : x = b + k
    · rw [e, swp_right _ _ _ (by rw [size_swaps]; omega), swaps_other _ _ _ _ _ (by omega) (by omega)]
      congr 1; omega
    · rw [swp_other _ _ _ _ (by omega) (by omega)]
      exact ih (by omega) (by omega) (by omega)
theorem swaps_perm (a b k lo hi : Nat) (d : Array α) (h1 : lo ≤ a) (h2 : a + k ≤ hi) (h3 : lo ≤ b) (h4 : b + k ≤ hi) (hh : hi ≤ d.size) : PermIn lo hi d (swaps a b k d) := by
  induction k with
  | zero => exact permIn_refl _ _ _
  | succ k ih => exact permIn_trans _ _ _ _ _ (ih (by omega) (by omega)) (swp_permIn _ lo hi (a + k) (b + k) (by omega) (by omega) (by omega) (by omega) (by rw [size_swaps]; exact hh))
/-- the shorter piece lies behind -/
theorem rot_left {m i j : Nat} {d d' : Array α} (him : i ≤ m) (hji : j < i) (hs : m + j ≤ d.size) (h : Rot (m - (i - j)) m (m + j) (swaps (m - i) m j d) d') : Rot (m - i) m (m + j) d d' := by
  have h2 := h.perm
  refine ⟨by omega, by omega, hs, fun k hk hk2 => ?_, fun k hk hk2 => ?_, permIn_trans _ _ _ _ _ (swaps_perm _ _ _ (m - i) (m + j) d (by omega) (by omega) (by omega) (by omega) hs) (PermIn.wide h2 (by omega) (by omega) (by rw [size_swaps]; exact hs))⟩
  · rw [h.out k (by omega), swaps_fst _ _ _ _ (by omega) hs k hk (by omega)]
  · by_cases c : k < m
    · by_cases c2 : k < m - (i - j) + (m + j - m)
      · rw [h.fst k (by omega) c2, swaps_snd _ _ _ _ (by omega) hs _ (by omega) (by omega)]
        congr 1; omega
      · rw [h.snd k (by omega) (by omega), swaps_other _ _ _ _ _ (by omega) (by omega)]
    · by_cases c2 : k < m - (i - j) + (m + j - m)
      · rw [h.fst k (by omega) c2, swaps_snd _ _ _ _ (by omega) hs _ (by omega) (by omega)]
        congr 1; omega
      · rw [h.snd k (by omega) (by omega), swaps_other _ _ _ _ _ (by omega) (by omega)]
/-- the shorter piece lies ahead -/
theorem rot_right {m i j : Nat} {d d' : Array α} (him : i ≤ m) (hij : i < j) (hs : m + j ≤ d.size) (h : Rot (m - i) m (m + (j - i)) (swaps (m - i) (m + j - i) i d) d') : Rot (m - i) m (m + j) d d' := by
  have h2 := h.perm
  refine ⟨by omega, by omega, hs, fun k hk hk2 => ?_, fun k hk hk2 => ?_, permIn_trans _ _ _ _ _ (swaps_perm _ _ _ (m - i) (m + j) d (by omega) (by omega) (by omega) (by omega) hs) (PermIn.wide h2 (by omega) (by omega) (by rw [size_swaps]; exact hs))⟩
  · by_cases c2 : k < m - i + (m + (j - i) - m)
    · rw [h.fst k (by omega) c2, swaps_other _ _ _ _ _ (by omega) (by omega)]
    · rw [h.snd k (by omega) (by omega), swaps_fst _ _ _ _ (by omega) (by omega) _ (by omega) (by omega)]
      congr 1; omega
  · rw [h.out k (by omega), swaps_snd _ _ _ _ (by omega) (by omega) k (by omega) (by omega)]
    congr 1; omega
/-- both are as long -/
theorem rot_even {m i : Nat} {d : Array α} (him : i ≤ m) (hs : m + i ≤ d.size) : Rot (m - i) m (m + i) d (swaps (m - i) m i d) := by
  refine ⟨by omega, by omega, hs, fun k hk hk2 => ?_, fun k hk hk2 => ?_, swaps_perm _ _ _ (m - i) (m + i) d (by omega) (by omega) (by omega) (by omega) hs⟩
  · rw [swaps_fst _ _ _ _ (by omega) hs k hk (by omega)]
  · rw [swaps_snd _ _ _ _ (by omega) hs k (by omega) (by omega)]
    congr 1; omega
/-- the place a, moved up by k -/
theorem rot_up {a k : Nat} {d d' : Array α} (hs : a + 1 + k < d.size) (h : Rot a (a + 1) (a + 1 + k) d d') : Rot a (a + 1) (a + 1 + (k + 1)) d (swp d' (a + k) (a + k + 1)) := by
  have hz := h.size
  refine ⟨by omega, by omega, by omega, fun x hx hx2 => ?_, fun x hx hx2 => ?_, ?_⟩
  · by_cases e : x = a + k
    · rw [e, swp_left _ _ _ (by omega) (by omega), h.out _ (by omega)]
      congr 1; omega
    · rw [swp_other _ _ _ _ e (by omega), h.fst x hx (by omega)]
  · have e : x = a + k + 1 := by omega
    rw [e, swp_right _ _ _ (by omega), h.snd _ (by omega) (by omega)]
    congr 1; omega
  · exact permIn_trans _ _ _ _ _ (PermIn.wide h.perm (Nat.le_refl _) (by omega) (by omega)) (swp_permIn _ _ _ _ _ (by omega) (by omega) (by omega) (by omega) (by omega))
/-- the place m, moved down -/
theorem rot_down {m k : Nat} {d d' : Array α} (hk : k < m) (hs : m < d.size) (h : Rot (k + 1) m (m + 1) d d') : Rot k m (m + 1) d (swp d' (k + 1) k) := by
  have hz := h.size
  refine ⟨by omega, by omega, by omega, fun x hx hx2 => ?_, fun x hx hx2 => ?_, ?_⟩
  · have e : x = k := by omega
    rw [e, swp_right _ _ _ (by omega), h.fst _ (by omega) (by omega)]
    congr 1; omega
  · by_cases e : x = k + 1
    · rw [e, swp_left _ _ _ (by omega) (by omega), h.out _ (by omega)]
      congr 1; omega
    · rw [swp_other _ _ _ _ e (by omega), h.snd x (by omega) hx2]
  · exact permIn_trans _ _ _ _ _ (PermIn.wide h.perm (by omega) (Nat.le_refl _) (by omega)) (swp_permIn _ _ _ _ _ (by omega) (by omega) (by omega) (by omega) (by omega))
end Go.Proofs.YtphmmnffgknkcaaDoor
/- The walk of slices.swapRangeCmpFunc at trees: two pieces, exchanged place by place. -/
namespace Go.Proofs.YtphmmnffgknkcaaDoor
open Go.Shelf Go.RowKit Go.Lib Go.Sort
set_option maxRecDepth 100000
variable {α : Type} [Inhabited α]
set_option maxHeartbeats 4000000 in
set_option maxRecDepth 1000000 in
theorem swapRange_any (enc : α → Value) (g : Nat) (cb : Array Value) (blk off L cap a b n : Nat) (d0 d : Array α) (w0 w : World) (R : Row1 enc w0 blk off d0) (hs : d0.size = d.size) (hL : d.size = L) (S : SW enc w0 blk off d w) (hab : a + n ≤ b) (hb : b + n ≤ d.size) (hsz : d.size < 4611686018427387904) :
    Calls Tryd.prog 101 #[.slice (some ⟨blk, off, none⟩) L cap, .int .i64 a, .int .i64 b, .int .i64 n, .func (.func g) #[] cb] w fun e w' => e = .returned (.tuple #[]) ∧ SW enc w0 blk off (swaps a b n d) w' := by
  have mixed : Tryd.prog.follows .mixedOrders = true := by kernel_rfl
  have hcl0 := R.hO.cells
  simp only [Value.cells] at hcl0
  have hst := R.hO.store Tryd.prog
  have S0 : Aside (SW enc w0 blk off d w) := S
  clear S
  go_enter Tryd.func101, Tryd.ntmps101
  go_wp2
  go_loopg [10] n (fun kx s10 wr => ∃ (i : Nat) (dk : Array α), s10 = .int .i64 i ∧ i ≤ n ∧ n - i ≤ kx ∧ dk.size = d.size ∧ Aside (SW enc w0 blk off dk wr) ∧ Hid (dk = swaps a b i d))
  case atStart => exact ⟨0, d, rfl, by omega, by omega, rfl, S0, rfl⟩
  case round =>
    clear S0
    obtain ⟨i, dk, rfl, hin, hkx, hds, S1, HE⟩ := hrel
    by_cases hlt : i < n
    · have hltz : (i : Int) < (n : Int) := by omega
      go_wp2_with fail
      obtain ⟨iN, hiN⟩ : ∃ q, q = a + i := ⟨_, rfl⟩
      obtain ⟨jN, hjN⟩ : ∃ q, q = b + i := ⟨_, rfl⟩
      have ea : ((a : Int) + (i : Int)).toNat = iN := by omega
      have pa : (0 : Int) ≤ (a : Int) + (i : Int) := by omega
      have ba : (a : Int) + (i : Int) < (L : Int) := by omega
      have ra : IntKind.i64.wrap ((a : Int) + (i : Int)) = (a : Int) + (i : Int) := by rw [IntKind.wrap_i64]; omega
      have ec : ((b : Int) + (i : Int)).toNat = jN := by omega
      have pc : (0 : Int) ≤ (b : Int) + (i : Int) := by omega
      have bc : (b : Int) + (i : Int) < (L : Int) := by omega
      have rc : IntKind.i64.wrap ((b : Int) + (i : Int)) = (b : Int) + (i : Int) := by rw [IntKind.wrap_i64]; omega
      obtain ⟨x, hx⟩ : ∃ x, x = dk[a + i]! := ⟨_, rfl⟩
      obtain ⟨y, hy⟩ : ∃ x, x = dk[b + i]! := ⟨_, rfl⟩
      have S2 : Aside (SW enc w0 blk off (swp dk (a + i) (b + i)) ((wr.setCell ⟨blk, off + iN, none⟩ (enc y)).setCell ⟨blk, off + jN, none⟩ (enc x)).drew) := by rw [hiN, hjN, hx, hy]; exact S1.out.swapped R (a + i) (b + i) (by omega) (by omega)
      have ca := S1.out.c1 R (by omega) (a + i) (by omega)
      have cc := S1.out.c1 R (by omega) (b + i) (by omega)
      have fa := S1.out.f1 R (by omega) (a + i) (by omega)
      have fb := S1.out.f1 R (by omega) (b + i) (by omega)
      obtain ⟨u, cu⟩ := S1.out.c2 R (by omega) (a + i) (b + i) (by omega) (by omega) (enc y)
      rw [← hjN, ← hiN] at cu
      rw [← hx, ← hiN] at ca
      rw [← hy, ← hjN] at cc
      rw [← hiN] at fa
      rw [← hjN] at fb
      clear S1 hx hy hiN hjN
      go_wp2_with fail
      go_big_region_o
      clear ca cc cu fa fb
      generalize ((wr.setCell ⟨blk, off + iN, none⟩ (enc y)).setCell ⟨blk, off + jN, none⟩ (enc x)).drew = w2 at S2 ⊢
      clear ea ec
      go_wp2
      go_roundg (n - (i + 1))
      case measure => omega
      case rel => exact ⟨i + 1, swp dk (a + i) (b + i), by go_num, by omega, Nat.le_refl _, by rw [size_swp]; exact hds, S2, (show Hid _ from by show _ = _; rw [HE.out]; rfl)⟩
    · have e : i = n := by omega
      subst e
      have hltz : ¬ (i : Int) < (i : Int) := by omega
      go_wp2
      go_end0
      exact ⟨rfl, by rw [← HE.out]; exact S1.out⟩
set_option maxHeartbeats 4000000 in
set_option maxRecDepth 1000000 in
theorem rotate_any (enc : α → Value) (g : Nat) (cb : Array Value) (blk off L cap a m b : Nat) (d0 d : Array α) (w0 w : World) (R : Row1 enc w0 blk off d0) (hs : d0.size = d.size) (hL : d.size = L) (S : SW enc w0 blk off d w) (ham : a < m) (hmb : m < b) (hb : b ≤ d.size) (hsz : d.size < 4611686018427387904) :
    Calls Tryd.prog 95 #[.slice (some ⟨blk, off, none⟩) L cap, .int .i64 a, .int .i64 m, .int .i64 b, .func (.func g) #[] cb] w fun e w' => e = .returned (.tuple #[]) ∧ ∃ d', Rot a m b d d' ∧ SW enc w0 blk off d' w' := by
  have S0 : Aside (SW enc w0 blk off d w) := S
  have HR : Hid (Row1 enc w0 blk off d0) := R
  have CS : Aside (∀ (a b n : Nat) (dk : Array α) (w : World), dk.size = L → SW enc w0 blk off dk w → a + n ≤ b → b + n ≤ L → Calls Tryd.prog 101 #[.slice (some ⟨blk, off, none⟩) L cap, .int .i64 a, .int .i64 b, .int .i64 n, .func (.func g) #[] cb] w fun e w' => e = .returned (.tuple #[]) ∧ SW enc w0 blk off (swaps a b n dk) w') := fun a b n dk w h1 h2 h3 h4 => swapRange_any enc g cb blk off L cap a b n d0 dk w0 w R (by omega) h1 h2 h3 (by omega) (by omega)
  clear S R
  have r1 : IntKind.i64.wrap ((m : Int) - (a : Int)) = (m : Int) - (a : Int) := by rw [IntKind.wrap_i64]; omega
  have r2 : IntKind.i64.wrap ((b : Int) - (m : Int)) = (b : Int) - (m : Int) := by rw [IntKind.wrap_i64]; omega
  go_enter Tryd.func95, Tryd.ntmps95
  go_wp2
  clear r1 r2
  go_loopg [10, 11] (b - a) (fun kx s10 s11 wr => ∃ (i j : Nat) (dk : Array α), s10 = .int .i64 i ∧ s11 = .int .i64 j ∧ 0 < i ∧ i ≤ m ∧ 0 < j ∧ m + j ≤ L ∧ i + j ≤ kx ∧ dk.size = d.size ∧ Aside (SW enc w0 blk off dk wr) ∧ Hid (∀ d', Rot (m - i) m (m + j) dk d' → Rot a m b d d'))
  case atStart =>
    refine ⟨m - a, b - m, d, by congr 1; omega, by congr 1; omega, by omega, by omega, by omega, by omega, by omega, rfl, S0, fun d' h => ?_⟩
    rw [show m - (m - a) = a by omega, show m + (b - m) = b by omega] at h
    exact h
  case round =>
    clear S0
    obtain ⟨i, j, dk, rfl, rfl, hi0, him, hj0, hjm, hkx, hds, S1, HE⟩ := hrel
    have rm : IntKind.i64.wrap ((m : Int) - (i : Int)) = ((m - i : Nat) : Int) := by rw [IntKind.wrap_i64]; omega
    by_cases hij : i = j
    · subst hij
      have HE' : Hid (Rot a m b d (swaps (m - i) m i dk)) := HE.out _ (rot_even him (by omega))
      have hd : decide ((i : Int) ≠ (i : Int)) = false := decide_eq_false fun h => h rfl
      go_wp2_with (go_at_call 101; refine (CS.out (m - i) m i dk _ (by omega) S1.out (by omega) (by omega)).mono ?_; rintro e w2 ⟨rfl, hS⟩)
      go_end0
      exact ⟨rfl, _, HE'.out, hS⟩
    · have hne : (i : Int) ≠ (j : Int) := by omega
      have hd : decide ((i : Int) ≠ (j : Int)) = true := decide_eq_true hne
      by_cases hgt : j < i
      · have hg : decide ((i : Int) > (j : Int)) = true := decide_eq_true (by omega)
        have hg' : (j : Int) < (i : Int) := by omega
        have ri : IntKind.i64.wrap ((i : Int) - (j : Int)) = ((i - j : Nat) : Int) := by rw [IntKind.wrap_i64]; omega
        go_wp2_with (go_at_call 101; refine (CS.out (m - i) m j dk _ (by omega) S1.out (by omega) (by omega)).mono ?_; rintro e w2 ⟨rfl, hS⟩)
        go_roundg (i - j + j)
        case measure => omega
        case rel => exact ⟨i - j, j, swaps (m - i) m j dk, rfl, rfl, by omega, by omega, hj0, hjm, by omega, by rw [size_swaps]; exact hds, hS, fun d' h => HE.out d' (rot_left him hgt (by omega) h)⟩
      · have hg : decide ((i : Int) > (j : Int)) = false := decide_eq_false (by omega)
        have hg' : ¬ (j : Int) < (i : Int) := by omega
        have ri : IntKind.i64.wrap ((j : Int) - (i : Int)) = ((j - i : Nat) : Int) := by rw [IntKind.wrap_i64]; omega
        have r3 : IntKind.i64.wrap ((m : Int) + (j : Int)) = (m : Int) + (j : Int) := by rw [IntKind.wrap_i64]; omega
        have r4 : IntKind.i64.wrap ((m : Int) + (j : Int) - (i : Int)) = ((m + j - i : Nat) : Int) := by rw [IntKind.wrap_i64]; omega
        go_wp2_with (go_at_call 101; refine (CS.out (m - i) (m + j - i) i dk _ (by omega) S1.out (by omega) (by omega)).mono ?_; rintro e w2 ⟨rfl, hS⟩)
        go_roundg (i + (j - i))
        case measure => omega
        case rel => exact ⟨i, j - i, swaps (m - i) (m + j - i) i dk, rfl, rfl, hi0, him, by omega, by omega, by omega, by rw [size_swaps]; exact hds, hS, fun d' h => HE.out d' (rot_right him (by omega) (by omega) h)⟩
end Go.Proofs.YtphmmnffgknkcaaDoor
/- The walk of slices.symMergeCmpFunc at trees where one place is merged with those behind it. -/
namespace Go.Proofs.YtphmmnffgknkcaaDoor
open Go.Shelf Go.RowKit Go.Lib Go.Sort
set_option maxRecDepth 100000
variable {α : Type} [Inhabited α]
set_option maxHeartbeats 8000000 in
set_option maxRecDepth 1000000 in
theorem symLeft_any (enc : α → Value) (cf : α → α → Int) (Rr : α → α → Prop) (K : Keep (ltOf cf) Rr) (g : Nat) (cb : Array Value) (eg : ∀ args w, (callFunc g args).run Tryd.prog w = .ok (.enter g args) w) (blk off L cap a m b : Nat) (d0 d : Array α) (w0 w : World) (hcmp : CmpLays1 Tryd.prog g cb enc cf blk off d0.size w0) (R : Row1 enc w0 blk off d0) (hs : d0.size = d.size) (hL : d.size = L) (S : SW enc w0 blk off d w) (ham : m = a + 1) (hmb : m < b) (hb : b ≤ d.size) (hsz : d.size < 1000000000) (h2 : Ris Rr m b d) (hx : Ahead (ltOf cf) Rr a m b d) :
    Calls Tryd.prog 84 #[.slice (some ⟨blk, off, none⟩) L cap, .int .i64 a, .int .i64 m, .int .i64 b, .func (.func g) #[] cb] w fun e w' => e = .returned (.tuple #[]) ∧ ∃ d', Merged Rr a b d d' ∧ SW enc w0 blk off d' w' := by
  have mixed : Tryd.prog.follows .mixedOrders = true := by kernel_rfl
  have hcl0 := R.hO.cells
  simp only [Value.cells] at hcl0
  have hst := R.hO.store Tryd.prog
  have HC : Aside _ := hcmp
  have HM : Hid (∀ i d', i ≤ b → Rot a m i d d' → (i = b ∨ ltOf cf d[i]! d[a]! = false) → (i = m ∨ ltOf cf d[i - 1]! d[a]! = true) → Merged Rr a b d d') := fun i d' hi hr hlo hhi => one_left K ham h2 hx hb hi hr hlo hhi
  have HAM : Hid (m = a + 1) := ham
  have hm1 : m ≤ a + 1 := Nat.le_of_eq ham
  have hm2 : a + 1 ≤ m := Nat.le_of_eq ham.symm
  clear h2 hx K hcmp ham
  have S0 : Aside (SW enc w0 blk off d w) := S
  clear S
  have e0 : IntKind.i64.wrap ((m : Int) - (a : Int)) = 1 := by rw [IntKind.wrap_i64]; omega
  go_enter Tryd.func84, Tryd.ntmps84
  go_wp2
  clear e0
  go_loopg [10, 11] (b - m) (fun kx s10 s11 wr => ∃ (i j : Nat), s10 = .int .i64 i ∧ s11 = .int .i64 j ∧ m ≤ i ∧ i ≤ j ∧ j ≤ b ∧ j - i ≤ kx ∧ Aside (SW enc w0 blk off d wr) ∧ Hid (i = m ∨ ltOf cf d[i - 1]! d[a]! = true) ∧ Hid (j = b ∨ ltOf cf d[j]! d[a]! = false))
  case atStart => exact ⟨m, b, rfl, rfl, by omega, by omega, by omega, by omega, S0, Or.inl rfl, Or.inl rfl⟩
  case round =>
    clear S0
    obtain ⟨i, j, rfl, rfl, hmi, hij, hjb, hkx, S1, H1, H2⟩ := hrel
    by_cases hlt : i < j
    · have hltz : (i : Int) < (j : Int) := by omega
      have rs : IntKind.i64.wrap ((i : Int) + (j : Int)) = (i : Int) + (j : Int) := by rw [IntKind.wrap_i64]; omega
      go_wp2_with fail
      obtain ⟨h, hh1, hh2, eh⟩ : ∃ h : Nat, i ≤ h ∧ h < j ∧ ((i : Int) + (j : Int)) / 2 = (h : Int) := ⟨(i + j) / 2, by omega, by omega, by omega⟩
      simp only [eh]
      clear eh rs
      cases hlv : ltOf cf d[h]! d[a]! with
      | true =>
        obtain ⟨iNp, hiNp⟩ : ∃ q, q = h := ⟨_, rfl⟩
        obtain ⟨jNp, hjNp⟩ : ∃ q, q = a := ⟨_, rfl⟩
        have eap : ((h : Int)).toNat = iNp := by omega
        have pap : (0 : Int) ≤ (h : Int) := by omega
        have bap : (h : Int) < (L : Int) := by omega
        have rap : IntKind.i64.wrap ((h : Int)) = (h : Int) := by rw [IntKind.wrap_i64]; omega
        have ecp : ((a : Int)).toNat = jNp := by omega
        have pcp : (0 : Int) ≤ (a : Int) := by omega
        have bcp : (a : Int) < (L : Int) := by omega
        obtain ⟨xp, hxp⟩ : ∃ x, x = d[h]! := ⟨_, rfl⟩
        obtain ⟨yp, hyp⟩ : ∃ x, x = d[a]! := ⟨_, rfl⟩
        have lap := S1.out.cl R (by omega) (h) (by omega)
        have lbp := S1.out.cl R (by omega) (a) (by omega)
        rw [← hxp, ← hiNp] at lap
        rw [← hyp, ← hjNp] at lbp
        have hcp := S1.out.cmp HC.out (by omega) xp yp
        have hvp : cf xp yp < 0 := by rw [hxp, hyp]; exact of_decide_eq_true hlv
        have hdp : decide (cf xp yp < 0) = true := decide_eq_true hvp
        clear hxp hyp hiNp hjNp
        go_quiet_grown (first | (go_at_fn g; refine Calls.grown_of (hcp _ _)))
        have S2 : Aside (SW enc w0 blk off d (grow (wr.drewN nq) osq)) := S1.out.grown nq osq
        clear lap lbp hcp S1
        generalize grow (wr.drewN nq) osq = wp at S2 ⊢
        clear nq osq
        clear eap ecp
        go_wp2
        go_roundg (j - (h + 1))
        case measure => omega
        case rel => exact ⟨h + 1, j, by first | rfl | go_num, rfl, by omega, by omega, hjb, Nat.le_refl _, S2, Or.inr hlv, H2⟩
      | false =>
        obtain ⟨iNp, hiNp⟩ : ∃ q, q = h := ⟨_, rfl⟩
        obtain ⟨jNp, hjNp⟩ : ∃ q, q = a := ⟨_, rfl⟩
        have eap : ((h : Int)).toNat = iNp := by omega
        have pap : (0 : Int) ≤ (h : Int) := by omega
        have bap : (h : Int) < (L : Int) := by omega
        have rap : IntKind.i64.wrap ((h : Int)) = (h : Int) := by rw [IntKind.wrap_i64]; omega
        have ecp : ((a : Int)).toNat = jNp := by omega
        have pcp : (0 : Int) ≤ (a : Int) := by omega
        have bcp : (a : Int) < (L : Int) := by omega
        obtain ⟨xp, hxp⟩ : ∃ x, x = d[h]! := ⟨_, rfl⟩
        obtain ⟨yp, hyp⟩ : ∃ x, x = d[a]! := ⟨_, rfl⟩
        have lap := S1.out.cl R (by omega) (h) (by omega)
        have lbp := S1.out.cl R (by omega) (a) (by omega)
        rw [← hxp, ← hiNp] at lap
        rw [← hyp, ← hjNp] at lbp
        have hcp := S1.out.cmp HC.out (by omega) xp yp
        have hvp : ¬ cf xp yp < 0 := by rw [hxp, hyp]; exact of_decide_eq_false hlv
        have hdp : decide (cf xp yp < 0) = false := decide_eq_false hvp
        clear hxp hyp hiNp hjNp
        go_quiet_grown (first | (go_at_fn g; refine Calls.grown_of (hcp _ _)))
        have S2 : Aside (SW enc w0 blk off d (grow (wr.drewN nq) osq)) := S1.out.grown nq osq
        clear lap lbp hcp S1
        generalize grow (wr.drewN nq) osq = wp at S2 ⊢
        clear nq osq
        clear eap ecp
        go_wp2
        go_roundg (h - i)
        case measure => omega
        case rel => exact ⟨i, h, rfl, by first | rfl | go_num, hmi, by omega, by omega, Nat.le_refl _, S2, H1, Or.inr hlv⟩
    · have e : j = i := by omega
      subst e
      have hltz : ¬ (j : Int) < (j : Int) := by omega
      have HM2 : Hid (∀ d', Rot a m j d d' → Merged Rr a b d d') := fun d' h => HM.out j d' hjb h H2.out H1.out
      clear HM H1 H2 HC
      have r0 : IntKind.i64.wrap ((j : Int) - 1) = (j : Int) - 1 := by rw [IntKind.wrap_i64]; omega
      go_wp2
      go_loopg [13] (j - 1 - a) (fun kx s13 wr => ∃ (k : Nat) (dk : Array α), s13 = .int .i64 k ∧ a ≤ k ∧ k ≤ j - 1 ∧ j - 1 - k ≤ kx ∧ dk.size = d.size ∧ Aside (SW enc w0 blk off dk wr) ∧ Hid (Rot a (a + 1) (a + 1 + (k - a)) d dk))
      case atStart => exact ⟨a, d, rfl, Nat.le_refl _, by omega, Nat.le_refl _, rfl, S1, Rot.none (by omega) (by omega) (by omega) (Or.inr (by omega))⟩
      case round =>
        clear S1
        obtain ⟨k, dk, rfl, hak, hkj, hkx2, hds, S2, HE⟩ := hrel
        by_cases hk : k < j - 1
        · have hkz : (k : Int) < (j : Int) - 1 := by omega
          go_wp2_with fail
          obtain ⟨iNq, hiNq⟩ : ∃ q, q = k := ⟨_, rfl⟩
          obtain ⟨jNq, hjNq⟩ : ∃ q, q = k + 1 := ⟨_, rfl⟩
          have eaq : ((k : Int)).toNat = iNq := by omega
          have paq : (0 : Int) ≤ (k : Int) := by omega
          have baq : (k : Int) < (L : Int) := by omega
          have raq : IntKind.i64.wrap ((k : Int)) = (k : Int) := by rw [IntKind.wrap_i64]; omega
          have ecq : ((k : Int) + 1).toNat = jNq := by omega
          have pcq : (0 : Int) ≤ (k : Int) + 1 := by omega
          have bcq : (k : Int) + 1 < (L : Int) := by omega
          have rcq : IntKind.i64.wrap ((k : Int) + 1) = (k : Int) + 1 := by rw [IntKind.wrap_i64]; omega
          obtain ⟨xq, hxq⟩ : ∃ x, x = dk[k]! := ⟨_, rfl⟩
          obtain ⟨yq, hyq⟩ : ∃ x, x = dk[k + 1]! := ⟨_, rfl⟩
          have S3 : Aside (SW enc w0 blk off (swp dk (k) (k + 1)) ((wr.setCell ⟨blk, off + iNq, none⟩ (enc yq)).setCell ⟨blk, off + jNq, none⟩ (enc xq)).drew) := by rw [hiNq, hjNq, hxq, hyq]; exact S2.out.swapped R (k) (k + 1) (by omega) (by omega)
          have caq := S2.out.c1 R (by omega) (k) (by omega)
          have ccq := S2.out.c1 R (by omega) (k + 1) (by omega)
          have faq := S2.out.f1 R (by omega) (k) (by omega)
          have fbq := S2.out.f1 R (by omega) (k + 1) (by omega)
          obtain ⟨uq, cuq⟩ := S2.out.c2 R (by omega) (k) (k + 1) (by omega) (by omega) (enc yq)
          rw [← hjNq, ← hiNq] at cuq
          rw [← hxq, ← hiNq] at caq
          rw [← hyq, ← hjNq] at ccq
          rw [← hiNq] at faq
          rw [← hjNq] at fbq
          clear S2 hxq hyq hiNq hjNq
          go_wp2_with fail
          go_big_region_o
          clear caq ccq cuq faq fbq
          generalize ((wr.setCell ⟨blk, off + iNq, none⟩ (enc yq)).setCell ⟨blk, off + jNq, none⟩ (enc xq)).drew = wq at S3 ⊢
          clear eaq ecq
          go_wp2
          go_roundg (j - 1 - (k + 1))
          case measure => omega
          case rel =>
            refine ⟨k + 1, swp dk k (k + 1), by go_num, by omega, by omega, Nat.le_refl _, by rw [size_swp]; exact hds, S3, ?_⟩
            show Rot _ _ _ _ _
            have := rot_up (by omega) HE.out
            rw [show a + (k - a) = k by omega] at this
            rw [show k + 1 - a = k - a + 1 by omega]
            exact this
        · have hkz : ¬ (k : Int) < (j : Int) - 1 := by omega
          have ek : a + 1 + (k - a) = j := by omega
          go_wp2
          (try simp only [Exit.inBlock, Exit.then]); refine bodyPost_ret (results_none rfl _ _ _) rfl ?_
          refine ⟨rfl, dk, HM2.out dk ?_, S2.out⟩
          have := HE.out
          rw [ek] at this
          rw [HAM.out]
          exact this
end Go.Proofs.YtphmmnffgknkcaaDoor
/- The walk of slices.symMergeCmpFunc at trees where those of one piece are merged with one place behind them. -/
namespace Go.Proofs.YtphmmnffgknkcaaDoor
open Go.Shelf Go.RowKit Go.Lib Go.Sort
set_option maxRecDepth 100000
variable {α : Type} [Inhabited α]
set_option maxHeartbeats 8000000 in
set_option maxRecDepth 1000000 in
theorem symRight_any (enc : α → Value) (cf : α → α → Int) (Rr : α → α → Prop) (K : Keep (ltOf cf) Rr) (g : Nat) (cb : Array Value) (eg : ∀ args w, (callFunc g args).run Tryd.prog w = .ok (.enter g args) w) (blk off L cap a m b : Nat) (d0 d : Array α) (w0 w : World) (hcmp : CmpLays1 Tryd.prog g cb enc cf blk off d0.size w0) (R : Row1 enc w0 blk off d0) (hs : d0.size = d.size) (hL : d.size = L) (S : SW enc w0 blk off d w) (ham : a < m) (ham1 : m ≠ a + 1) (hmb : b = m + 1) (hb : b ≤ d.size) (hsz : d.size < 1000000000) (h1 : Ris Rr a m d) (hx : Ahead (ltOf cf) Rr a m b d) :
    Calls Tryd.prog 84 #[.slice (some ⟨blk, off, none⟩) L cap, .int .i64 a, .int .i64 m, .int .i64 b, .func (.func g) #[] cb] w fun e w' => e = .returned (.tuple #[]) ∧ ∃ d', Merged Rr a b d d' ∧ SW enc w0 blk off d' w' := by
  have mixed : Tryd.prog.follows .mixedOrders = true := by kernel_rfl
  have hcl0 := R.hO.cells
  simp only [Value.cells] at hcl0
  have hst := R.hO.store Tryd.prog
  have HC : Aside _ := hcmp
  have HM : Hid (∀ i d', a ≤ i → Rot i m b d d' → (i = a ∨ ltOf cf d[m]! d[i - 1]! = false) → (i = m ∨ ltOf cf d[m]! d[i]! = true) → Merged Rr a b d d') := fun i d' hi hr hlo hhi => one_right K hmb h1 hx hb hi hr hlo hhi
  have HAM : Hid (b = m + 1) := hmb
  have hm1 : b ≤ m + 1 := Nat.le_of_eq hmb
  have hm2 : m + 1 ≤ b := Nat.le_of_eq hmb.symm
  clear h1 hx K hcmp hmb
  have S0 : Aside (SW enc w0 blk off d w) := S
  clear S
  have e0 : IntKind.i64.wrap ((m : Int) - (a : Int)) = (m : Int) - (a : Int) := by rw [IntKind.wrap_i64]; omega
  have e1 : ((m : Int) - (a : Int) == 1) = false := by rw [beq_eq_false_iff_ne]; omega
  have e1' : ¬ ((m : Int) - (a : Int) = 1) := by omega
  have e2 : IntKind.i64.wrap ((b : Int) - (m : Int)) = 1 := by rw [IntKind.wrap_i64]; omega
  go_enter Tryd.func84, Tryd.ntmps84
  go_wp2
  clear e0 e1 e2
  go_loopg [14, 15] (m - a) (fun kx s10 s11 wr => ∃ (i j : Nat), s10 = .int .i64 i ∧ s11 = .int .i64 j ∧ a ≤ i ∧ i ≤ j ∧ j ≤ m ∧ j - i ≤ kx ∧ Aside (SW enc w0 blk off d wr) ∧ Hid (i = a ∨ ltOf cf d[m]! d[i - 1]! = false) ∧ Hid (j = m ∨ ltOf cf d[m]! d[j]! = true))
  case atStart => exact ⟨a, m, rfl, rfl, by omega, by omega, by omega, by omega, S0, Or.inl rfl, Or.inl rfl⟩
  case round =>
    clear S0
    obtain ⟨i, j, rfl, rfl, hmi, hij, hjb, hkx, S1, H1, H2⟩ := hrel
    by_cases hlt : i < j
    · have hltz : (i : Int) < (j : Int) := by omega
      have rs : IntKind.i64.wrap ((i : Int) + (j : Int)) = (i : Int) + (j : Int) := by rw [IntKind.wrap_i64]; omega
      go_wp2_with fail
      obtain ⟨h, hh1, hh2, eh⟩ : ∃ h : Nat, i ≤ h ∧ h < j ∧ ((i : Int) + (j : Int)) / 2 = (h : Int) := ⟨(i + j) / 2, by omega, by omega, by omega⟩
      simp only [eh]
      clear eh rs
      cases hlv : ltOf cf d[m]! d[h]! with
      | false =>
        obtain ⟨iNp, hiNp⟩ : ∃ q, q = m := ⟨_, rfl⟩
        obtain ⟨jNp, hjNp⟩ : ∃ q, q = h := ⟨_, rfl⟩
        have eap : ((m : Int)).toNat = iNp := by omega
        have pap : (0 : Int) ≤ (m : Int) := by omega
        have bap : (m : Int) < (L : Int) := by omega
        have rap : IntKind.i64.wrap ((m : Int)) = (m : Int) := by rw [IntKind.wrap_i64]; omega
        have ecp : ((h : Int)).toNat = jNp := by omega
        have pcp : (0 : Int) ≤ (h : Int) := by omega
        have bcp : (h : Int) < (L : Int) := by omega
        obtain ⟨xp, hxp⟩ : ∃ x, x = d[m]! := ⟨_, rfl⟩
        obtain ⟨yp, hyp⟩ : ∃ x, x = d[h]! := ⟨_, rfl⟩
        have lap := S1.out.cl R (by omega) (m) (by omega)
        have lbp := S1.out.cl R (by omega) (h) (by omega)
        rw [← hxp, ← hiNp] at lap
        rw [← hyp, ← hjNp] at lbp
        have hcp := S1.out.cmp HC.out (by omega) xp yp
        have hvp : ¬ cf xp yp < 0 := by rw [hxp, hyp]; exact of_decide_eq_false hlv
        have hdp : decide (cf xp yp < 0) = false := decide_eq_false hvp
        clear hxp hyp hiNp hjNp
        go_quiet_grown (first | (go_at_fn g; refine Calls.grown_of (hcp _ _)))
        have S2 : Aside (SW enc w0 blk off d (grow (wr.drewN nq) osq)) := S1.out.grown nq osq
        clear lap lbp hcp S1
        generalize grow (wr.drewN nq) osq = wp at S2 ⊢
        clear nq osq
        clear eap ecp
        go_wp2
        go_roundg (j - (h + 1))
        case measure => omega
        case rel => exact ⟨h + 1, j, by first | rfl | go_num, rfl, by omega, by omega, hjb, Nat.le_refl _, S2, Or.inr hlv, H2⟩
      | true =>
        obtain ⟨iNp, hiNp⟩ : ∃ q, q = m := ⟨_, rfl⟩
        obtain ⟨jNp, hjNp⟩ : ∃ q, q = h := ⟨_, rfl⟩
        have eap : ((m : Int)).toNat = iNp := by omega
        have pap : (0 : Int) ≤ (m : Int) := by omega
        have bap : (m : Int) < (L : Int) := by omega
        have rap : IntKind.i64.wrap ((m : Int)) = (m : Int) := by rw [IntKind.wrap_i64]; omega
        have ecp : ((h : Int)).toNat = jNp := by omega
        have pcp : (0 : Int) ≤ (h : Int) := by omega
        have bcp : (h : Int) < (L : Int) := by omega
        obtain ⟨xp, hxp⟩ : ∃ x, x = d[m]! := ⟨_, rfl⟩
        obtain ⟨yp, hyp⟩ : ∃ x, x = d[h]! := ⟨_, rfl⟩
        have lap := S1.out.cl R (by omega) (m) (by omega)
        have lbp := S1.out.cl R (by omega) (h) (by omega)
        rw [← hxp, ← hiNp] at lap
        rw [← hyp, ← hjNp] at lbp
        have hcp := S1.out.cmp HC.out (by omega) xp yp
        have hvp : cf xp yp < 0 := by rw [hxp, hyp]; exact of_decide_eq_true hlv
        have hdp : decide (cf xp yp < 0) = true := decide_eq_true hvp
        clear hxp hyp hiNp hjNp
        go_quiet_grown (first | (go_at_fn g; refine Calls.grown_of (hcp _ _)))
        have S2 : Aside (SW enc w0 blk off d (grow (wr.drewN nq) osq)) := S1.out.grown nq osq
        clear lap lbp hcp S1
        generalize grow (wr.drewN nq) osq = wp at S2 ⊢
        clear nq osq
        clear eap ecp
        go_wp2
        go_roundg (h - i)
        case measure => omega
        case rel => exact ⟨i, h, rfl, by first | rfl | go_num, hmi, by omega, by omega, Nat.le_refl _, S2, H1, Or.inr hlv⟩
    · have e : j = i := by omega
      subst e
      have hltz : ¬ (j : Int) < (j : Int) := by omega
      have HM2 : Hid (∀ d', Rot j m b d d' → Merged Rr a b d d') := fun d' h => HM.out j d' hmi h H1.out H2.out
      clear HM H1 H2 HC
      go_wp2
      go_loopg [17] (m - j) (fun kx s13 wr => ∃ (k : Nat) (dk : Array α), s13 = .int .i64 k ∧ j ≤ k ∧ k ≤ m ∧ k - j ≤ kx ∧ dk.size = d.size ∧ Aside (SW enc w0 blk off dk wr) ∧ Hid (Rot k m (m + 1) d dk))
      case atStart => exact ⟨m, d, rfl, by omega, by omega, Nat.le_refl _, rfl, S1, Rot.none (by omega) (by omega) (by omega) (Or.inl rfl)⟩
      case round =>
        clear S1
        obtain ⟨k, dk, rfl, hak, hkj, hkx2, hds, S2, HE⟩ := hrel
        by_cases hk : j < k
        · have hkz : (j : Int) < (k : Int) := by omega
          obtain ⟨kp, rfl⟩ : ∃ q, k = q + 1 := ⟨k - 1, by omega⟩
          have hkz2 : (j : Int) < (kp : Int) + 1 := by omega
          have rk : IntKind.i64.wrap ((kp : Int) + 1 - 1) = (kp : Int) := by rw [IntKind.wrap_i64]; omega
          go_wp2_with fail
          obtain ⟨iNq, hiNq⟩ : ∃ q, q = kp + 1 := ⟨_, rfl⟩
          obtain ⟨jNq, hjNq⟩ : ∃ q, q = kp := ⟨_, rfl⟩
          have eaq : ((kp : Int) + 1).toNat = iNq := by omega
          have paq : (0 : Int) ≤ (kp : Int) + 1 := by omega
          have baq : (kp : Int) + 1 < (L : Int) := by omega
          have raq : IntKind.i64.wrap ((kp : Int) + 1) = (kp : Int) + 1 := by rw [IntKind.wrap_i64]; omega
          have ecq : ((kp : Int)).toNat = jNq := by omega
          have pcq : (0 : Int) ≤ (kp : Int) := by omega
          have bcq : (kp : Int) < (L : Int) := by omega
          have rcq : IntKind.i64.wrap ((kp : Int)) = (kp : Int) := by rw [IntKind.wrap_i64]; omega
          obtain ⟨xq, hxq⟩ : ∃ x, x = dk[kp + 1]! := ⟨_, rfl⟩
          obtain ⟨yq, hyq⟩ : ∃ x, x = dk[kp]! := ⟨_, rfl⟩
          have S3 : Aside (SW enc w0 blk off (swp dk (kp + 1) (kp)) ((wr.setCell ⟨blk, off + iNq, none⟩ (enc yq)).setCell ⟨blk, off + jNq, none⟩ (enc xq)).drew) := by rw [hiNq, hjNq, hxq, hyq]; exact S2.out.swapped R (kp + 1) (kp) (by omega) (by omega)
          have caq := S2.out.c1 R (by omega) (kp + 1) (by omega)
          have ccq := S2.out.c1 R (by omega) (kp) (by omega)
          have faq := S2.out.f1 R (by omega) (kp + 1) (by omega)
          have fbq := S2.out.f1 R (by omega) (kp) (by omega)
          obtain ⟨uq, cuq⟩ := S2.out.c2 R (by omega) (kp + 1) (kp) (by omega) (by omega) (enc yq)
          rw [← hiNq, ← hjNq] at cuq
          rw [← hxq, ← hiNq] at caq
          rw [← hyq, ← hjNq] at ccq
          rw [← hiNq] at faq
          rw [← hjNq] at fbq
          clear S2 hxq hyq hiNq hjNq
          go_wp2_with fail
          go_big_region_o
          clear caq ccq cuq faq fbq
          generalize ((wr.setCell ⟨blk, off + iNq, none⟩ (enc yq)).setCell ⟨blk, off + jNq, none⟩ (enc xq)).drew = wq at S3 ⊢
          clear eaq ecq
          go_wp2
          go_roundg (kp - j)
          case measure => omega
          case rel => exact ⟨kp, swp dk (kp + 1) kp, by first | rfl | go_num, by omega, by omega, Nat.le_refl _, by rw [size_swp]; exact hds, S3, rot_down (by omega) (by omega) HE.out⟩
        · have hkz : ¬ (j : Int) < (k : Int) := by omega
          have ek : k = j := by omega
          go_wp2
          (try simp only [Exit.inBlock, Exit.then]); refine bodyPost_ret (results_none rfl _ _ _) rfl ?_
          refine ⟨rfl, dk, HM2.out dk ?_, S2.out⟩
          have := HE.out
          rw [ek, ← HAM.out] at this
          exact this
end Go.Proofs.YtphmmnffgknkcaaDoor
/- Plain: a merge that exchanges two pieces and merges both sides (slices.SortStableFunc). -/
namespace Go.Proofs.YtphmmnffgknkcaaDoor
open Go.Sort
set_option maxRecDepth 100000
variable {α : Type} [Inhabited α] {lt : α → α → Bool} {R : α → α → Prop}
theorem mid_left {a s mid e b : Nat} {d : Array α} (M : Mid lt R a s mid e b d) (h1 : a ≤ s) (h2 : s ≤ mid) (h : ¬ (a < s ∧ s < mid)) : Ris R a mid d := by
  by_cases e1 : s = a
  · subst e1; exact M.r2
  · have e2 : s = mid := by omega
    subst e2; exact M.r1
theorem mid_right {a s mid e b : Nat} {d d2 : Array α} (M : Mid lt R a s mid e b d) (h1 : mid ≤ e) (h2 : e ≤ b) (hp : PermIn a mid d d2) (h : ¬ (mid < e ∧ e < b)) : Ris R mid b d2 := by
  refine Ris.other ?_ hp (Or.inr (Nat.le_refl _))
  by_cases e1 : e = mid
  · subst e1; exact M.r4
  · have e2 : e = b := by omega
    subst e2; exact M.r3
theorem mid_ahead {a s mid e b : Nat} {d d2 : Array α} (M : Mid lt R a s mid e b d) (h1 : mid ≤ e) (hp : PermIn a mid d d2) : Ris R mid e d2 ∧ Ris R e b d2 ∧ Ahead lt R mid e b d2 := by
  refine ⟨M.r3.other hp (Or.inr (Nat.le_refl _)), M.r4.other hp (Or.inr h1), fun i j hi hi2 hj hj2 => ?_⟩
  rw [hp.2.1 i (by omega), hp.2.1 j (by omega)]
  exact M.a2 i j hi hi2 hj hj2
theorem mid_of (K : Keep lt R) {a m b s e mid n p lo hi : Nat} {d d1 : Array α} (h1 : Ris R a m d) (h2 : Ris R m b d) (hx : Ahead lt R a m b d) (hr : Rot s m e d d1) (hn : n = mid + m) (hp : p + 1 = n) (he : e = n - s) (hm : 2 * mid ≤ a + b ∧ a + b ≤ 2 * mid + 1) (ham : a < m) (hmb : m < b) (hlh : (mid < m ∧ lo = n - b ∧ hi = mid) ∨ (m ≤ mid ∧ lo = a ∧ hi = m)) (hs1 : lo ≤ s) (hs2 : s ≤ hi) (i1 : s = lo ∨ lt d[p - (s - 1)]! d[s - 1]! = false) (i2 : s = hi ∨ lt d[p - s]! d[s]! = true) : Mid lt R a s mid e b d1 := by
  have := rot_mid (s := s) (e := e) K h1 h2 hx hr (by omega) (by omega) ?_ ?_
  · rw [show s + (e - m) = mid by omega] at this
    exact this
  · rcases i1 with h | h
    · exact Or.inl (by omega)
    · by_cases c : s = lo
      · exact Or.inl (by omega)
      · rw [show p - (s - 1) = e by omega] at h
        exact Or.inr h
  · rcases i2 with h | h
    · exact Or.inl (by omega)
    · by_cases c : s = hi
      · exact Or.inl (by omega)
      · rw [show p - s = e - 1 by omega] at h
        exact Or.inr h
end Go.Proofs.YtphmmnffgknkcaaDoor
/- The walk of slices.symMergeCmpFunc at trees: two pieces exchanged, both sides merged (the middle lies ahead of the second piece). -/
namespace Go.Proofs.YtphmmnffgknkcaaDoor
open Go.Shelf Go.RowKit Go.Lib Go.Sort
set_option maxRecDepth 100000
variable {α : Type} [Inhabited α]
set_option maxHeartbeats 8000000 in
set_option maxRecDepth 1000000 in
theorem symMidA_any (enc : α → Value) (cf : α → α → Int) (Rr : α → α → Prop) (K : Keep (ltOf cf) Rr) (g : Nat) (cb : Array Value) (eg : ∀ args w, (callFunc g args).run Tryd.prog w = .ok (.enter g args) w) (blk off L cap a m b : Nat) (d0 d : Array α) (w0 w : World) (hcmp : CmpLays1 Tryd.prog g cb enc cf blk off d0.size w0) (R : Row1 enc w0 blk off d0) (hs : d0.size = d.size) (hL : d.size = L) (S : SW enc w0 blk off d w) (NN : Nat) (hNN : b - a ≤ NN) (IH : (∀ (a m b : Nat) (d : Array α) (w : World), b - a < NN → d0.size = d.size → SW enc w0 blk off d w → a < m → m < b → b ≤ d.size → Ris Rr a m d → Ris Rr m b d → Ahead (ltOf cf) Rr a m b d → Calls Tryd.prog 84 #[.slice (some ⟨blk, off, none⟩) L cap, .int .i64 a, .int .i64 m, .int .i64 b, .func (.func g) #[] cb] w fun e w' => e = .returned (.tuple #[]) ∧ ∃ d', Merged Rr a b d d' ∧ SW enc w0 blk off d' w')) (ham : a < m) (ham1 : m ≠ a + 1) (hmb : m < b) (hmb1 : b ≠ m + 1) (mid : Nat) (hmid : 2 * mid ≤ a + b ∧ a + b ≤ 2 * mid + 1) (hcase : mid < m) (hb : b ≤ d.size) (hsz : d.size < 1000000000) (h1 : Ris Rr a m d) (h2 : Ris Rr m b d) (hx : Ahead (ltOf cf) Rr a m b d) :
    Calls Tryd.prog 84 #[.slice (some ⟨blk, off, none⟩) L cap, .int .i64 a, .int .i64 m, .int .i64 b, .func (.func g) #[] cb] w fun e w' => e = .returned (.tuple #[]) ∧ ∃ d', Merged Rr a b d d' ∧ SW enc w0 blk off d' w' := by
  have mixed : Tryd.prog.follows .mixedOrders = true := by kernel_rfl
  have hcl0 := R.hO.cells
  simp only [Value.cells] at hcl0
  have hst := R.hO.store Tryd.prog
  have HC : Aside _ := hcmp
  obtain ⟨n, hn⟩ : ∃ n, n = mid + m := ⟨_, rfl⟩
  obtain ⟨p, hp⟩ : ∃ p, p + 1 = n := ⟨n - 1, by omega⟩
  obtain ⟨lo, hlo⟩ : ∃ x, x = n - b := ⟨_, rfl⟩
  obtain ⟨hi, hhi⟩ : ∃ x, x = mid := ⟨_, rfl⟩
  have HLO : Hid (lo = n - b) := hlo
  have HHI : Hid (hi = mid) := hhi
  have HMo : Hid (∀ s e d1, Rot s m e d d1 → e = n - s → lo ≤ s → s ≤ hi → (s = lo ∨ ltOf cf d[p - (s - 1)]! d[s - 1]! = false) → (s = hi ∨ ltOf cf d[p - s]! d[s]! = true) → Mid (ltOf cf) Rr a s mid e b d1) := fun s e d1 hr he hs1 hs2 i1 i2 => mid_of K h1 h2 hx hr hn hp he hmid ham hmb (Or.inl ⟨hcase, HLO.out, HHI.out⟩) hs1 hs2 i1 i2
  have HIH : Aside _ := IH
  have CR : Aside (∀ (s e : Nat) (w : World), SW enc w0 blk off d w → s < m → m < e → e ≤ d.size → Calls Tryd.prog 95 #[.slice (some ⟨blk, off, none⟩) L cap, .int .i64 s, .int .i64 m, .int .i64 e, .func (.func g) #[] cb] w fun e' w' => e' = .returned (.tuple #[]) ∧ ∃ d', Rot s m e d d' ∧ SW enc w0 blk off d' w') := fun s e w h1 h2 h3 h4 => rotate_any enc g cb blk off L cap s m e d0 d w0 w R hs hL h1 h2 h3 h4 (by omega)
  clear IH h1 h2 hx K hcmp
  have n1 : n ≤ mid + m := Nat.le_of_eq hn
  have n2 : mid + m ≤ n := Nat.le_of_eq hn.symm
  have p1 : p + 1 ≤ n := Nat.le_of_eq hp
  have p2 : n ≤ p + 1 := Nat.le_of_eq hp.symm
  have lo1 : lo ≤ n - b := Nat.le_of_eq hlo
  have lo2 : n - b ≤ lo := Nat.le_of_eq hlo.symm
  have hi1 : hi ≤ mid := Nat.le_of_eq hhi
  have hi2 : mid ≤ hi := Nat.le_of_eq hhi.symm
  have S0 : Aside (SW enc w0 blk off d w) := S
  clear S hn hp hlo hhi
  have e0 : IntKind.i64.wrap ((m : Int) - (a : Int)) = (m : Int) - (a : Int) := by rw [IntKind.wrap_i64]; omega
  have e1 : ((m : Int) - (a : Int) == 1) = false := by rw [beq_eq_false_iff_ne]; omega
  have e1' : ¬ ((m : Int) - (a : Int) = 1) := by omega
  have e2 : IntKind.i64.wrap ((b : Int) - (m : Int)) = (b : Int) - (m : Int) := by rw [IntKind.wrap_i64]; omega
  have e3 : ((b : Int) - (m : Int) == 1) = false := by rw [beq_eq_false_iff_ne]; omega
  have e3' : ¬ ((b : Int) - (m : Int) = 1) := by omega
  have rs : IntKind.i64.wrap ((a : Int) + (b : Int)) = (a : Int) + (b : Int) := by rw [IntKind.wrap_i64]; omega
  go_enter Tryd.func84, Tryd.ntmps84
  go_upto_region 25 with (fail)
  clear e0 e1 e1' e2 e3 e3' rs
  have em : ((a : Int) + (b : Int)) / 2 = (mid : Int) := by omega
  simp only [em]
  clear em
  have rn : IntKind.i64.wrap ((mid : Int) + (m : Int)) = (n : Int) := by rw [IntKind.wrap_i64]; omega
  have rp : IntKind.i64.wrap ((n : Int) - 1) = (p : Int) := by rw [IntKind.wrap_i64]; omega
  have rl : IntKind.i64.wrap ((n : Int) - (b : Int)) = (lo : Int) := by rw [IntKind.wrap_i64]; omega
  have gt : decide ((m : Int) > (mid : Int)) = true := decide_eq_true (by omega)
  have gt2 : (mid : Int) < (m : Int) := by omega
  go_wp2
  clear rn rp gt gt2
  go_loopg [20, 21] (b - a) (fun kx s20 s21 wr => ∃ (i j : Nat), s20 = .int .i64 i ∧ s21 = .int .i64 j ∧ lo ≤ i ∧ i ≤ j ∧ j ≤ hi ∧ j - i ≤ kx ∧ Aside (SW enc w0 blk off d wr) ∧ Hid (i = lo ∨ ltOf cf d[p - (i - 1)]! d[i - 1]! = false) ∧ Hid (j = hi ∨ ltOf cf d[p - j]! d[j]! = true))
  case atStart => exact ⟨lo, hi, by first | rfl | (congr 1; omega), by first | rfl | (congr 1; omega), by omega, by omega, by omega, by omega, S0, Or.inl rfl, Or.inl rfl⟩
  case round =>
    clear S0
    obtain ⟨i, j, rfl, rfl, hmi, hij, hjb, hkx, S1, H1, H2⟩ := hrel
    by_cases hlt : i < j
    · have hltz : (i : Int) < (j : Int) := by omega
      have rs : IntKind.i64.wrap ((i : Int) + (j : Int)) = (i : Int) + (j : Int) := by rw [IntKind.wrap_i64]; omega
      go_wp2_with fail
      obtain ⟨h, hh1, hh2, eh⟩ : ∃ h : Nat, i ≤ h ∧ h < j ∧ ((i : Int) + (j : Int)) / 2 = (h : Int) := ⟨(i + j) / 2, by omega, by omega, by omega⟩
      simp only [eh]
      clear eh rs
      obtain ⟨qn, hq⟩ : ∃ q, q = p - h := ⟨_, rfl⟩
      have HQ : Hid (qn = p - h) := hq
      have q1 : qn ≤ p - h := Nat.le_of_eq hq
      have q2 : p - h ≤ qn := Nat.le_of_eq hq.symm
      clear hq
      have rq : IntKind.i64.wrap ((p : Int) - (h : Int)) = (qn : Int) := by rw [IntKind.wrap_i64]; omega
      cases hlv : ltOf cf d[qn]! d[h]! with
      | false =>
        obtain ⟨iNp, hiNp⟩ : ∃ q, q = qn := ⟨_, rfl⟩
        obtain ⟨jNp, hjNp⟩ : ∃ q, q = h := ⟨_, rfl⟩
        have eap : ((qn : Int)).toNat = iNp := by omega
        have pap : (0 : Int) ≤ (qn : Int) := by omega
        have bap : (qn : Int) < (L : Int) := by omega
        have rap : IntKind.i64.wrap ((qn : Int)) = (qn : Int) := by rw [IntKind.wrap_i64]; omega
        have ecp : ((h : Int)).toNat = jNp := by omega
        have pcp : (0 : Int) ≤ (h : Int) := by omega
        have bcp : (h : Int) < (L : Int) := by omega
        obtain ⟨xp, hxp⟩ : ∃ x, x = d[qn]! := ⟨_, rfl⟩
        obtain ⟨yp, hyp⟩ : ∃ x, x = d[h]! := ⟨_, rfl⟩
        have lap := S1.out.cl R (by omega) (qn) (by omega)
        have lbp := S1.out.cl R (by omega) (h) (by omega)
        rw [← hxp, ← hiNp] at lap
        rw [← hyp, ← hjNp] at lbp
        have hcp := S1.out.cmp HC.out (by omega) xp yp
        have hvp : ¬ cf xp yp < 0 := by rw [hxp, hyp]; exact of_decide_eq_false hlv
        have hdp : decide (cf xp yp < 0) = false := decide_eq_false hvp
        clear hxp hyp hiNp hjNp
        go_quiet_grown (first | (go_at_fn g; refine Calls.grown_of (hcp _ _)))
        have S2 : Aside (SW enc w0 blk off d (grow (wr.drewN nq) osq)) := S1.out.grown nq osq
        clear lap lbp hcp S1
        generalize grow (wr.drewN nq) osq = wp at S2 ⊢
        clear nq osq
        clear eap ecp
        go_wp2
        go_roundg (j - (h + 1))
        case measure => omega
        case rel => exact ⟨h + 1, j, by first | rfl | go_num, rfl, by omega, by omega, hjb, Nat.le_refl _, S2, Or.inr (by rw [HQ.out] at hlv; exact hlv), H2⟩
      | true =>
        obtain ⟨iNp, hiNp⟩ : ∃ q, q = qn := ⟨_, rfl⟩
        obtain ⟨jNp, hjNp⟩ : ∃ q, q = h := ⟨_, rfl⟩
        have eap : ((qn : Int)).toNat = iNp := by omega
        have pap : (0 : Int) ≤ (qn : Int) := by omega
        have bap : (qn : Int) < (L : Int) := by omega
        have rap : IntKind.i64.wrap ((qn : Int)) = (qn : Int) := by rw [IntKind.wrap_i64]; omega
        have ecp : ((h : Int)).toNat = jNp := by omega
        have pcp : (0 : Int) ≤ (h : Int) := by omega
        have bcp : (h : Int) < (L : Int) := by omega
        obtain ⟨xp, hxp⟩ : ∃ x, x = d[qn]! := ⟨_, rfl⟩
        obtain ⟨yp, hyp⟩ : ∃ x, x = d[h]! := ⟨_, rfl⟩
        have lap := S1.out.cl R (by omega) (qn) (by omega)
        have lbp := S1.out.cl R (by omega) (h) (by omega)
        rw [← hxp, ← hiNp] at lap
        rw [← hyp, ← hjNp] at lbp
        have hcp := S1.out.cmp HC.out (by omega) xp yp
        have hvp : cf xp yp < 0 := by rw [hxp, hyp]; exact of_decide_eq_true hlv
        have hdp : decide (cf xp yp < 0) = true := decide_eq_true hvp
        clear hxp hyp hiNp hjNp
        go_quiet_grown (first | (go_at_fn g; refine Calls.grown_of (hcp _ _)))
        have S2 : Aside (SW enc w0 blk off d (grow (wr.drewN nq) osq)) := S1.out.grown nq osq
        clear lap lbp hcp S1
        generalize grow (wr.drewN nq) osq = wp at S2 ⊢
        clear nq osq
        clear eap ecp
        go_wp2
        go_roundg (h - i)
        case measure => omega
        case rel => exact ⟨i, h, rfl, by first | rfl | go_num, hmi, by omega, by omega, Nat.le_refl _, S2, H1, Or.inr (by rw [HQ.out] at hlv; exact hlv)⟩
    · have e : j = i := by omega
      subst e
      have hltz : ¬ (j : Int) < (j : Int) := by omega
      clear HC hcl0 hst mixed
      obtain ⟨ee, hee⟩ : ∃ x, x = n - j := ⟨_, rfl⟩
      have HM2 : Hid (∀ d1, Rot j m ee d d1 → Mid (ltOf cf) Rr a j mid ee b d1) := fun d1 hr => HMo.out j ee d1 hr hee hmi hjb H1.out H2.out
      clear HMo H1 H2
      have re : IntKind.i64.wrap ((n : Int) - (j : Int)) = (ee : Int) := by rw [IntKind.wrap_i64]; omega
      have ee1 : ee ≤ n - j := Nat.le_of_eq hee
      have ee2 : n - j ≤ ee := Nat.le_of_eq hee.symm
      clear hee
      have hje : j ≤ m := by omega
      have hme : m ≤ ee := by omega
      have heb : ee ≤ b := by omega
      have haj : a ≤ j := by omega
      have hjm : j ≤ mid := by omega
      have hmide : mid ≤ ee := by omega
      have hmidb : mid < b := by omega
      have hamid : a < mid := by omega
      clear lo1 lo2 hi1 hi2 hmi hjb HLO HHI n1 n2 p1 p2 ee1 ee2
      go_upto_region 39 with (fail)
      obtain ⟨c39, hc39⟩ : ∃ c : Bool, Hid (c = (decide (j < m) && decide (m < ee))) := ⟨_, rfl⟩
      go_cut [185] from 178 to 185 (fun b W => b = .bool c39 ∧ W = wr)
      case first =>
        by_cases k1 : j < m
        · have k1z : ((j : Nat) : Int) < ((m : Nat) : Int) := by omega
          by_cases k2 : m < ee
          · have k2z : ((m : Nat) : Int) < ((ee : Nat) : Int) := by omega
            go_wp2_with fail
            go_meet
            case rel => exact ⟨by rw [hc39.out, decide_eq_true k1, decide_eq_true k2]; rfl, rfl⟩
          · have k2z : ¬ ((m : Nat) : Int) < ((ee : Nat) : Int) := by omega
            go_wp2_with fail
            go_meet
            case rel => exact ⟨by rw [hc39.out, decide_eq_true k1, decide_eq_false k2]; rfl, rfl⟩
        · have k1z : ¬ ((j : Nat) : Int) < ((m : Nat) : Int) := by omega
          go_wp2_with fail
          go_meet
          case rel => exact ⟨by rw [hc39.out, decide_eq_false k1]; rfl, rfl⟩
      case rest =>
        obtain ⟨rfl, rfl⟩ := hcut
        go_upto_if 185 with (fail)
        go_cut [191] from 185 to 191 (fun _ W => ∃ d1 : Array α, Hid (Rot j m ee d d1) ∧ Aside (SW enc w0 blk off d1 W))
        case first =>
          cases hcc : c39 with
          | true =>
            have k := hc39.out.symm.trans hcc
            rw [Bool.and_eq_true] at k
            have k1 := of_decide_eq_true k.1
            have k2 := of_decide_eq_true k.2
            clear k
            go_wp2_with (go_at_call 95; refine (CR.out j ee _ S1.out k1 k2 (by omega)).mono ?_; rintro e w2 ⟨rfl, d1, hrot, hS1⟩)
            go_meet
            case rel => exact ⟨d1, hrot, hS1⟩
          | false =>
            have k : ¬ (j < m ∧ m < ee) := fun h => by
              have := hc39.out.symm.trans hcc
              rw [decide_eq_true h.1, decide_eq_true h.2] at this
              cases this
            go_wp2_with fail
            go_meet
            case rel => exact ⟨d, Rot.none hje hme (by omega) (by omega), S1⟩
        case rest =>
          clear hc39
          obtain ⟨d1, HRO, S2⟩ := hcut
          have HMM : Hid (Mid (ltOf cf) Rr a j mid ee b d1) := HM2.out d1 HRO.out
          have hz1 : d1.size = d.size := HRO.out.size
          clear CR HM2 S1
          go_upto_region 41 with (fail)
          obtain ⟨c41, hc41⟩ : ∃ c : Bool, Hid (c = (decide (a < j) && decide (j < mid))) := ⟨_, rfl⟩
          go_cut [199] from 192 to 199 (fun b W => b = .bool c41 ∧ W = wc)
          case first =>
            by_cases k1 : a < j
            · have k1z : ((a : Nat) : Int) < ((j : Nat) : Int) := by omega
              by_cases k2 : j < mid
              · have k2z : ((j : Nat) : Int) < ((mid : Nat) : Int) := by omega
                go_wp2_with fail
                go_meet
                case rel => exact ⟨by rw [hc41.out, decide_eq_true k1, decide_eq_true k2]; rfl, rfl⟩
              · have k2z : ¬ ((j : Nat) : Int) < ((mid : Nat) : Int) := by omega
                go_wp2_with fail
                go_meet
                case rel => exact ⟨by rw [hc41.out, decide_eq_true k1, decide_eq_false k2]; rfl, rfl⟩
            · have k1z : ¬ ((a : Nat) : Int) < ((j : Nat) : Int) := by omega
              go_wp2_with fail
              go_meet
              case rel => exact ⟨by rw [hc41.out, decide_eq_false k1]; rfl, rfl⟩
          case rest =>
            obtain ⟨rfl, rfl⟩ := hcut
            go_upto_if 199 with (fail)
            go_cut [205] from 199 to 205 (fun _ W => ∃ d2 : Array α, Hid (Merged Rr a mid d1 d2) ∧ Aside (SW enc w0 blk off d2 W))
            case first =>
              cases hcc : c41 with
              | true =>
                have k := hc41.out.symm.trans hcc
                rw [Bool.and_eq_true] at k
                have k1 := of_decide_eq_true k.1
                have k2 := of_decide_eq_true k.2
                clear k
                go_wp2_with (go_at_call 84; refine (HIH.out a j mid d1 _ (by omega) (by omega) S2.out k1 k2 (by omega) HMM.out.r1 HMM.out.r2 HMM.out.a1).mono ?_; rintro e w2 ⟨rfl, d2, hmg, hS1⟩)
                go_meet
                case rel => exact ⟨d2, hmg, hS1⟩
              | false =>
                have k : ¬ (a < j ∧ j < mid) := fun h => by
                  have := hc41.out.symm.trans hcc
                  rw [decide_eq_true h.1, decide_eq_true h.2] at this
                  cases this
                go_wp2_with fail
                go_meet
                case rel => exact ⟨d1, Merged.none (mid_left HMM.out haj hjm k), S2⟩
            case rest =>
              clear hc41
              obtain ⟨d2, HG1, S3⟩ := hcut
              have hz2 : d2.size = d1.size := HG1.out.1.1
              clear S2
              go_upto_region 43 with (fail)
              obtain ⟨c43, hc43⟩ : ∃ c : Bool, Hid (c = (decide (mid < ee) && decide (ee < b))) := ⟨_, rfl⟩
              go_cut [213] from 206 to 213 (fun b W => b = .bool c43 ∧ W = wc)
              case first =>
                by_cases k1 : mid < ee
                · have k1z : ((mid : Nat) : Int) < ((ee : Nat) : Int) := by omega
                  by_cases k2 : ee < b
                  · have k2z : ((ee : Nat) : Int) < ((b : Nat) : Int) := by omega
                    go_wp2_with fail
                    go_meet
                    case rel => exact ⟨by rw [hc43.out, decide_eq_true k1, decide_eq_true k2]; rfl, rfl⟩
                  · have k2z : ¬ ((ee : Nat) : Int) < ((b : Nat) : Int) := by omega
                    go_wp2_with fail
                    go_meet
                    case rel => exact ⟨by rw [hc43.out, decide_eq_true k1, decide_eq_false k2]; rfl, rfl⟩
                · have k1z : ¬ ((mid : Nat) : Int) < ((ee : Nat) : Int) := by omega
                  go_wp2_with fail
                  go_meet
                  case rel => exact ⟨by rw [hc43.out, decide_eq_false k1]; rfl, rfl⟩
              case rest =>
                obtain ⟨rfl, rfl⟩ := hcut
                go_upto_if 213 with (fail)
                cases hcc : c43 with
                | true =>
                  have k := hc43.out.symm.trans hcc
                  rw [Bool.and_eq_true] at k
                  have k1 := of_decide_eq_true k.1
                  have k2 := of_decide_eq_true k.2
                  clear k
                  go_wp2_with (go_at_call 84; refine (HIH.out mid ee b d2 _ (by omega) (by omega) S3.out k1 k2 (by omega) (mid_ahead HMM.out hmide HG1.out.1).1 (mid_ahead HMM.out hmide HG1.out.1).2.1 (mid_ahead HMM.out hmide HG1.out.1).2.2).mono ?_; rintro e w2 ⟨rfl, d3, hmg, hS1⟩)
                  go_end0
                  exact ⟨rfl, d3, both (PermIn.wide HRO.out.perm haj heb hb) hb (Nat.le_of_lt hamid) (Nat.le_of_lt hmidb) HMM.out.cross HG1.out hmg, hS1⟩
                | false =>
                  have k : ¬ (mid < ee ∧ ee < b) := fun h => by
                    have := hc43.out.symm.trans hcc
                    rw [decide_eq_true h.1, decide_eq_true h.2] at this
                    cases this
                  go_wp2_with fail
                  go_end0
                  exact ⟨rfl, d2, both (PermIn.wide HRO.out.perm haj heb hb) hb (Nat.le_of_lt hamid) (Nat.le_of_lt hmidb) HMM.out.cross HG1.out (Merged.none (mid_right HMM.out hmide heb HG1.out.1 k)), S3.out⟩
end Go.Proofs.YtphmmnffgknkcaaDoor
/- The walk of slices.symMergeCmpFunc at trees: two pieces exchanged, both sides merged (the middle lies in the second piece). -/
namespace Go.Proofs.YtphmmnffgknkcaaDoor
open Go.Shelf Go.RowKit Go.Lib Go.Sort
set_option maxRecDepth 100000
variable {α : Type} [Inhabited α]
set_option maxHeartbeats 8000000 in
set_option maxRecDepth 1000000 in
theorem symMidB_any (enc : α → Value) (cf : α → α → Int) (Rr : α → α → Prop) (K : Keep (ltOf cf) Rr) (g : Nat) (cb : Array Value) (eg : ∀ args w, (callFunc g args).run Tryd.prog w = .ok (.enter g args) w) (blk off L cap a m b : Nat) (d0 d : Array α) (w0 w : World) (hcmp : CmpLays1 Tryd.prog g cb enc cf blk off d0.size w0) (R : Row1 enc w0 blk off d0) (hs : d0.size = d.size) (hL : d.size = L) (S : SW enc w0 blk off d w) (NN : Nat) (hNN : b - a ≤ NN) (IH : (∀ (a m b : Nat) (d : Array α) (w : World), b - a < NN → d0.size = d.size → SW enc w0 blk off d w → a < m → m < b → b ≤ d.size → Ris Rr a m d → Ris Rr m b d → Ahead (ltOf cf) Rr a m b d → Calls Tryd.prog 84 #[.slice (some ⟨blk, off, none⟩) L cap, .int .i64 a, .int .i64 m, .int .i64 b, .func (.func g) #[] cb] w fun e w' => e = .returned (.tuple #[]) ∧ ∃ d', Merged Rr a b d d' ∧ SW enc w0 blk off d' w')) (ham : a < m) (ham1 : m ≠ a + 1) (hmb : m < b) (hmb1 : b ≠ m + 1) (mid : Nat) (hmid : 2 * mid ≤ a + b ∧ a + b ≤ 2 * mid + 1) (hcase : m ≤ mid) (hb : b ≤ d.size) (hsz : d.size < 1000000000) (h1 : Ris Rr a m d) (h2 : Ris Rr m b d) (hx : Ahead (ltOf cf) Rr a m b d) :
    Calls Tryd.prog 84 #[.slice (some ⟨blk, off, none⟩) L cap, .int .i64 a, .int .i64 m, .int .i64 b, .func (.func g) #[] cb] w fun e w' => e = .returned (.tuple #[]) ∧ ∃ d', Merged Rr a b d d' ∧ SW enc w0 blk off d' w' := by
  have mixed : Tryd.prog.follows .mixedOrders = true := by kernel_rfl
  have hcl0 := R.hO.cells
  simp only [Value.cells] at hcl0
  have hst := R.hO.store Tryd.prog
  have HC : Aside _ := hcmp
  obtain ⟨n, hn⟩ : ∃ n, n = mid + m := ⟨_, rfl⟩
  obtain ⟨p, hp⟩ : ∃ p, p + 1 = n := ⟨n - 1, by omega⟩
  obtain ⟨lo, hlo⟩ : ∃ x, x = a := ⟨_, rfl⟩
  obtain ⟨hi, hhi⟩ : ∃ x, x = m := ⟨_, rfl⟩
  have HLO : Hid (lo = a) := hlo
  have HHI : Hid (hi = m) := hhi
  have HMo : Hid (∀ s e d1, Rot s m e d d1 → e = n - s → lo ≤ s → s ≤ hi → (s = lo ∨ ltOf cf d[p - (s - 1)]! d[s - 1]! = false) → (s = hi ∨ ltOf cf d[p - s]! d[s]! = true) → Mid (ltOf cf) Rr a s mid e b d1) := fun s e d1 hr he hs1 hs2 i1 i2 => mid_of K h1 h2 hx hr hn hp he hmid ham hmb (Or.inr ⟨hcase, HLO.out, HHI.out⟩) hs1 hs2 i1 i2
  have HIH : Aside _ := IH
  have CR : Aside (∀ (s e : Nat) (w : World), SW enc w0 blk off d w → s < m → m < e → e ≤ d.size → Calls Tryd.prog 95 #[.slice (some ⟨blk, off, none⟩) L cap, .int .i64 s, .int .i64 m, .int .i64 e, .func (.func g) #[] cb] w fun e' w' => e' = .returned (.tuple #[]) ∧ ∃ d', Rot s m e d d' ∧ SW enc w0 blk off d' w') := fun s e w h1 h2 h3 h4 => rotate_any enc g cb blk off L cap s m e d0 d w0 w R hs hL h1 h2 h3 h4 (by omega)
  clear IH h1 h2 hx K hcmp
  have n1 : n ≤ mid + m := Nat.le_of_eq hn
  have n2 : mid + m ≤ n := Nat.le_of_eq hn.symm
  have p1 : p + 1 ≤ n := Nat.le_of_eq hp
  have p2 : n ≤ p + 1 := Nat.le_of_eq hp.symm
  have lo1 : lo ≤ a := Nat.le_of_eq hlo
  have lo2 : a ≤ lo := Nat.le_of_eq hlo.symm
  have hi1 : hi ≤ m := Nat.le_of_eq hhi
  have hi2 : m ≤ hi := Nat.le_of_eq hhi.symm
  have S0 : Aside (SW enc w0 blk off d w) := S
  clear S hn hp hlo hhi
  have e0 : IntKind.i64.wrap ((m : Int) - (a : Int)) = (m : Int) - (a : Int) := by rw [IntKind.wrap_i64]; omega
  have e1 : ((m : Int) - (a : Int) == 1) = false := by rw [beq_eq_false_iff_ne]; omega
  have e1' : ¬ ((m : Int) - (a : Int) = 1) := by omega
  have e2 : IntKind.i64.wrap ((b : Int) - (m : Int)) = (b : Int) - (m : Int) := by rw [IntKind.wrap_i64]; omega
  have e3 : ((b : Int) - (m : Int) == 1) = false := by rw [beq_eq_false_iff_ne]; omega
  have e3' : ¬ ((b : Int) - (m : Int) = 1) := by omega
  have rs : IntKind.i64.wrap ((a : Int) + (b : Int)) = (a : Int) + (b : Int) := by rw [IntKind.wrap_i64]; omega
  go_enter Tryd.func84, Tryd.ntmps84
  go_upto_region 25 with (fail)
  clear e0 e1 e1' e2 e3 e3' rs
  have em : ((a : Int) + (b : Int)) / 2 = (mid : Int) := by omega
  simp only [em]
  clear em
  have rn : IntKind.i64.wrap ((mid : Int) + (m : Int)) = (n : Int) := by rw [IntKind.wrap_i64]; omega
  have rp : IntKind.i64.wrap ((n : Int) - 1) = (p : Int) := by rw [IntKind.wrap_i64]; omega
  have gt : decide ((m : Int) > (mid : Int)) = false := decide_eq_false (by omega)
  have gt2 : ¬ (mid : Int) < (m : Int) := by omega
  go_wp2
  clear rn rp gt gt2
  go_loopg [20, 21] (b - a) (fun kx s20 s21 wr => ∃ (i j : Nat), s20 = .int .i64 i ∧ s21 = .int .i64 j ∧ lo ≤ i ∧ i ≤ j ∧ j ≤ hi ∧ j - i ≤ kx ∧ Aside (SW enc w0 blk off d wr) ∧ Hid (i = lo ∨ ltOf cf d[p - (i - 1)]! d[i - 1]! = false) ∧ Hid (j = hi ∨ ltOf cf d[p - j]! d[j]! = true))
  case atStart => exact ⟨lo, hi, by first | rfl | (congr 1; omega), by first | rfl | (congr 1; omega), by omega, by omega, by omega, by omega, S0, Or.inl rfl, Or.inl rfl⟩
  case round =>
    clear S0
    obtain ⟨i, j, rfl, rfl, hmi, hij, hjb, hkx, S1, H1, H2⟩ := hrel
    by_cases hlt : i < j
    · have hltz : (i : Int) < (j : Int) := by omega
      have rs : IntKind.i64.wrap ((i : Int) + (j : Int)) = (i : Int) + (j : Int) := by rw [IntKind.wrap_i64]; omega
      go_wp2_with fail
      obtain ⟨h, hh1, hh2, eh⟩ : ∃ h : Nat, i ≤ h ∧ h < j ∧ ((i : Int) + (j : Int)) / 2 = (h : Int) := ⟨(i + j) / 2, by omega, by omega, by omega⟩
      simp only [eh]
      clear eh rs
      obtain ⟨qn, hq⟩ : ∃ q, q = p - h := ⟨_, rfl⟩
      have HQ : Hid (qn = p - h) := hq
      have q1 : qn ≤ p - h := Nat.le_of_eq hq
      have q2 : p - h ≤ qn := Nat.le_of_eq hq.symm
      clear hq
      have rq : IntKind.i64.wrap ((p : Int) - (h : Int)) = (qn : Int) := by rw [IntKind.wrap_i64]; omega
      cases hlv : ltOf cf d[qn]! d[h]! with
      | false =>
        obtain ⟨iNp, hiNp⟩ : ∃ q, q = qn := ⟨_, rfl⟩
        obtain ⟨jNp, hjNp⟩ : ∃ q, q = h := ⟨_, rfl⟩
        have eap : ((qn : Int)).toNat = iNp := by omega
        have pap : (0 : Int) ≤ (qn : Int) := by omega
        have bap : (qn : Int) < (L : Int) := by omega
        have rap : IntKind.i64.wrap ((qn : Int)) = (qn : Int) := by rw [IntKind.wrap_i64]; omega
        have ecp : ((h : Int)).toNat = jNp := by omega
        have pcp : (0 : Int) ≤ (h : Int) := by omega
        have bcp : (h : Int) < (L : Int) := by omega
        obtain ⟨xp, hxp⟩ : ∃ x, x = d[qn]! := ⟨_, rfl⟩
        obtain ⟨yp, hyp⟩ : ∃ x, x = d[h]! := ⟨_, rfl⟩
        have lap := S1.out.cl R (by omega) (qn) (by omega)
        have lbp := S1.out.cl R (by omega) (h) (by omega)
        rw [← hxp, ← hiNp] at lap
        rw [← hyp, ← hjNp] at lbp
        have hcp := S1.out.cmp HC.out (by omega) xp yp
        have hvp : ¬ cf xp yp < 0 := by rw [hxp, hyp]; exact of_decide_eq_false hlv
        have hdp : decide (cf xp yp < 0) = false := decide_eq_false hvp
        clear hxp hyp hiNp hjNp
        go_quiet_grown (first | (go_at_fn g; refine Calls.grown_of (hcp _ _)))
        have S2 : Aside (SW enc w0 blk off d (grow (wr.drewN nq) osq)) := S1.out.grown nq osq
        clear lap lbp hcp S1
        generalize grow (wr.drewN nq) osq = wp at S2 ⊢
        clear nq osq
        clear eap ecp
        go_wp2
        go_roundg (j - (h + 1))
        case measure => omega
        case rel => exact ⟨h + 1, j, by first | rfl | go_num, rfl, by omega, by omega, hjb, Nat.le_refl _, S2, Or.inr (by rw [HQ.out] at hlv; exact hlv), H2⟩
      | true =>
        obtain ⟨iNp, hiNp⟩ : ∃ q, q = qn := ⟨_, rfl⟩
        obtain ⟨jNp, hjNp⟩ : ∃ q, q = h := ⟨_, rfl⟩
        have eap : ((qn : Int)).toNat = iNp := by omega
        have pap : (0 : Int) ≤ (qn : Int) := by omega
        have bap : (qn : Int) < (L : Int) := by omega
        have rap : IntKind.i64.wrap ((qn : Int)) = (qn : Int) := by rw [IntKind.wrap_i64]; omega
        have ecp : ((h : Int)).toNat = jNp := by omega
        have pcp : (0 : Int) ≤ (h : Int) := by omega
        have bcp : (h : Int) < (L : Int) := by omega
        obtain ⟨xp, hxp⟩ : ∃ x, x = d[qn]! := ⟨_, rfl⟩
        obtain ⟨yp, hyp⟩ : ∃ x, x = d[h]! := ⟨_, rfl⟩
        have lap := S1.out.cl R (by omega) (qn) (by omega)
        have lbp := S1.out.cl R (by omega) (h) (by omega)
        rw [← hxp, ← hiNp] at lap
        rw [← hyp, ← hjNp] at lbp
        have hcp := S1.out.cmp HC.out (by omega) xp yp
        have hvp : cf xp yp < 0 := by rw [hxp, hyp]; exact of_decide_eq_true hlv
        have hdp : decide (cf xp yp < 0) = true := decide_eq_true hvp
        clear hxp hyp hiNp hjNp
        go_quiet_grown (first | (go_at_fn g; refine Calls.grown_of (hcp _ _)))
        have S2 : Aside (SW enc w0 blk off d (grow (wr.drewN nq) osq)) := S1.out.grown nq osq
        clear lap lbp hcp S1
        generalize grow (wr.drewN nq) osq = wp at S2 ⊢
        clear nq osq
        clear eap ecp
        go_wp2
        go_roundg (h - i)
        case measure => omega
        case rel => exact ⟨i, h, rfl, by first | rfl | go_num, hmi, by omega, by omega, Nat.le_refl _, S2, H1, Or.inr (by rw [HQ.out] at hlv; exact hlv)⟩
    · have e : j = i := by omega
      subst e
      have hltz : ¬ (j : Int) < (j : Int) := by omega
      clear HC hcl0 hst mixed
      obtain ⟨ee, hee⟩ : ∃ x, x = n - j := ⟨_, rfl⟩
      have HM2 : Hid (∀ d1, Rot j m ee d d1 → Mid (ltOf cf) Rr a j mid ee b d1) := fun d1 hr => HMo.out j ee d1 hr hee hmi hjb H1.out H2.out
      clear HMo H1 H2
      have re : IntKind.i64.wrap ((n : Int) - (j : Int)) = (ee : Int) := by rw [IntKind.wrap_i64]; omega
      have ee1 : ee ≤ n - j := Nat.le_of_eq hee
      have ee2 : n - j ≤ ee := Nat.le_of_eq hee.symm
      clear hee
      have hje : j ≤ m := by omega
      have hme : m ≤ ee := by omega
      have heb : ee ≤ b := by omega
      have haj : a ≤ j := by omega
      have hjm : j ≤ mid := by omega
      have hmide : mid ≤ ee := by omega
      have hmidb : mid < b := by omega
      have hamid : a < mid := by omega
      clear lo1 lo2 hi1 hi2 hmi hjb HLO HHI n1 n2 p1 p2 ee1 ee2
      go_upto_region 39 with (fail)
      obtain ⟨c39, hc39⟩ : ∃ c : Bool, Hid (c = (decide (j < m) && decide (m < ee))) := ⟨_, rfl⟩
      go_cut [185] from 178 to 185 (fun b W => b = .bool c39 ∧ W = wr)
      case first =>
        by_cases k1 : j < m
        · have k1z : ((j : Nat) : Int) < ((m : Nat) : Int) := by omega
          by_cases k2 : m < ee
          · have k2z : ((m : Nat) : Int) < ((ee : Nat) : Int) := by omega
            go_wp2_with fail
            go_meet
            case rel => exact ⟨by rw [hc39.out, decide_eq_true k1, decide_eq_true k2]; rfl, rfl⟩
          · have k2z : ¬ ((m : Nat) : Int) < ((ee : Nat) : Int) := by omega
            go_wp2_with fail
            go_meet
            case rel => exact ⟨by rw [hc39.out, decide_eq_true k1, decide_eq_false k2]; rfl, rfl⟩
        · have k1z : ¬ ((j : Nat) : Int) < ((m : Nat) : Int) := by omega
          go_wp2_with fail
          go_meet
          case rel => exact ⟨by rw [hc39.out, decide_eq_false k1]; rfl, rfl⟩
      case rest =>
        obtain ⟨rfl, rfl⟩ := hcut
        go_upto_if 185 with (fail)
        go_cut [191] from 185 to 191 (fun _ W => ∃ d1 : Array α, Hid (Rot j m ee d d1) ∧ Aside (SW enc w0 blk off d1 W))
        case first =>
          cases hcc : c39 with
          | true =>
            have k := hc39.out.symm.trans hcc
            rw [Bool.and_eq_true] at k
            have k1 := of_decide_eq_true k.1
            have k2 := of_decide_eq_true k.2
            clear k
            go_wp2_with (go_at_call 95; refine (CR.out j ee _ S1.out k1 k2 (by omega)).mono ?_; rintro e w2 ⟨rfl, d1, hrot, hS1⟩)
            go_meet
            case rel => exact ⟨d1, hrot, hS1⟩
          | false =>
            have k : ¬ (j < m ∧ m < ee) := fun h => by
              have := hc39.out.symm.trans hcc
              rw [decide_eq_true h.1, decide_eq_true h.2] at this
              cases this
            go_wp2_with fail
            go_meet
            case rel => exact ⟨d, Rot.none hje hme (by omega) (by omega), S1⟩
        case rest =>
          clear hc39
          obtain ⟨d1, HRO, S2⟩ := hcut
          have HMM : Hid (Mid (ltOf cf) Rr a j mid ee b d1) := HM2.out d1 HRO.out
          have hz1 : d1.size = d.size := HRO.out.size
          clear CR HM2 S1
          go_upto_region 41 with (fail)
          obtain ⟨c41, hc41⟩ : ∃ c : Bool, Hid (c = (decide (a < j) && decide (j < mid))) := ⟨_, rfl⟩
          go_cut [199] from 192 to 199 (fun b W => b = .bool c41 ∧ W = wc)
          case first =>
            by_cases k1 : a < j
            · have k1z : ((a : Nat) : Int) < ((j : Nat) : Int) := by omega
              by_cases k2 : j < mid
              · have k2z : ((j : Nat) : Int) < ((mid : Nat) : Int) := by omega
                go_wp2_with fail
                go_meet
                case rel => exact ⟨by rw [hc41.out, decide_eq_true k1, decide_eq_true k2]; rfl, rfl⟩
              · have k2z : ¬ ((j : Nat) : Int) < ((mid : Nat) : Int) := by omega
                go_wp2_with fail
                go_meet
                case rel => exact ⟨by rw [hc41.out, decide_eq_true k1, decide_eq_false k2]; rfl, rfl⟩
            · have k1z : ¬ ((a : Nat) : Int) < ((j : Nat) : Int) := by omega
              go_wp2_with fail
              go_meet
              case rel => exact ⟨by rw [hc41.out, decide_eq_false k1]; rfl, rfl⟩
          case rest =>
            obtain ⟨rfl, rfl⟩ := hcut
            go_upto_if 199 with (fail)
            go_cut [205] from 199 to 205 (fun _ W => ∃ d2 : Array α, Hid (Merged Rr a mid d1 d2) ∧ Aside (SW enc w0 blk off d2 W))
            case first =>
              cases hcc : c41 with
              | true =>
                have k := hc41.out.symm.trans hcc
                rw [Bool.and_eq_true] at k
                have k1 := of_decide_eq_true k.1
                have k2 := of_decide_eq_true k.2
                clear k
                go_wp2_with (go_at_call 84; refine (HIH.out a j mid d1 _ (by omega) (by omega) S2.out k1 k2 (by omega) HMM.out.r1 HMM.out.r2 HMM.out.a1).mono ?_; rintro e w2 ⟨rfl, d2, hmg, hS1⟩)
                go_meet
                case rel => exact ⟨d2, hmg, hS1⟩
              | false =>
                have k : ¬ (a < j ∧ j < mid) := fun h => by
                  have := hc41.out.symm.trans hcc
                  rw [decide_eq_true h.1, decide_eq_true h.2] at this
                  cases this
                go_wp2_with fail
                go_meet
                case rel => exact ⟨d1, Merged.none (mid_left HMM.out haj hjm k), S2⟩
            case rest =>
              clear hc41
              obtain ⟨d2, HG1, S3⟩ := hcut
              have hz2 : d2.size = d1.size := HG1.out.1.1
              clear S2
              go_upto_region 43 with (fail)
              obtain ⟨c43, hc43⟩ : ∃ c : Bool, Hid (c = (decide (mid < ee) && decide (ee < b))) := ⟨_, rfl⟩
              go_cut [213] from 206 to 213 (fun b W => b = .bool c43 ∧ W = wc)
              case first =>
                by_cases k1 : mid < ee
                · have k1z : ((mid : Nat) : Int) < ((ee : Nat) : Int) := by omega
                  by_cases k2 : ee < b
                  · have k2z : ((ee : Nat) : Int) < ((b : Nat) : Int) := by omega
                    go_wp2_with fail
                    go_meet
                    case rel => exact ⟨by rw [hc43.out, decide_eq_true k1, decide_eq_true k2]; rfl, rfl⟩
                  · have k2z : ¬ ((ee : Nat) : Int) < ((b : Nat) : Int) := by omega
                    go_wp2_with fail
                    go_meet
                    case rel => exact ⟨by rw [hc43.out, decide_eq_true k1, decide_eq_false k2]; rfl, rfl⟩
                · have k1z : ¬ ((mid : Nat) : Int) < ((ee : Nat) : Int) := by omega
                  go_wp2_with fail
                  go_meet
                  case rel => exact ⟨by rw [hc43.out, decide_eq_false k1]; rfl, rfl⟩
              case rest =>
                obtain ⟨rfl, rfl⟩ := hcut
                go_upto_if 213 with (fail)
                cases hcc : c43 with
                | true =>
                  have k := hc43.out.symm.trans hcc
                  rw [Bool.and_eq_true] at k
                  have k1 := of_decide_eq_true k.1
                  have k2 := of_decide_eq_true k.2
                  clear k
                  go_wp2_with (go_at_call 84; refine (HIH.out mid ee b d2 _ (by omega) (by omega) S3.out k1 k2 (by omega) (mid_ahead HMM.out hmide HG1.out.1).1 (mid_ahead HMM.out hmide HG1.out.1).2.1 (mid_ahead HMM.out hmide HG1.out.1).2.2).mono ?_; rintro e w2 ⟨rfl, d3, hmg, hS1⟩)
                  go_end0
                  exact ⟨rfl, d3, both (PermIn.wide HRO.out.perm haj heb hb) hb (Nat.le_of_lt hamid) (Nat.le_of_lt hmidb) HMM.out.cross HG1.out hmg, hS1⟩
                | false =>
                  have k : ¬ (mid < ee ∧ ee < b) := fun h => by
                    have := hc43.out.symm.trans hcc
                    rw [decide_eq_true h.1, decide_eq_true h.2] at this
                    cases this
                  go_wp2_with fail
                  go_end0
                  exact ⟨rfl, d2, both (PermIn.wide HRO.out.perm haj heb hb) hb (Nat.le_of_lt hamid) (Nat.le_of_lt hmidb) HMM.out.cross HG1.out (Merged.none (mid_right HMM.out hmide heb HG1.out.1 k)), S3.out⟩
end Go.Proofs.YtphmmnffgknkcaaDoor
/- The walk of slices.insertionSortCmpFunc at trees: insertions that keep the order of equals. -/
namespace Go.Proofs.YtphmmnffgknkcaaDoor
open Go.Shelf Go.RowKit Go.Lib Go.Sort
set_option maxRecDepth 100000
variable {α : Type} [Inhabited α]
/-- an insertion under way: what stood at place i stands at j -/
structure Ins (lt : α → α → Bool) (R : α → α → Prop) (a i j : Nat) (dk dj : Array α) : Prop where
  r1 : Ris R a j dj
  r2 : Ris R j (i + 1) dj
  cr : ∀ p q, a ≤ p → p < j → j < q → q ≤ i → R dj[p]! dj[q]!
  tie : ∀ p, a ≤ p → p < j → lt dj[j]! dj[p]! = false → R dj[p]! dj[j]!
  perm : PermIn a (i + 1) dk dj
theorem Ins.start {lt : α → α → Bool} {R : α → α → Prop} {a i : Nat} {dk : Array α} (h : Ris R a i dk) (ht : ∀ p, a ≤ p → p < i → lt dk[i]! dk[p]! = false → R dk[p]! dk[i]!) : Ins lt R a i i dk dk :=
  ⟨h, fun _ _ _ _ _ => by omega, fun _ _ _ _ _ _ => by omega, ht, permIn_refl _ _ _⟩
theorem Ins.step {lt : α → α → Bool} {R : α → α → Prop} (K : Keep lt R) {a i j : Nat} {dk dj : Array α} (h : Ins lt R a i (j + 1) dk dj) (haj : a ≤ j) (hji : j + 1 ≤ i) (hi : i < dk.size) (hl : lt dj[j + 1]! dj[j]! = true) : Ins lt R a i j dk (swp dj (j + 1) j) := by
  have hz : dj.size = dk.size := h.perm.1
  have hR := K.lr _ _ hl
  have sl : (swp dj (j + 1) j)[j + 1]! = dj[j]! := swp_left dj (j + 1) j (by omega) (by omega)
  have sr : (swp dj (j + 1) j)[j]! = dj[j + 1]! := swp_right dj (j + 1) j (by omega)
  have so : ∀ k, k ≠ j → k ≠ j + 1 → (swp dj (j + 1) j)[k]! = dj[k]! := fun k h1 h2 => swp_other dj (j + 1) j k h2 h1
  refine ⟨?_, ?_, ?_, ?_, permIn_trans _ _ _ _ _ h.perm (swp_permIn dj a (i + 1) (j + 1) j (by omega) (by omega) (by omega) (by omega) (by omega))⟩
  · intro p q hp hpq hq
    rw [so p (by omega) (by omega), so q (by omega) (by omega)]
    exact h.r1 p q hp hpq (by omega)
  · intro p q hp hpq hq
    by_cases ep : p = j
    · rw [ep, sr]
      by_cases eq : q = j + 1
      · rw [eq, sl]; exact hR
      · rw [so q (by omega) eq]
        exact h.r2 (j + 1) q (by omega) (by omega) hq
    · by_cases ep2 : p = j + 1
      · rw [ep2, sl, so q (by omega) (by omega)]
        exact h.cr j q (by omega) (by omega) (by omega) (by omega)
      · rw [so p ep ep2, so q (by omega) (by omega)]
        exact h.r2 p q (by omega) hpq hq
  · intro p q hp hp2 hq hq2
    rw [so p (by omega) (by omega)]
    by_cases eq : q = j + 1
    · rw [eq, sl]
      exact h.r1 p j hp hp2 (by omega)
    · rw [so q (by omega) eq]
      exact h.cr p q hp (by omega) (by omega) hq2
  · intro p hp hp2
    rw [sr, so p (by omega) (by omega)]
    exact h.tie p hp (by omega)
theorem Ins.stop {lt : α → α → Bool} {R : α → α → Prop} (K : Keep lt R) {a i j : Nat} {dk dj : Array α} (h : Ins lt R a i j dk dj) (haj : a ≤ j) (hs : j = a ∨ lt dj[j]! dj[j - 1]! = false) : Merged R a (i + 1) dk dj := by
  refine ⟨h.perm, Ris.glue (q := j) h.r1 h.r2 fun p q hp hp2 hq hq2 => ?_⟩
  rcases hs with hs | hs
  · omega
  · have := h.tie (j - 1) (by omega) (by omega) hs
    by_cases e : q = j
    · rw [e]
      exact Ris.le K h.r1 hp (show p ≤ j - 1 by omega) (by omega) this
    · exact h.cr p q hp hp2 (by omega) (by omega)
/-- those up to i are inserted, the others stand where they stood -/
structure InsO (lt : α → α → Bool) (R : α → α → Prop) (a b i : Nat) (d dk : Array α) : Prop where
  mg : Merged R a i d dk
  tie : ∀ p q, a ≤ p → p < q → i ≤ q → q < b → lt dk[q]! dk[p]! = false → R dk[p]! dk[q]!
theorem InsO.next {lt : α → α → Bool} {R : α → α → Prop} {a b i : Nat} {d dk dj : Array α} (h : InsO lt R a b i d dk) (hib : i < b) (hb : b ≤ d.size) (hm : Merged R a (i + 1) dk dj) : InsO lt R a b (i + 1) d dj := by
  have hz : dk.size = d.size := h.mg.1.1
  refine ⟨⟨permIn_trans _ _ _ _ _ (PermIn.wide h.mg.1 (Nat.le_refl _) (by omega) (by omega)) hm.1, hm.2⟩, fun p q hp hpq hq hqb => ?_⟩
  rw [hm.1.2.1 q (by omega)]
  by_cases hpi : p < i + 1
  · exact permIn_all dk dj a (i + 1) (fun x => lt dk[q]! x = false → R x dk[q]!) (by omega) hm.1 (fun k hk hk2 => h.tie k q hk (by omega) (by omega) hqb) p hp hpi
  · rw [hm.1.2.1 p (by omega)]
    exact h.tie p q hp hpq (by omega) hqb
set_option maxHeartbeats 8000000 in
set_option maxRecDepth 1000000 in
theorem insertion_any (enc : α → Value) (cf : α → α → Int) (Rr : α → α → Prop) (K : Keep (ltOf cf) Rr) (g : Nat) (cb : Array Value) (eg : ∀ args w, (callFunc g args).run Tryd.prog w = .ok (.enter g args) w) (blk off L cap a b : Nat) (d0 d : Array α) (w0 w : World) (hcmp : CmpLays1 Tryd.prog g cb enc cf blk off d0.size w0) (R : Row1 enc w0 blk off d0) (hs : d0.size = d.size) (hL : d.size = L) (S : SW enc w0 blk off d w) (hab : a ≤ b) (hb : b ≤ d.size) (hsz : d.size < 1000000000) (hS : Stood (ltOf cf) Rr a b d) :
    Calls Tryd.prog 83 #[.slice (some ⟨blk, off, none⟩) L cap, .int .i64 a, .int .i64 b, .func (.func g) #[] cb] w fun e w' => e = .returned (.tuple #[]) ∧ ∃ d', Merged Rr a b d d' ∧ SW enc w0 blk off d' w' := by
  have mixed : Tryd.prog.follows .mixedOrders = true := by kernel_rfl
  have hcl0 := R.hO.cells
  simp only [Value.cells] at hcl0
  have hst := R.hO.store Tryd.prog
  have HC : Aside _ := hcmp
  have HK : Hid (Keep (ltOf cf) Rr) := K
  have HI0 : Hid (InsO (ltOf cf) Rr a b (a + 1) d d) := ⟨⟨permIn_refl _ _ _, fun i j h1 h2 h3 => by omega⟩, fun p q hp hpq _ hqb hl => hS p q hp hpq hqb hl⟩
  have S0 : Aside (SW enc w0 blk off d w) := S
  clear S hcmp K hS
  go_enter Tryd.func83, Tryd.ntmps83
  go_wp2
  go_loopg [8] (b - a) (fun g1 vi wr => ∃ (i : Nat) (dk : Array α), vi = .int .i64 i ∧ a < i ∧ i ≤ b + 1 ∧ (a < b → i ≤ b) ∧ b + 1 - i ≤ g1 + 1 ∧ dk.size = d.size ∧ Aside (SW enc w0 blk off dk wr) ∧ Hid (InsO (ltOf cf) Rr a b i d dk) ∧ Hid (b ≤ a → dk = d))
  case atStart => exact ⟨a + 1, d, by go_num, by omega, by omega, by omega, by omega, rfl, S0, HI0, fun _ => rfl⟩
  case round =>
    clear S0 HI0
    obtain ⟨i, dk, rfl, hai, hib, hib2, hg1, hsk, S1, HO, HN⟩ := hrel
    by_cases hlt : i < b
    · have hltz : (i : Int) < (b : Int) := by omega
      clear hib2
      go_wp2
      have HI1 : Hid (Ins (ltOf cf) Rr a i i dk dk) := Ins.start HO.out.mg.2 (fun p hp hp2 hl => HO.out.tie p i hp hp2 (Nat.le_refl _) hlt hl)
      go_loopg [9] i (fun g2 vj wr2 => ∃ (j : Nat) (dj : Array α), vj = .int .i64 j ∧ a ≤ j ∧ j ≤ i ∧ j ≤ g2 ∧ dj.size = d.size ∧ Aside (SW enc w0 blk off dj wr2) ∧ Hid (Ins (ltOf cf) Rr a i j dk dj))
      case atStart => exact ⟨i, dk, rfl, by omega, Nat.le_refl _, Nat.le_refl _, hsk, S1, HI1⟩
      case round =>
        clear S1 HI1
        obtain ⟨j, dj, rfl, haj, hji, hg2, hsj, SJ, HI⟩ := hrel
        by_cases hja : a < j
        · obtain ⟨jp, rfl⟩ : ∃ q, j = q + 1 := ⟨j - 1, by omega⟩
          have hjad : decide ((jp : Int) + 1 > (a : Int)) = true := decide_eq_true (by omega)
          have hjaz' : (a : Int) < (jp : Int) + 1 := by omega
          have rj : IntKind.i64.wrap ((jp : Int) + 1 - 1) = (jp : Int) := by rw [IntKind.wrap_i64]; omega
          cases hlv : (ltOf cf) dj[jp + 1]! dj[jp]! with
          | true =>
            go_wp2_with fail
            obtain ⟨iNp, hiNp⟩ : ∃ q, q = jp + 1 := ⟨_, rfl⟩
            obtain ⟨jNp, hjNp⟩ : ∃ q, q = jp := ⟨_, rfl⟩
            have eap : ((jp : Int) + 1).toNat = iNp := by omega
            have pap : (0 : Int) ≤ (jp : Int) + 1 := by omega
            have bap : (jp : Int) + 1 < (L : Int) := by omega
            have rap : IntKind.i64.wrap ((jp : Int) + 1) = (jp : Int) + 1 := by rw [IntKind.wrap_i64]; omega
            have ecp : ((jp : Int)).toNat = jNp := by omega
            have pcp : (0 : Int) ≤ (jp : Int) := by omega
            have bcp : (jp : Int) < (L : Int) := by omega
            have rcp : IntKind.i64.wrap ((jp : Int)) = (jp : Int) := by rw [IntKind.wrap_i64]; omega
            obtain ⟨xp, hxp⟩ : ∃ x, x = dj[jp + 1]! := ⟨_, rfl⟩
            obtain ⟨yp, hyp⟩ : ∃ x, x = dj[jp]! := ⟨_, rfl⟩
            have lap := SJ.out.cl R (by omega) (jp + 1) (by omega)
            have lbp := SJ.out.cl R (by omega) (jp) (by omega)
            rw [← hxp, ← hiNp] at lap
            rw [← hyp, ← hjNp] at lbp
            have hcp := SJ.out.cmp HC.out (by omega) xp yp
            have hvp : cf xp yp < 0 := by rw [hxp, hyp]; exact of_decide_eq_true hlv
            have hdp : decide (cf xp yp < 0) = true := decide_eq_true hvp
            clear hxp hyp hiNp hjNp
            go_quiet_grown (first | (go_at_fn g; refine Calls.grown_of (hcp _ _)))
            have S2 : Aside (SW enc w0 blk off dj (grow (wr.drewN nq) osq)) := SJ.out.grown nq osq
            clear lap lbp hcp SJ
            generalize grow (wr.drewN nq) osq = wp at S2 ⊢
            clear nq osq
            clear eap ecp
            go_wp2_with fail
            obtain ⟨iNq, hiNq⟩ : ∃ q, q = jp + 1 := ⟨_, rfl⟩
            obtain ⟨jNq, hjNq⟩ : ∃ q, q = jp := ⟨_, rfl⟩
            have eaq : ((jp : Int) + 1).toNat = iNq := by omega
            have paq : (0 : Int) ≤ (jp : Int) + 1 := by omega
            have baq : (jp : Int) + 1 < (L : Int) := by omega
            have raq : IntKind.i64.wrap ((jp : Int) + 1) = (jp : Int) + 1 := by rw [IntKind.wrap_i64]; omega
            have ecq : ((jp : Int)).toNat = jNq := by omega
            have pcq : (0 : Int) ≤ (jp : Int) := by omega
            have bcq : (jp : Int) < (L : Int) := by omega
            have rcq : IntKind.i64.wrap ((jp : Int)) = (jp : Int) := by rw [IntKind.wrap_i64]; omega
            obtain ⟨xq, hxq⟩ : ∃ x, x = dj[jp + 1]! := ⟨_, rfl⟩
            obtain ⟨yq, hyq⟩ : ∃ x, x = dj[jp]! := ⟨_, rfl⟩
            have S3 : Aside (SW enc w0 blk off (swp dj (jp + 1) (jp)) ((wp.setCell ⟨blk, off + iNq, none⟩ (enc yq)).setCell ⟨blk, off + jNq, none⟩ (enc xq)).drew) := by rw [hiNq, hjNq, hxq, hyq]; exact S2.out.swapped R (jp + 1) (jp) (by omega) (by omega)
            have caq := S2.out.c1 R (by omega) (jp + 1) (by omega)
            have ccq := S2.out.c1 R (by omega) (jp) (by omega)
            have faq := S2.out.f1 R (by omega) (jp + 1) (by omega)
            have fbq := S2.out.f1 R (by omega) (jp) (by omega)
            obtain ⟨uq, cuq⟩ := S2.out.c2 R (by omega) (jp + 1) (jp) (by omega) (by omega) (enc yq)
            rw [← hiNq, ← hjNq] at cuq
            rw [← hxq, ← hiNq] at caq
            rw [← hyq, ← hjNq] at ccq
            rw [← hiNq] at faq
            rw [← hjNq] at fbq
            clear S2 hxq hyq hiNq hjNq
            go_wp2_with fail
            go_big_region_o
            clear caq ccq cuq faq fbq
            generalize ((wp.setCell ⟨blk, off + iNq, none⟩ (enc yq)).setCell ⟨blk, off + jNq, none⟩ (enc xq)).drew = wq at S3 ⊢
            clear eaq ecq
            go_wp2
            go_roundg jp
            case measure => omega
            case rel => exact ⟨jp, swp dj (jp + 1) jp, by first | rfl | go_num, by omega, by omega, Nat.le_refl _, by rw [size_swp]; exact hsj, S3, Ins.step HK.out HI.out (by omega) hji (by omega) hlv⟩
          | false =>
            go_wp2_with fail
            obtain ⟨iNp, hiNp⟩ : ∃ q, q = jp + 1 := ⟨_, rfl⟩
            obtain ⟨jNp, hjNp⟩ : ∃ q, q = jp := ⟨_, rfl⟩
            have eap : ((jp : Int) + 1).toNat = iNp := by omega
            have pap : (0 : Int) ≤ (jp : Int) + 1 := by omega
            have bap : (jp : Int) + 1 < (L : Int) := by omega
            have rap : IntKind.i64.wrap ((jp : Int) + 1) = (jp : Int) + 1 := by rw [IntKind.wrap_i64]; omega
            have ecp : ((jp : Int)).toNat = jNp := by omega
            have pcp : (0 : Int) ≤ (jp : Int) := by omega
            have bcp : (jp : Int) < (L : Int) := by omega
            have rcp : IntKind.i64.wrap ((jp : Int)) = (jp : Int) := by rw [IntKind.wrap_i64]; omega
            obtain ⟨xp, hxp⟩ : ∃ x, x = dj[jp + 1]! := ⟨_, rfl⟩
            obtain ⟨yp, hyp⟩ : ∃ x, x = dj[jp]! := ⟨_, rfl⟩
            have lap := SJ.out.cl R (by omega) (jp + 1) (by omega)
            have lbp := SJ.out.cl R (by omega) (jp) (by omega)
            rw [← hxp, ← hiNp] at lap
            rw [← hyp, ← hjNp] at lbp
            have hcp := SJ.out.cmp HC.out (by omega) xp yp
            have hvp : ¬ cf xp yp < 0 := by rw [hxp, hyp]; exact of_decide_eq_false hlv
            have hdp : decide (cf xp yp < 0) = false := decide_eq_false hvp
            clear hxp hyp hiNp hjNp
            go_quiet_grown (first | (go_at_fn g; refine Calls.grown_of (hcp _ _)))
            have S2 : Aside (SW enc w0 blk off dj (grow (wr.drewN nq) osq)) := SJ.out.grown nq osq
            clear lap lbp hcp SJ
            generalize grow (wr.drewN nq) osq = wp at S2 ⊢
            clear nq osq
            clear eap ecp
            go_wp2
            go_roundg (b - (i + 1))
            case measure => omega
            case rel => exact ⟨i + 1, dj, by go_num, by omega, by omega, by omega, by omega, hsj, S2, InsO.next HO.out hlt hb (HI.out.stop HK.out (by omega) (Or.inr hlv)), fun h => absurd h (by omega)⟩
        · have hjaz : decide ((j : Int) > (a : Int)) = false := decide_eq_false (by omega)
          have hjaz' : ¬ (a : Int) < (j : Int) := by omega
          go_wp2_with fail
          go_big_region_o
          have S2 : Aside (SW enc w0 blk off dj wr.drew) := SJ.out.drew
          clear SJ
          generalize wr.drew = w2 at S2 ⊢
          go_wp2
          go_roundg (b - (i + 1))
          case measure => omega
          case rel => exact ⟨i + 1, dj, by go_num, by omega, by omega, by omega, by omega, hsj, S2, InsO.next HO.out hlt hb (HI.out.stop HK.out haj (Or.inl (by omega))), fun h => absurd h (by omega)⟩
    · have hltz : ¬ (i : Int) < (b : Int) := by omega
      have HF : Hid (Merged Rr a b d dk) := by
        show Merged _ _ _ _ _
        by_cases e : i = b
        · rw [← e]; exact HO.out.mg
        · have hnab : ¬ a < b := fun h => by have := hib2 h; omega
          rw [HN.out (by omega)]
          exact ⟨permIn_refl _ _ _, fun x y h1 h2 h3 => by omega⟩
      go_wp2
      go_end0
      exact ⟨rfl, dk, HF.out, S1.out⟩
end Go.Proofs.YtphmmnffgknkcaaDoor
/- slices.symMergeCmpFunc, stableCmpFunc and SortStableFunc at trees: a sort that keeps the order of equals. -/
namespace Go.Proofs.YtphmmnffgknkcaaDoor
open Go.Shelf Go.RowKit Go.Lib Go.Sort
set_option maxRecDepth 100000
variable {α : Type} [Inhabited α]
theorem symMerge_any (enc : α → Value) (cf : α → α → Int) (Rr : α → α → Prop) (K : Keep (ltOf cf) Rr) (g : Nat) (cb : Array Value) (eg : ∀ args w, (callFunc g args).run Tryd.prog w = .ok (.enter g args) w) (blk off L cap : Nat) (d0 : Array α) (w0 : World) (hcmp : CmpLays1 Tryd.prog g cb enc cf blk off d0.size w0) (R : Row1 enc w0 blk off d0) (hL : d0.size = L) (hsz : L < 1000000000) : ∀ (NN a m b : Nat) (d : Array α) (w : World), b - a < NN → d0.size = d.size → SW enc w0 blk off d w → a < m → m < b → b ≤ d.size → Ris Rr a m d → Ris Rr m b d → Ahead (ltOf cf) Rr a m b d → Calls Tryd.prog 84 #[.slice (some ⟨blk, off, none⟩) L cap, .int .i64 a, .int .i64 m, .int .i64 b, .func (.func g) #[] cb] w fun e w' => e = .returned (.tuple #[]) ∧ ∃ d', Merged Rr a b d d' ∧ SW enc w0 blk off d' w'
  | 0, a, m, b, d, w, h, _, _, _, _, _, _, _, _ => by omega
  | NN + 1, a, m, b, d, w, h, hz, S, ham, hmb, hb, h1, h2, hx => by
    have IH := symMerge_any enc cf Rr K g cb eg blk off L cap d0 w0 hcmp R hL hsz NN
    by_cases c1 : m = a + 1
    · exact symLeft_any enc cf Rr K g cb eg blk off L cap a m b d0 d w0 w hcmp R hz (by omega) S c1 hmb hb (by omega) h2 hx
    · by_cases c2 : b = m + 1
      · exact symRight_any enc cf Rr K g cb eg blk off L cap a m b d0 d w0 w hcmp R hz (by omega) S ham c1 c2 hb (by omega) h1 hx
      · by_cases c3 : (a + b) / 2 < m
        · exact symMidA_any enc cf Rr K g cb eg blk off L cap a m b d0 d w0 w hcmp R hz (by omega) S NN (by omega) IH ham c1 hmb c2 ((a + b) / 2) ⟨by omega, by omega⟩ c3 hb (by omega) h1 h2 hx
        · exact symMidB_any enc cf Rr K g cb eg blk off L cap a m b d0 d w0 w hcmp R hz (by omega) S NN (by omega) IH ham c1 hmb c2 ((a + b) / 2) ⟨by omega, by omega⟩ (by omega) hb (by omega) h1 h2 hx
/-- blocks of B: those below hi rise, no two are mixed -/
structure Blkd (lt : α → α → Bool) (R : α → α → Prop) (B hi n : Nat) (d dk : Array α) : Prop where
  perm : PermIn 0 n d dk
  cut : ∀ k, Cut lt R (k * B) n dk
  ris : ∀ k, k * B < hi → Ris R (k * B) (min (k * B + B) n) dk
/-- in the midst of making blocks of B into blocks of 2 B: those of 2 B below a, those of B from a on -/
structure Half (lt : α → α → Bool) (R : α → α → Prop) (B k n : Nat) (d dk : Array α) : Prop where
  perm : PermIn 0 n d dk
  cut2 : ∀ j, Cut lt R (j * (2 * B)) n dk
  cut1 : ∀ j, k * (2 * B) ≤ j * B → Cut lt R (j * B) n dk
  ris2 : ∀ j, j < k → Ris R (j * (2 * B)) (min (j * (2 * B) + 2 * B) n) dk
  ris1 : ∀ j, k * (2 * B) ≤ j * B → j * B < n → Ris R (j * B) (min (j * B + B) n) dk
theorem Blkd.first {lt : α → α → Bool} {R : α → α → Prop} {n : Nat} {d : Array α} (h : Stood lt R 0 n d) : Blkd lt R 20 0 n d d :=
  ⟨permIn_refl _ _ _, fun k i j _ hi hj hj2 hl => h i j (Nat.zero_le _) (by omega) hj2 hl, fun k hk => by omega⟩
/-- one block of 20 more, up to e -/
theorem Blkd.next {lt : α → α → Bool} {R : α → α → Prop} {k e n : Nat} {d dk dj : Array α} (h : Blkd lt R 20 (k * 20) n d dk) (he : e = min (k * 20 + 20) n) (hk : k * 20 ≤ n) (hn : n ≤ d.size) (hm : Merged R (k * 20) e dk dj) : Blkd lt R 20 (k * 20 + 20) n d dj := by
  have hz : dk.size = d.size := h.perm.1
  refine ⟨permIn_trans _ _ _ _ _ h.perm (PermIn.wide hm.1 (Nat.zero_le _) (by omega) (by omega)), fun c => (h.cut c).perm hm.1 (by omega) (by omega) ?_, fun c hc => ?_⟩
  · by_cases c1 : c ≤ k
    · exact Or.inr (Nat.mul_le_mul_right 20 c1)
    · have : (k + 1) * 20 ≤ c * 20 := Nat.mul_le_mul_right 20 (by omega)
      exact Or.inl (by omega)
  · by_cases c1 : c < k
    · have h1 : (c + 1) * 20 ≤ k * 20 := Nat.mul_le_mul_right 20 (by omega)
      exact (h.ris c (by omega)).other hm.1 (Or.inl (by omega))
    · have e1 : c = k := by
        by_cases c2 : k < c
        · have : (k + 1) * 20 ≤ c * 20 := Nat.mul_le_mul_right 20 (by omega)
          omega
        · omega
      rw [e1, ← he]
      exact hm.2
theorem Blkd.half {lt : α → α → Bool} {R : α → α → Prop} {B n : Nat} {d dk : Array α} (h : Blkd lt R B n n d dk) : Half lt R B 0 n d dk :=
  ⟨h.perm, fun j => by rw [show j * (2 * B) = (j * 2) * B by rw [Nat.mul_assoc]]; exact h.cut _, fun j _ => h.cut j, fun j hj => by omega, fun j _ hj => h.ris j hj⟩
/-- two blocks of B, merged -/
theorem Half.next {lt : α → α → Bool} {R : α → α → Prop} {B k e n : Nat} {d dk dj : Array α} (h : Half lt R B k n d dk) (he : e = min (k * (2 * B) + 2 * B) n) (hn : n ≤ d.size) (hm : Merged R (k * (2 * B)) e dk dj) : Half lt R B (k + 1) n d dj := by
  have hz : dk.size = d.size := h.perm.1
  have hk1 : (k + 1) * (2 * B) = k * (2 * B) + 2 * B := Nat.succ_mul _ _
  refine ⟨permIn_trans _ _ _ _ _ h.perm (PermIn.wide hm.1 (Nat.zero_le _) (by omega) (by omega)), fun c => (h.cut2 c).perm hm.1 (by omega) (by omega) ?_, fun c hc => (h.cut1 c (by omega)).perm hm.1 (by omega) (by omega) (Or.inl (by omega)), fun c hc => ?_, fun c hc hcn => (h.ris1 c (by omega) hcn).other hm.1 (Or.inr (by omega))⟩
  · by_cases c1 : c ≤ k
    · exact Or.inr (Nat.mul_le_mul_right _ c1)
    · have : (k + 1) * (2 * B) ≤ c * (2 * B) := Nat.mul_le_mul_right _ (by omega)
      exact Or.inl (by omega)
  · by_cases c1 : c < k
    · have h1 : (c + 1) * (2 * B) ≤ k * (2 * B) := Nat.mul_le_mul_right _ (by omega)
      rw [Nat.succ_mul] at h1
      exact (h.ris2 c c1).other hm.1 (Or.inl (by omega))
    · rw [show c = k by omega, ← he]
      exact hm.2
/-- what a merge of two blocks asks -/
theorem Half.asks {lt : α → α → Bool} {R : α → α → Prop} {B k e n : Nat} {d dk : Array α} (h : Half lt R B k n d dk) (he : e = min (k * (2 * B) + 2 * B) n) (hB : 0 < B) (hm : k * (2 * B) + B < n) : Ris R (k * (2 * B)) (k * (2 * B) + B) dk ∧ Ris R (k * (2 * B) + B) e dk ∧ Ahead lt R (k * (2 * B)) (k * (2 * B) + B) e dk := by
  have e1 : k * (2 * B) = (2 * k) * B := by rw [Nat.mul_comm k, Nat.mul_assoc, Nat.mul_assoc, Nat.mul_comm B k]
  have e2 : k * (2 * B) + B = (2 * k + 1) * B := by rw [Nat.succ_mul (2 * k), e1]
  have q1 := h.ris1 (2 * k) (by omega) (by omega)
  have q2 := h.ris1 (2 * k + 1) (by omega) (by omega)
  have q3 := h.cut1 (2 * k + 1) (by omega)
  rw [← e1] at q1
  rw [← e2] at q2 q3
  exact ⟨q1.mono (Nat.le_refl _) (by omega), q2.mono (Nat.le_refl _) (by omega), q3.mono (Nat.zero_le _) (Nat.le_refl _) (Nat.le_refl _) (by omega)⟩
/-- the last, lone block -/
theorem Half.last {lt : α → α → Bool} {R : α → α → Prop} {B k n : Nat} {d dk : Array α} (h : Half lt R B k n d dk) (hB : 0 < B) (h1 : n ≤ k * (2 * B) + B) : Blkd lt R (2 * B) n n d dk := by
  refine ⟨h.perm, h.cut2, fun c hc => ?_⟩
  by_cases c1 : c < k
  · exact h.ris2 c c1
  · by_cases c2 : k < c
    · have : (k + 1) * (2 * B) ≤ c * (2 * B) := Nat.mul_le_mul_right _ (by omega)
      rw [Nat.succ_mul] at this
      omega
    · have e : c = k := by omega
      subst e
      have e1 : c * (2 * B) = (2 * c) * B := by rw [Nat.mul_comm c, Nat.mul_assoc, Nat.mul_assoc, Nat.mul_comm B c]
      have q1 := h.ris1 (2 * c) (by omega) (by omega)
      rw [← e1] at q1
      exact q1.mono (Nat.le_refl _) (by omega)
theorem Half.done {lt : α → α → Bool} {R : α → α → Prop} {B k n : Nat} {d dk : Array α} (h : Half lt R B k n d dk) (h1 : n ≤ k * (2 * B)) : Blkd lt R (2 * B) n n d dk := by
  refine ⟨h.perm, h.cut2, fun c hc => h.ris2 c ?_⟩
  by_cases c2 : c < k
  · exact c2
  · have : k * (2 * B) ≤ c * (2 * B) := Nat.mul_le_mul_right _ (by omega)
    omega
theorem Blkd.wide {lt : α → α → Bool} {R : α → α → Prop} {B hi n : Nat} {d dk : Array α} (h : Blkd lt R B hi n d dk) (hh : n ≤ hi) : Blkd lt R B n n d dk := ⟨h.perm, h.cut, fun k hk => h.ris k (by omega)⟩
theorem Blkd.whole {lt : α → α → Bool} {R : α → α → Prop} {B n : Nat} {d dk : Array α} (h : Blkd lt R B n n d dk) (hB : n ≤ B) : Merged R 0 n d dk := by
  refine ⟨h.perm, ?_⟩
  by_cases hn : n = 0
  · intro i j _ _ hj; omega
  · have := h.ris 0 (by omega)
    rw [Nat.zero_mul, Nat.zero_add, show min B n = n by omega] at this
    exact this
set_option maxHeartbeats 8000000 in
set_option maxRecDepth 1000000 in
theorem stable_any (enc : α → Value) (cf : α → α → Int) (Rr : α → α → Prop) (K : Keep (ltOf cf) Rr) (g : Nat) (cb : Array Value) (eg : ∀ args w, (callFunc g args).run Tryd.prog w = .ok (.enter g args) w) (blk off n cap : Nat) (d : Array α) (w0 w : World) (hcmp : CmpLays1 Tryd.prog g cb enc cf blk off d.size w0) (R : Row1 enc w0 blk off d) (hn : d.size = n) (S : SW enc w0 blk off d w) (hsz : n < 1000000000) (hS : Stood (ltOf cf) Rr 0 n d) :
    Calls Tryd.prog 67 #[.slice (some ⟨blk, off, none⟩) n cap, .int .i64 n, .func (.func g) #[] cb] w fun e w' => e = .returned (.tuple #[]) ∧ ∃ d', Merged Rr 0 n d d' ∧ SW enc w0 blk off d' w' := by
  have CI : Aside (∀ (a b : Nat) (dk : Array α) (w : World), dk.size = n → SW enc w0 blk off dk w → a ≤ b → b ≤ n → Stood (ltOf cf) Rr a b dk → Calls Tryd.prog 83 #[.slice (some ⟨blk, off, none⟩) n cap, .int .i64 a, .int .i64 b, .func (.func g) #[] cb] w fun e w' => e = .returned (.tuple #[]) ∧ ∃ d', Merged Rr a b dk d' ∧ SW enc w0 blk off d' w') := fun a b dk w h1 h2 h3 h4 h5 => insertion_any enc cf Rr K g cb eg blk off n cap a b d dk w0 w hcmp R (by omega) h1 h2 h3 (by omega) (by omega) h5
  have CM : Aside (∀ (a m b : Nat) (dk : Array α) (w : World), dk.size = n → SW enc w0 blk off dk w → a < m → m < b → b ≤ n → (Ris Rr a m dk ∧ Ris Rr m b dk ∧ Ahead (ltOf cf) Rr a m b dk) → Calls Tryd.prog 84 #[.slice (some ⟨blk, off, none⟩) n cap, .int .i64 a, .int .i64 m, .int .i64 b, .func (.func g) #[] cb] w fun e w' => e = .returned (.tuple #[]) ∧ ∃ d', Merged Rr a b dk d' ∧ SW enc w0 blk off d' w') := fun a m b dk w h1 h2 h3 h4 h5 h6 => symMerge_any enc cf Rr K g cb eg blk off n cap d w0 hcmp R hn hsz (b - a + 1) a m b dk w (by omega) (by omega) h2 h3 h4 (by omega) h6.1 h6.2.1 h6.2.2
  have HST : Hid (Stood (ltOf cf) Rr 0 n d) := hS
  have S0 : Aside (SW enc w0 blk off d w) := S
  have n1 : n ≤ d.size := Nat.le_of_eq hn.symm
  have n2 : d.size ≤ n := Nat.le_of_eq hn
  clear S hcmp R K hS hn
  go_enter Tryd.func67, Tryd.ntmps67
  go_wp2
  go_loopg [7, 8] n (fun kx s7 s8 wr => ∃ (aN bN : Nat) (dk : Array α), s7 = .int .i64 aN ∧ s8 = .int .i64 bN ∧ bN ≤ aN + 20 ∧ aN + 20 ≤ bN ∧ aN ≤ n ∧ n - aN ≤ kx ∧ Hid (dk.size = n) ∧ Aside (SW enc w0 blk off dk wr) ∧ Hid (∀ i, aN ≤ i → dk[i]! = d[i]!) ∧ Hid (∃ k, aN = k * 20 ∧ Blkd (ltOf cf) Rr 20 (k * 20) n d dk))
  case atStart => exact ⟨0, 20, d, rfl, rfl, by omega, by omega, by omega, by omega, (show d.size = n by omega), S0, fun _ _ => rfl, ⟨0, rfl, Blkd.first HST.out⟩⟩
  case round =>
    clear S0
    obtain ⟨aN, bN, dk, rfl, rfl, hb1, hb2, han, hkx, HZ, S1, HSA, HB⟩ := hrel
    by_cases hlt : bN ≤ n
    · have hltz : (bN : Int) ≤ (n : Int) := by omega
      have rb : IntKind.i64.wrap ((bN : Int) + 20) = (bN : Int) + 20 := by rw [IntKind.wrap_i64]; omega
      have HSS : Hid (Stood (ltOf cf) Rr aN bN dk) := fun i j hi hij hj hl => by
        rw [HSA.out i hi, HSA.out j (by omega)] at hl ⊢
        exact HST.out i j (Nat.zero_le _) hij (by omega) hl
      go_wp2_with (go_at_call 83; refine (CI.out aN bN dk _ HZ.out S1.out (by omega) (by omega) HSS.out).mono ?_; rintro e w2 ⟨rfl, d2, hmg, hS2⟩)
      go_roundg (n - bN)
      case measure => omega
      case rel =>
        refine ⟨bN, bN + 20, d2, rfl, by go_num, by omega, by omega, by omega, Nat.le_refl _, (show d2.size = n by rw [hmg.1.1]; exact HZ.out), hS2, fun i hi => ?_, ?_⟩
        · rw [hmg.1.2.1 i (by omega)]
          exact HSA.out i (by omega)
        · obtain ⟨k, hk, hB⟩ := HB.out
          have e : bN = (k + 1) * 20 := by omega
          refine ⟨k + 1, e, ?_⟩
          rw [hk] at hmg
          have := hB.next (e := bN) (by omega) (by omega) n1 hmg
          rw [Nat.succ_mul]
          exact this
    · have hltz : ¬ (bN : Int) ≤ (n : Int) := by omega
      have HSS : Hid (Stood (ltOf cf) Rr aN n dk) := fun i j hi hij hj hl => by
        rw [HSA.out i hi, HSA.out j (by omega)] at hl ⊢
        exact HST.out i j (Nat.zero_le _) hij (by omega) hl
      go_wp2_with (go_at_call 83; refine (CI.out aN n dk _ HZ.out S1.out han (Nat.le_refl _) HSS.out).mono ?_; rintro e w2 ⟨rfl, d2, hmg, hS2⟩)
      have HB2 : Hid (Blkd (ltOf cf) Rr 20 n n d d2) := by
        obtain ⟨k, hk, hB⟩ := HB.out
        rw [hk] at hmg
        exact (hB.next (e := n) (by omega) (by omega) n1 hmg).wide (by omega)
      have HZ2 : Hid (d2.size = n) := (show d2.size = n by rw [hmg.1.1]; exact HZ.out)
      have S2 : Aside (SW enc w0 blk off d2 w2) := hS2
      clear CI HST HSA HB HSS hmg hS2 S1 HZ
      go_loopg [6] n (fun kx s6 wr => ∃ (B : Nat) (dk : Array α), s6 = .int .i64 B ∧ 0 < B ∧ B ≤ 2 * n + 20 ∧ n - B ≤ kx ∧ Hid (dk.size = n) ∧ Aside (SW enc w0 blk off dk wr) ∧ Hid (Blkd (ltOf cf) Rr B n n d dk))
      case atStart => exact ⟨20, d2, rfl, by omega, by omega, by omega, HZ2, S2, HB2⟩
      case round =>
        clear S2 HB2 HZ2
        obtain ⟨B, dk, rfl, hB0, hB1, hkx2, HZ, S1, HB⟩ := hrel
        by_cases hBn : B < n
        · have hBz : (B : Int) < (n : Int) := by omega
          have r2 : IntKind.i64.wrap (2 * (B : Int)) = 2 * (B : Int) := by rw [IntKind.wrap_i64]; omega
          go_wp2
          go_loopg [7, 8] n (fun kx s7 s8 wr => ∃ (aN bN : Nat) (dj : Array α), s7 = .int .i64 aN ∧ s8 = .int .i64 bN ∧ bN ≤ aN + 2 * B ∧ aN + 2 * B ≤ bN ∧ aN ≤ n ∧ n - aN ≤ kx ∧ Hid (dj.size = n) ∧ Aside (SW enc w0 blk off dj wr) ∧ Hid (∃ k, aN = k * (2 * B) ∧ Half (ltOf cf) Rr B k n d dj))
          case atStart => exact ⟨0, 2 * B, dk, rfl, by first | rfl | go_num, by omega, by omega, by omega, by omega, HZ, S1, ⟨0, by omega, HB.out.half⟩⟩
          case round =>
            clear S1 HZ HB
            obtain ⟨aN, bN, dj, rfl, rfl, hb3, hb4, han2, hkx3, HZ, S1, HH⟩ := hrel
            by_cases hlt2 : bN ≤ n
            · have hltz2 : (bN : Int) ≤ (n : Int) := by omega
              have ra : IntKind.i64.wrap ((aN : Int) + (B : Int)) = ((aN + B : Nat) : Int) := by rw [IntKind.wrap_i64]; omega
              have rb : IntKind.i64.wrap ((bN : Int) + 2 * (B : Int)) = (bN : Int) + 2 * (B : Int) := by rw [IntKind.wrap_i64]; omega
              have HA : Hid (Ris Rr aN (aN + B) dj ∧ Ris Rr (aN + B) bN dj ∧ Ahead (ltOf cf) Rr aN (aN + B) bN dj) := by
                obtain ⟨k, hk, hH⟩ := HH.out
                have := hH.asks (e := bN) (by omega) hB0 (by omega)
                rw [← hk] at this
                exact this
              go_wp2_with (go_at_call 84; refine (CM.out aN (aN + B) bN dj _ HZ.out S1.out (by omega) (by omega) hlt2 HA.out).mono ?_; rintro e w3 ⟨rfl, d3, hmg, hS3⟩)
              go_roundg (n - bN)
              case measure => omega
              case rel =>
                refine ⟨bN, bN + 2 * B, d3, rfl, by go_num, by omega, by omega, by omega, Nat.le_refl _, (show d3.size = n by rw [hmg.1.1]; exact HZ.out), hS3, ?_⟩
                obtain ⟨k, hk, hH⟩ := HH.out
                have e : bN = (k + 1) * (2 * B) := by rw [Nat.succ_mul]; omega
                refine ⟨k + 1, e, ?_⟩
                rw [hk] at hmg
                exact hH.next (e := bN) (by omega) n1 hmg
            · have hltz2 : ¬ (bN : Int) ≤ (n : Int) := by omega
              obtain ⟨mN, hmN⟩ : ∃ x, x = aN + B := ⟨_, rfl⟩
              have ra : IntKind.i64.wrap ((aN : Int) + (B : Int)) = (mN : Int) := by rw [IntKind.wrap_i64]; omega
              have m1 : mN ≤ aN + B := Nat.le_of_eq hmN
              have m2 : aN + B ≤ mN := Nat.le_of_eq hmN.symm
              have HMN : Hid (mN = aN + B) := hmN
              clear hmN
              have rB : IntKind.i64.wrap ((B : Int) * 2) = (B : Int) * 2 := by rw [IntKind.wrap_i64]; omega
              by_cases hmn : mN < n
              · have hmz : (mN : Int) < (n : Int) := by omega
                have HA : Hid (Ris Rr aN mN dj ∧ Ris Rr mN n dj ∧ Ahead (ltOf cf) Rr aN mN n dj) := by
                  obtain ⟨k, hk, hH⟩ := HH.out
                  have := hH.asks (e := n) (by omega) hB0 (by omega)
                  rw [← hk, ← HMN.out] at this
                  exact this
                go_wp2_with (go_at_call 84; refine (CM.out aN mN n dj _ HZ.out S1.out (by omega) hmn (Nat.le_refl _) HA.out).mono ?_; rintro e w3 ⟨rfl, d3, hmg, hS3⟩)
                go_roundg (n - 2 * B)
                case measure => omega
                case rel =>
                  refine ⟨2 * B, d3, by first | rfl | go_num | (congr 1; omega), by omega, by omega, Nat.le_refl _, (show d3.size = n by rw [hmg.1.1]; exact HZ.out), hS3, ?_⟩
                  obtain ⟨k, hk, hH⟩ := HH.out
                  rw [hk] at hmg
                  exact (hH.next (e := n) (by omega) n1 hmg).done (by rw [Nat.succ_mul]; omega)
              · have hmz : ¬ (mN : Int) < (n : Int) := by omega
                go_wp2_with fail
                go_roundg (n - 2 * B)
                case measure => omega
                case rel =>
                  refine ⟨2 * B, dj, by first | rfl | go_num | (congr 1; omega), by omega, by omega, Nat.le_refl _, HZ, S1, ?_⟩
                  obtain ⟨k, hk, hH⟩ := HH.out
                  exact hH.last hB0 (by omega)
        · have hBz : ¬ (B : Int) < (n : Int) := by omega
          go_wp2
          go_end0
          exact ⟨rfl, dk, HB.out.whole (by omega), S1.out⟩
end Go.Proofs.YtphmmnffgknkcaaDoor
/- Worlds of the sort; the walks of tree.rising's two functions that are handed to slices. -/
namespace Go.Proofs.YtphmmnffgknkcaaDoor
open Go.Shelf Go.RowKit Go.Lib Go.Sort
set_option maxRecDepth 100000
theorem heap_mapBlock (w : World) (blk j : Nat) (f : Array Value → Array Value) (h : j ≠ blk) : (mapBlock w blk f).heap[j]? = w.heap[j]? := by
  unfold mapBlock
  simp [Array.getElem?_modify, Ne.symm h]
section
variable {α : Type} [Inhabited α] {enc : α → Value} {w0 W : World} {blk off : Nat} {dk : Array α}
theorem heap_sortWorld (n j : Nat) (os : Array Obj) (h : j ≠ blk) (hj : j < w0.heap.size) : (sortWorld enc w0 blk off n dk os).heap[j]? = w0.heap[j]? := by
  unfold sortWorld
  show ((putRow enc (Sort.ahead w0 n) blk off dk).heap ++ os)[j]? = _
  rw [Array.getElem?_append_left (by rw [Go.Sort.size_putRow]; exact hj)]
  exact heap_mapBlock _ _ _ _ h
theorem sw_heap (h : SW enc w0 blk off dk W) (j : Nat) (hj : j ≠ blk) (hl : j < w0.heap.size) : W.heap[j]? = w0.heap[j]? := by
  obtain ⟨n, os, rfl⟩ := h
  exact heap_sortWorld n j os hj hl
theorem sw_bel {w : World} {B : Nat} (h : SW enc w0 blk off dk W) (hb : Below B w w0) (hB : B ≤ blk) (hs : B ≤ w0.heap.size) : Below B w W := by
  have hh := sw_heap h
  have hle := h.le
  obtain ⟨n, os, rfl⟩ := h
  refine ⟨hb.os, hb.tape, hb.output, Nat.le_trans hb.size hle, fun k hk => ?_⟩
  rw [hh k (by omega) (by omega)]
  exact hb.block k hk
theorem sw_set (h : SW enc w0 blk off dk W) (hblk : blk < w0.heap.size) (i : Nat) (x : α) (hi : i < dk.size) : SW enc w0 blk off (dk.setIfInBounds i x) (W.setCell ⟨blk, off + i, none⟩ (enc x)) := by
  obtain ⟨n, os, rfl⟩ := h
  refine ⟨n, os, ?_⟩
  unfold sortWorld
  rw [← putRow_grow enc (Sort.ahead w0 n) os blk off dk hblk, putRow_set enc _ blk off dk i x hi, putRow_grow enc (Sort.ahead w0 n) os blk off _ hblk]
end
theorem blk_heap {W W' : World} {g : Nat} {cs : List Value} {t : TypeId} (h : Blk W g cs t) (e : W'.heap[g]? = W.heap[g]?) : Blk W' g cs t := by
  unfold Blk at *
  rw [e]; exact h
theorem TreeC.heap {W W' : World} {g c : Nat} {rt ix vl : List (BitVec 8)} {p q : Value} (h : TreeC W g c rt ix vl p q) (e : W'.heap[g]? = W.heap[g]?) : TreeC W' g c rt ix vl p q := ⟨blk_heap h.blk e, h.l1, h.l2, h.l3⟩
abbrev cmpB (x y : List (BitVec 8)) : Int := Lib.compareBytes (x.map UInt8.ofBitVec) (y.map UInt8.ofBitVec)
theorem loadB (z : List (BitVec 8)) (b o : Nat) (w : World) (hz : z.length = 32) (hb : w.rangeAt b o (cb z)) : (Extern.Bytes.loadBytes ⟨b, o, none⟩ 32 .empty).run Tryd.prog w = .ok ⟨(z.map UInt8.ofBitVec).toArray⟩ w := by
  have hl := Lib.run_loadBytesX (P := Tryd.prog) w (z.map fun b => (b.toNat : Int)) ⟨b, o, none⟩ .empty (fun j v hj => by
    have hjl : j < z.length := by have := (List.getElem?_eq_some_iff.1 hj).1; simpa using this
    rw [Addr.add_mid, hb j _ (cb_get z j hjl)]
    rw [List.getElem?_map, List.getElem?_eq_getElem hjl] at hj
    simp only [Option.map_some, Option.some.injEq] at hj
    rw [← hj, List.getD_eq_getElem?_getD, List.getElem?_eq_getElem hjl, Option.getD_some])
  rw [List.length_map, hz, bytes_cb] at hl
  simpa using hl
theorem run_compareR (x y : List (BitVec 8)) (hx : x.length = 32) (hy : y.length = 32) (g h o p : Nat) {w : World} (h1 : w.rangeAt g o (cb x)) (h2 : w.rangeAt h p (cb y)) :
    (Extern.BytealgCompare.compare #[.slice (some ⟨g, o, none⟩) 32 32, .slice (some ⟨h, p, none⟩) 32 32]).run Tryd.prog w = .ok (.int .i64 (cmpB x y)) w := by
  change Sem.run Tryd.prog (do pure (goInt (Extern.BytealgCompare.cmp (← Extern.Bytes.bytesOf (.slice (some ⟨g, o, none⟩) 32 32)) (← Extern.Bytes.bytesOf (.slice (some ⟨h, p, none⟩) 32 32))))) w = _
  simp only [Extern.Bytes.bytesOf, Sem.run_bind, Sem.run_pure, loadB x g o w hx h1, loadB y h p w hy h2, Result.andThen]
  rw [Lib.cmp_eq]
  rfl
theorem slice_dig33 (g : Nat) (w : World) : (Instr.sliceAt 28 (.pointer (some ⟨g, 33, none⟩)) none none none).run Tryd.prog w = .ok (.slice (some ⟨g, 33, none⟩) 32 32) w := by kernel_rfl
set_option maxRecDepth 100000 in
theorem bCompareR_any (x y : List (BitVec 8)) (hx : x.length = 32) (hy : y.length = 32) (g h o p : Nat) (w : World) (h1 : w.rangeAt g o (cb x)) (h2 : w.rangeAt h p (cb y)) :
    Calls Tryd.prog 44 #[.slice (some ⟨g, o, none⟩) 32 32, .slice (some ⟨h, p, none⟩) 32 32] w fun e w' => e = .returned (.int .i64 (cmpB x y)) ∧ w' = w := by
  have hr := run_compareR x y hx hy g h o p h1 h2
  obtain ⟨c, HC⟩ : ∃ c, Hid (c = cmpB x y) := ⟨_, rfl⟩
  rw [← HC.out] at hr ⊢
  clear h1 h2
  go_enter Tryd.func44, Tryd.ntmps44
  go_wp2
  rw [run_callFunc_extern Tryd.func68 (by kernel_rfl) (by kernel_rfl) (by kernel_rfl) (e := Extern.BytealgCompare.compare) (by kernel_rfl), hr]
  simp only [Result.andThen]
  rw [Oper.upon_value]
  go_wp2
  go_ret
  exact ⟨rfl, rfl⟩
set_option maxRecDepth 100000 in
set_option maxHeartbeats 1000000 in
theorem trRising1_any (gx gy : Nat) (x y : List (BitVec 8)) (w : World) (hx : w.rangeAt gx 33 (cb x)) (hy : w.rangeAt gy 33 (cb y)) (h1 : x.length = 32) (h2 : y.length = 32) : Calls Tryd.prog 43 #[.pointer (some ⟨gx, 0, none⟩), .pointer (some ⟨gy, 0, none⟩)] w fun e w' => e = .returned (.int .i64 (cmpB x y)) ∧ w' = w.drew := by
  have HX : Hid (w.drew.rangeAt gx 33 (cb x)) := hx
  have HY : Hid (w.drew.rangeAt gy 33 (cb y)) := hy
  have H1 : Hid (x.length = 32) := h1
  have H2 : Hid (y.length = 32) := h2
  obtain ⟨c, HC⟩ : ∃ c, Hid (c = cmpB x y) := ⟨_, rfl⟩
  rw [← HC.out]
  clear hx hy h1 h2
  go_enter Tryd.func43, Tryd.ntmps43
  go_wp2_with fail
  refine wp_region_any (by kernel_rfl) ?_
  change wpAny _ _ _ _ _ _ _ (World.drew w)
  refine wpAny_take (i := 0) (v := .pointer (some ⟨gx, 0, none⟩)) rfl (by kernel_rfl) (by kernel_rfl) (by kernel_rfl) (fun _ _ _ h => h) (Or.inl ⟨by rfl, fun wx => by simp [go_sem]⟩) ?_
  simp only [Act.put, List.getElem_toArray, List.getElem_cons_zero, List.setIfInBounds_toArray, List.set_cons_zero, List.set_cons_succ]
  refine wpAny_take (i := 1) (v := .pointer (some ⟨gx, 0, none⟩)) rfl (by kernel_rfl) (by kernel_rfl) (by kernel_rfl) (fun _ _ _ h => h) (Or.inl ⟨by rfl, fun wx => by simp [go_sem]⟩) ?_
  simp only [Act.put, List.getElem_toArray, List.getElem_cons_succ, List.getElem_cons_zero, List.setIfInBounds_toArray, List.set_cons_zero, List.set_cons_succ]
  refine wpAny_take (i := 2) (v := .pointer (some ⟨gx, 33, none⟩)) rfl (by kernel_rfl) (by kernel_rfl) (by kernel_rfl) (fun _ _ _ h => h) (Or.inl ⟨by rfl, fun wx => by simp [go_sem]⟩) ?_
  simp only [Act.put, List.getElem_toArray, List.getElem_cons_succ, List.getElem_cons_zero, List.setIfInBounds_toArray, List.set_cons_zero, List.set_cons_succ]
  refine wpAny_take (i := 3) (v := .slice (some ⟨gx, 33, none⟩) 32 32) rfl (by kernel_rfl) (by kernel_rfl) (by kernel_rfl) (fun _ _ _ h => h) (Or.inl ⟨by rfl, fun wx => by simp [execOp, Act.eval, slice_dig33]⟩) ?_
  simp only [Act.put, List.getElem_toArray, List.getElem_cons_succ, List.getElem_cons_zero, List.setIfInBounds_toArray, List.set_cons_zero, List.set_cons_succ]
  refine wpAny_take (i := 4) (v := .pointer (some ⟨gy, 0, none⟩)) rfl (by kernel_rfl) (by kernel_rfl) (by kernel_rfl) (fun _ _ _ h => h) (Or.inl ⟨by rfl, fun wx => by simp [go_sem]⟩) ?_
  simp only [Act.put, List.getElem_toArray, List.getElem_cons_succ, List.getElem_cons_zero, List.setIfInBounds_toArray, List.set_cons_zero, List.set_cons_succ]
  refine wpAny_take (i := 5) (v := .pointer (some ⟨gy, 0, none⟩)) rfl (by kernel_rfl) (by kernel_rfl) (by kernel_rfl) (fun _ _ _ h => h) (Or.inl ⟨by rfl, fun wx => by simp [go_sem]⟩) ?_
  simp only [Act.put, List.getElem_toArray, List.getElem_cons_succ, List.getElem_cons_zero, List.setIfInBounds_toArray, List.set_cons_zero, List.set_cons_succ]
  refine wpAny_take (i := 6) (v := .pointer (some ⟨gy, 33, none⟩)) rfl (by kernel_rfl) (by kernel_rfl) (by kernel_rfl) (fun _ _ _ h => h) (Or.inl ⟨by rfl, fun wx => by simp [go_sem]⟩) ?_
  simp only [Act.put, List.getElem_toArray, List.getElem_cons_succ, List.getElem_cons_zero, List.setIfInBounds_toArray, List.set_cons_zero, List.set_cons_succ]
  refine wpAny_take (i := 7) (v := .slice (some ⟨gy, 33, none⟩) 32 32) rfl (by kernel_rfl) (by kernel_rfl) (by kernel_rfl) (fun _ _ _ h => h) (Or.inl ⟨by rfl, fun wx => by simp [execOp, Act.eval, slice_dig33]⟩) ?_
  simp only [Act.put, List.getElem_toArray, List.getElem_cons_succ, List.getElem_cons_zero, List.setIfInBounds_toArray, List.set_cons_zero, List.set_cons_succ]
  refine wpAny_enter 8 (by kernel_rfl) rfl (by rfl) (f := 44) (args := #[.slice (some ⟨gx, 33, none⟩) 32 32, .slice (some ⟨gy, 33, none⟩) 32 32]) (by simp [go_sem]) (bCompareR_any x y H1.out H2.out gx gy 33 33 _ HX.out HY.out) ?_
  rintro e wz ⟨rfl, hz⟩
  rw [hz, ← HC.out]; clear hz wz
  refine ⟨_, rfl, ?_⟩
  simp only [Act.put, List.getElem_toArray, List.getElem_cons_succ, List.getElem_cons_zero, List.setIfInBounds_toArray, List.set_cons_zero, List.set_cons_succ]
  refine wpAny_take (i := 9) (v := .int .i64 c) rfl (by kernel_rfl) (by kernel_rfl) (by kernel_rfl) (fun _ _ _ h => h) (Or.inl ⟨by rfl, fun wx => by simp [go_sem]⟩) ?_
  simp only [Act.put, List.getElem_toArray, List.getElem_cons_succ, List.getElem_cons_zero, List.setIfInBounds_toArray, List.set_cons_zero, List.set_cons_succ]
  refine wpAny_done (by kernel_rfl) ?_ _
  go_wp2_with fail
  go_ret
  exact ⟨rfl, rfl⟩
set_option maxRecDepth 100000 in
set_option maxHeartbeats 1000000 in
theorem trRising2_any (gx gy : Nat) (x y : List (BitVec 8)) (w : World) (hx : w.rangeAt gx 33 (cb x)) (hy : w.rangeAt gy 33 (cb y)) (h1 : x.length = 32) (h2 : y.length = 32) : Calls Tryd.prog 46 #[.pointer (some ⟨gx, 0, none⟩), .pointer (some ⟨gy, 0, none⟩)] w fun e w' => e = .returned (.bool (decide (x = y))) ∧ w' = w.drew := by
  have HX : Hid (∀ wx, Over w.drew wx → wx.rangeAt gx 33 (cb x)) := fun wx hw => rangeAt_below (w := w.drew) hx hw.out (rangeAt_lt hx h1)
  have HY : Hid (∀ wx, Over w.drew wx → wx.rangeAt gy 33 (cb y)) := fun wx hw => rangeAt_below (w := w.drew) hy hw.out (rangeAt_lt hy h2)
  have H1 : Hid (x.length = 32) := h1
  have H2 : Hid (y.length = 32) := h2
  have heq : ∀ wx : World, (Op.equalIn 10000 28 (.agg (cb x).toArray) (.agg (cb y).toArray)).run Tryd.prog wx = .ok (decide (x = y)) wx := fun wx => eq_dig x y h1 h2 wx
  clear hx hy h1 h2
  go_enter Tryd.func46, Tryd.ntmps46
  go_wp2_with fail
  refine wp_region_held_drew (S := Over w.drew) (by kernel_rfl) (Over.refl _) ?_
  intro hS
  refine wpAnyH_take (i := 0) (v := .pointer (some ⟨gx, 0, none⟩)) rfl (by kernel_rfl) (by kernel_rfl) (by kernel_rfl) (fun _ _ _ h => h) (Or.inl ⟨by rfl, fun wx hx => by simp [go_sem]⟩) hS ?_
  simp only [Act.put, List.getElem_toArray, List.getElem_cons_zero, List.setIfInBounds_toArray, List.set_cons_zero, List.set_cons_succ]
  refine wpAnyH_take (i := 1) (v := .pointer (some ⟨gx, 0, none⟩)) rfl (by kernel_rfl) (by kernel_rfl) (by kernel_rfl) (fun _ _ _ h => h) (Or.inl ⟨by rfl, fun wx hx => by simp [go_sem]⟩) hS ?_
  simp only [Act.put, List.getElem_toArray, List.getElem_cons_succ, List.getElem_cons_zero, List.setIfInBounds_toArray, List.set_cons_zero, List.set_cons_succ]
  refine wpAnyH_take (i := 2) (v := .pointer (some ⟨gx, 33, none⟩)) rfl (by kernel_rfl) (by kernel_rfl) (by kernel_rfl) (fun _ _ _ h => h) (Or.inl ⟨by rfl, fun wx hx => by simp [go_sem]⟩) hS ?_
  simp only [Act.put, List.getElem_toArray, List.getElem_cons_succ, List.getElem_cons_zero, List.setIfInBounds_toArray, List.set_cons_zero, List.set_cons_succ]
  refine wpAnyH_take (i := 3) (v := .agg (cb x).toArray) rfl (by kernel_rfl) (by kernel_rfl) (by kernel_rfl) (fun _ _ _ h => h) (Or.inl ⟨by rfl, fun wx hx => by exact load_run 28 _ rfl _ _ rfl (cb x) _ (HX.out wx hx) Tryd.underlying28 rfl (by rw [cb_len, H1.out]; exact info_digest)⟩) hS ?_
  simp only [Act.put, List.getElem_toArray, List.getElem_cons_succ, List.getElem_cons_zero, List.setIfInBounds_toArray, List.set_cons_zero, List.set_cons_succ]
  refine wpAnyH_take (i := 4) (v := .pointer (some ⟨gy, 0, none⟩)) rfl (by kernel_rfl) (by kernel_rfl) (by kernel_rfl) (fun _ _ _ h => h) (Or.inl ⟨by rfl, fun wx hx => by simp [go_sem]⟩) hS ?_
  simp only [Act.put, List.getElem_toArray, List.getElem_cons_succ, List.getElem_cons_zero, List.setIfInBounds_toArray, List.set_cons_zero, List.set_cons_succ]
  refine wpAnyH_take (i := 5) (v := .pointer (some ⟨gy, 0, none⟩)) rfl (by kernel_rfl) (by kernel_rfl) (by kernel_rfl) (fun _ _ _ h => h) (Or.inl ⟨by rfl, fun wx hx => by simp [go_sem]⟩) hS ?_
  simp only [Act.put, List.getElem_toArray, List.getElem_cons_succ, List.getElem_cons_zero, List.setIfInBounds_toArray, List.set_cons_zero, List.set_cons_succ]
  refine wpAnyH_take (i := 6) (v := .pointer (some ⟨gy, 33, none⟩)) rfl (by kernel_rfl) (by kernel_rfl) (by kernel_rfl) (fun _ _ _ h => h) (Or.inl ⟨by rfl, fun wx hx => by simp [go_sem]⟩) hS ?_
  simp only [Act.put, List.getElem_toArray, List.getElem_cons_succ, List.getElem_cons_zero, List.setIfInBounds_toArray, List.set_cons_zero, List.set_cons_succ]
  refine wpAnyH_take (i := 7) (v := .agg (cb y).toArray) rfl (by kernel_rfl) (by kernel_rfl) (by kernel_rfl) (fun _ _ _ h => h) (Or.inl ⟨by rfl, fun wx hx => by exact load_run 28 _ rfl _ _ rfl (cb y) _ (HY.out wx hx) Tryd.underlying28 rfl (by rw [cb_len, H2.out]; exact info_digest)⟩) hS ?_
  simp only [Act.put, List.getElem_toArray, List.getElem_cons_succ, List.getElem_cons_zero, List.setIfInBounds_toArray, List.set_cons_zero, List.set_cons_succ]
  refine wpAnyH_take (i := 8) (v := .bool (decide (x = y))) rfl (by kernel_rfl) (by kernel_rfl) (by kernel_rfl) (fun _ _ _ h => h) (Or.inl ⟨by rfl, fun wx hx => by simp [go_sem, heq]⟩) hS ?_
  simp only [Act.put, List.getElem_toArray, List.getElem_cons_succ, List.getElem_cons_zero, List.setIfInBounds_toArray, List.set_cons_zero, List.set_cons_succ]
  refine wpAnyH_take (i := 9) (v := .bool (decide (x = y))) rfl (by kernel_rfl) (by kernel_rfl) (by kernel_rfl) (fun _ _ _ h => h) (Or.inl ⟨by rfl, fun wx hx => by simp [go_sem]⟩) hS ?_
  simp only [Act.put, List.getElem_toArray, List.getElem_cons_succ, List.getElem_cons_zero, List.setIfInBounds_toArray, List.set_cons_zero, List.set_cons_succ]
  refine wpAnyH_done (by kernel_rfl) ?_ _
  go_wp2_with fail
  go_ret
  exact ⟨rfl, rfl⟩
end Go.Proofs.YtphmmnffgknkcaaDoor
/- The walk of slices.CompactFunc at trees: of equals that stand one behind the other the first. -/
namespace Go.Proofs.YtphmmnffgknkcaaDoor
open Go.Shelf Go.RowKit Go.Lib Go.Sort
set_option maxRecDepth 100000
variable {α : Type} [Inhabited α]
/-- what is asked of eq, in the worlds of a row -/
def EqLays (g : Nat) (cb : Array Value) (enc : α → Value) (eqf : α → α → Bool) (blk off size : Nat) (w : World) : Prop :=
  ∀ (m : Nat) (os : Array Obj) (dk : Array α), dk.size = size → ∀ x y : α,
    Calls Tryd.prog g (#[enc x, enc y] ++ cb) (sortWorld enc w blk off m dk os) fun e w' => e = .returned (.bool (eqf x y)) ∧ ∃ q os', w' = grow ((sortWorld enc w blk off m dk os).drewN q) os'
theorem swEq {enc : α → Value} {w0 W : World} {blk off : Nat} {dk : Array α} {g : Nat} {cb : Array Value} {eqf : α → α → Bool} {size : Nat} (h : SW enc w0 blk off dk W) (hC : EqLays g cb enc eqf blk off size w0) (hs : dk.size = size) (x y : α) (n : Nat) (os : Array Obj) :
    Calls Tryd.prog g (#[enc x, enc y] ++ cb) (grow (W.drewN n) os) fun e w' => e = .returned (.bool (eqf x y)) ∧ ∃ q os', w' = grow ((grow (W.drewN n) os).drewN q) os' := by
  obtain ⟨m, os0, hw⟩ := h.grown n os
  rw [hw]
  exact hC m os0 dk hs x y
/-- place k is not like the one ahead of it -/
def keptB (eqf : α → α → Bool) (d : Array α) (k : Nat) : Bool := k == 0 || !eqf d[k]! d[k - 1]!
def keptL (eqf : α → α → Bool) (d : Array α) (n : Nat) : List α := ((List.range n).filter (keptB eqf d)).map fun k => d[k]!
theorem keptL_succ (eqf : α → α → Bool) (d : Array α) (n : Nat) : keptL eqf d (n + 1) = keptL eqf d n ++ (if keptB eqf d n then [d[n]!] else []) := by
  unfold keptL
  rw [List.range_succ, List.filter_append, List.map_append]
  congr 1
  rw [List.filter_cons]
  split <;> simp
theorem keptL_le (eqf : α → α → Bool) (d : Array α) (n : Nat) : (keptL eqf d n).length ≤ n := by
  unfold keptL
  rw [List.length_map]
  exact Nat.le_trans (List.length_filter_le _ _) (by simp)
theorem keptL_all (eqf : α → α → Bool) (d : Array α) (n : Nat) (hn : n ≤ d.size) (h : ∀ k, 1 ≤ k → k < n → eqf d[k]! d[k - 1]! = false) : keptL eqf d n = d.toList.take n := by
  induction n with
  | zero => simp [keptL]
  | succ n ih =>
    rw [keptL_succ, ih (by omega) (fun k h1 h2 => h k h1 (by omega)), List.take_add_one]
    congr 1
    have hk : keptB eqf d n = true := by
      unfold keptB
      by_cases e : n = 0
      · simp [e]
      · rw [h n (by omega) (by omega)]; simp
    rw [if_pos hk, Array.getElem?_toList, Array.getElem?_eq_getElem (by omega), getElem!_pos d n (by omega)]
    rfl
/-- in the midst: the places below kk hold what is kept of those below i; from i - 1 on all is as it was -/
structure Cpt (eqf : α → α → Bool) (d : Array α) (i kk : Nat) (dk : Array α) : Prop where
  size : dk.size = d.size
  take : dk.toList.take kk = keptL eqf d i
  len : kk = (keptL eqf d i).length
  lt : kk < i
  same : ∀ k, i ≤ k + 1 → dk[k]! = d[k]!
theorem Cpt.skip {eqf : α → α → Bool} {d dk : Array α} {i kk : Nat} (h : Cpt eqf d i kk dk) (h0 : 0 < i) (he : eqf d[i]! d[i - 1]! = true) : Cpt eqf d (i + 1) kk dk := by
  have hk : keptB eqf d i = false := by unfold keptB; rw [he]; simp; omega
  have e : keptL eqf d (i + 1) = keptL eqf d i := by rw [keptL_succ, hk]; simp
  exact ⟨h.size, by rw [e]; exact h.take, by rw [e]; exact h.len, by have := h.lt; omega, fun k hk => h.same k (by omega)⟩
theorem Cpt.keep {eqf : α → α → Bool} {d dk : Array α} {i kk : Nat} (h : Cpt eqf d i kk dk) (hi : i < d.size) (he : eqf d[i]! d[i - 1]! = false) : Cpt eqf d (i + 1) (kk + 1) (dk.setIfInBounds kk d[i]!) := by
  have hz := h.size
  have hl := h.lt
  have hk : keptB eqf d i = true := by unfold keptB; rw [he]; simp
  have e : keptL eqf d (i + 1) = keptL eqf d i ++ [d[i]!] := by rw [keptL_succ, hk]; simp
  refine ⟨by simpa using hz, ?_, by rw [e, List.length_append, ← h.len]; rfl, by omega, fun k hk => ?_⟩
  · rw [e, ← h.take, Array.toList_setIfInBounds, List.take_add_one, List.getElem?_set_self (by rw [Array.length_toList]; omega), List.take_set_of_le (Nat.le_refl _)]
    rfl
  · rw [getElem!_set_other _ _ _ _ (by omega), h.same k (by omega)]
/-- behind a compaction of the row -/
structure Cmpd (enc : α → Value) (eqf : α → α → Bool) (d : Array α) (blk off kk : Nat) (w0 W : World) : Prop where
  len : kk = (keptL eqf d d.size).length
  cell : ∀ j, j < kk → W.cell? ⟨blk, off + j, none⟩ = some (enc (keptL eqf d d.size)[j]!)
  heap : ∀ j, j ≠ blk → j < w0.heap.size → W.heap[j]? = w0.heap[j]?
  bel : ∀ (B : Nat) (w : World), Below B w w0 → B ≤ blk → B ≤ w0.heap.size → Below B w W
theorem cell_setCells (g j : Nat) : ∀ (vs : List Value) (o : Nat) (w : World), j < o → (w.setCells g o vs).cell? ⟨g, j, none⟩ = w.cell? ⟨g, j, none⟩
  | [], _, _, _ => rfl
  | v :: r, o, w, h => by
    rw [World.setCells, cell_setCells g j r (o + 1) _ (by omega), World.cell?_setCell_other _ _ _ _ (by intro e; simp only [Addr.mk.injEq] at e; omega)]
theorem take_get {dk : Array α} {kk : Nat} {l : List α} (h : dk.toList.take kk = l) (hk : kk ≤ dk.size) (j : Nat) (hj : j < kk) : dk[j]! = l[j]! := by
  rw [← h, getElem!_pos dk j (by omega), getElem!_pos _ j (by rw [List.length_take, Array.length_toList]; omega), List.getElem_take, Array.getElem_toList]
set_option maxHeartbeats 8000000 in
set_option maxRecDepth 1000000 in
theorem compact_any (enc : α → Value) (eqf : α → α → Bool) (g : Nat) (cb : Array Value) (eg : ∀ args w, (callFunc g args).run Tryd.prog w = .ok (.enter g args) w) (blk off L cap : Nat) (d : Array α) (w0 w : World) (hE : EqLays g cb enc eqf blk off d.size w0) (R : Row1 enc w0 blk off d) (hL : d.size = L) (S : SW enc w0 blk off d w) (h1 : 1 ≤ L) (hcap : L ≤ cap) (hsz : L < 1000000000) :
    Calls Tryd.prog 45 #[.slice (some ⟨blk, off, none⟩) L cap, .func (.func g) #[] cb] w fun e w' => ∃ kk, e = .returned (.slice (some ⟨blk, off, none⟩) kk cap) ∧ Cmpd enc eqf d blk off kk w0 w' := by
  have mixed : Tryd.prog.follows .mixedOrders = true := by kernel_rfl
  have hcl0 := R.hO.cells
  simp only [Value.cells] at hcl0
  have hst := R.hO.store Tryd.prog
  have HE : Aside _ := hE
  have S0 : Aside (SW enc w0 blk off d w) := S
  have l1 : d.size ≤ L := Nat.le_of_eq hL
  have l2 : L ≤ d.size := Nat.le_of_eq hL.symm
  have HL : Hid (d.size = L) := hL
  have HFULL : Hid (∀ W, SW enc w0 blk off d W → (∀ k, 1 ≤ k → k < L → eqf d[k]! d[k - 1]! = false) → Cmpd enc eqf d blk off L w0 W) := fun W hS hk => by
    have e : keptL eqf d d.size = d.toList := by rw [keptL_all eqf d d.size (Nat.le_refl _) (by rw [HL.out]; exact hk), ← Array.length_toList, List.take_length]
    refine ⟨by rw [e, Array.length_toList, HL.out], fun j hj => ?_, fun j h1 h2 => sw_heap hS j h1 h2, fun B w hb h1 h2 => sw_bel hS hb h1 h2⟩
    rw [hS.c1 R rfl j (by omega), e, getElem!_pos d j (by omega), getElem!_pos _ j (by rw [Array.length_toList]; omega), Array.getElem_toList]
  clear S hL hE
  go_enter Tryd.func45, Tryd.ntmps45
  by_cases hL2 : L < 2
  · have hz : (L : Int) < 2 := by omega
    have HF : Hid (Cmpd enc eqf d blk off L w0 w) := HFULL.out w S0.out (fun k a b => by omega)
    go_wp2
    go_ret
    exact ⟨L, rfl, HF.out⟩
  · have hz : ¬ (L : Int) < 2 := by omega
    go_wp2
    go_loopg [5] L (fun kx s5 wr => ∃ (k : Nat), s5 = .int .i64 k ∧ 1 ≤ k ∧ k ≤ L ∧ L - k ≤ kx ∧ Aside (SW enc w0 blk off d wr) ∧ Hid (∀ j, 1 ≤ j → j < k → eqf d[j]! d[j - 1]! = false))
    case atStart => exact ⟨1, rfl, by omega, by omega, by omega, S0, fun j h1 h2 => by omega⟩
    case round =>
      clear S0
      obtain ⟨k, rfl, hk1, hkL, hkx, S1, HA⟩ := hrel
      by_cases hlt : k < L
      · have hltz : (k : Int) < (L : Int) := by omega
        obtain ⟨kp, rfl⟩ : ∃ q, k = q + 1 := ⟨k - 1, by omega⟩
        have rk : IntKind.i64.wrap ((kp : Int) + 1 - 1) = (kp : Int) := by rw [IntKind.wrap_i64]; omega
        have hltz2 : (kp : Int) + 1 < (L : Int) := by omega
        cases hlv : eqf d[kp + 1]! d[kp]! with
        | false =>
          go_wp2_with fail
          obtain ⟨iNp, hiNp⟩ : ∃ q, q = kp + 1 := ⟨_, rfl⟩
          obtain ⟨jNp, hjNp⟩ : ∃ q, q = kp := ⟨_, rfl⟩
          have eap : ((kp : Int) + 1).toNat = iNp := by omega
          have pap : (0 : Int) ≤ (kp : Int) + 1 := by omega
          have bap : (kp : Int) + 1 < (L : Int) := by omega
          have rap : IntKind.i64.wrap ((kp : Int) + 1) = (kp : Int) + 1 := by rw [IntKind.wrap_i64]; omega
          have ecp : ((kp : Int)).toNat = jNp := by omega
          have pcp : (0 : Int) ≤ (kp : Int) := by omega
          have bcp : (kp : Int) < (L : Int) := by omega
          have rcp : IntKind.i64.wrap ((kp : Int)) = (kp : Int) := by rw [IntKind.wrap_i64]; omega
          obtain ⟨xp, hxp⟩ : ∃ x, x = d[kp + 1]! := ⟨_, rfl⟩
          obtain ⟨yp, hyp⟩ : ∃ x, x = d[kp]! := ⟨_, rfl⟩
          have lap := S1.out.cl R (by omega) (kp + 1) (by omega)
          have lbp := S1.out.cl R (by omega) (kp) (by omega)
          rw [← hxp, show off + (kp + 1) = off + iNp by omega] at lap
          rw [← hyp, show off + (kp) = off + jNp by omega] at lbp
          have hcp := swEq S1.out HE.out (by omega) xp yp
          rw [show eqf xp yp = false by rw [hxp, hyp]; exact hlv] at hcp
          clear hxp hyp hiNp hjNp
          go_quiet_grown (first | (go_at_fn g; refine Calls.grown_of (hcp _ _)))
          have S2 : Aside (SW enc w0 blk off d (grow (wr.drewN nq) osq)) := S1.out.grown nq osq
          clear lap lbp hcp S1
          generalize grow (wr.drewN nq) osq = wp at S2 ⊢
          clear nq osq
          clear eap ecp
          have rk2 : IntKind.i64.wrap ((kp : Int) + 1 + 1) = (kp : Int) + 1 + 1 := by rw [IntKind.wrap_i64]; omega
          go_wp2
          go_roundg (L - (kp + 1 + 1))
          case measure => omega
          case rel =>
            refine ⟨kp + 1 + 1, by go_num, by omega, by omega, Nat.le_refl _, S2, fun j h1 h2 => ?_⟩
            by_cases e : j = kp + 1
            · rw [e]; exact hlv
            · exact HA.out j h1 (by omega)
        | true =>
          go_wp2_with fail
          obtain ⟨iNp, hiNp⟩ : ∃ q, q = kp + 1 := ⟨_, rfl⟩
          obtain ⟨jNp, hjNp⟩ : ∃ q, q = kp := ⟨_, rfl⟩
          have eap : ((kp : Int) + 1).toNat = iNp := by omega
          have pap : (0 : Int) ≤ (kp : Int) + 1 := by omega
          have bap : (kp : Int) + 1 < (L : Int) := by omega
          have rap : IntKind.i64.wrap ((kp : Int) + 1) = (kp : Int) + 1 := by rw [IntKind.wrap_i64]; omega
          have ecp : ((kp : Int)).toNat = jNp := by omega
          have pcp : (0 : Int) ≤ (kp : Int) := by omega
          have bcp : (kp : Int) < (L : Int) := by omega
          have rcp : IntKind.i64.wrap ((kp : Int)) = (kp : Int) := by rw [IntKind.wrap_i64]; omega
          obtain ⟨xp, hxp⟩ : ∃ x, x = d[kp + 1]! := ⟨_, rfl⟩
          obtain ⟨yp, hyp⟩ : ∃ x, x = d[kp]! := ⟨_, rfl⟩
          have lap := S1.out.cl R (by omega) (kp + 1) (by omega)
          have lbp := S1.out.cl R (by omega) (kp) (by omega)
          rw [← hxp, show off + (kp + 1) = off + iNp by omega] at lap
          rw [← hyp, show off + (kp) = off + jNp by omega] at lbp
          have hcp := swEq S1.out HE.out (by omega) xp yp
          rw [show eqf xp yp = true by rw [hxp, hyp]; exact hlv] at hcp
          clear hxp hyp hiNp hjNp
          go_quiet_grown (first | (go_at_fn g; refine Calls.grown_of (hcp _ _)))
          have S2 : Aside (SW enc w0 blk off d (grow (wr.drewN nq) osq)) := S1.out.grown nq osq
          clear lap lbp hcp S1
          generalize grow (wr.drewN nq) osq = wp at S2 ⊢
          clear nq osq
          clear eap ecp
          obtain ⟨oK, hoK⟩ : ∃ q, q = off + (kp + 1) := ⟨_, rfl⟩
          obtain ⟨nK, hnK⟩ : ∃ q, q = L - (kp + 1) := ⟨_, rfl⟩
          obtain ⟨cK, hcK⟩ : ∃ q, q = cap - (kp + 1) := ⟨_, rfl⟩
          have hsh : ∀ w : World, (Instr.sliceAt 53 (.slice (some ⟨blk, off, none⟩) L cap) (some (.int .i64 ((kp : Int) + 1))) none none).run Tryd.prog w = .ok (.slice (some ⟨blk, oK, none⟩) nK cK) w := fun w => by
            have := slHi blk off L cap (kp + 1) (by omega) w
            rw [if_neg (by omega), ← hoK, ← hnK, ← hcK] at this
            exact this
          have o1 : oK ≤ off + (kp + 1) := Nat.le_of_eq hoK
          have o2 : off + (kp + 1) ≤ oK := Nat.le_of_eq hoK.symm
          have n1 : nK ≤ L - (kp + 1) := Nat.le_of_eq hnK
          have n2 : L - (kp + 1) ≤ nK := Nat.le_of_eq hnK.symm
          clear hoK hnK hcK
          have HC0 : Hid (Cpt eqf d (kp + 2) (kp + 1) d) := by
            have e1 : keptL eqf d (kp + 1) = d.toList.take (kp + 1) := keptL_all eqf d (kp + 1) (by omega) (fun j h1 h2 => HA.out j h1 h2)
            have e2 : keptL eqf d (kp + 2) = keptL eqf d (kp + 1) := by rw [keptL_succ]; simp [keptB, hlv]
            exact ⟨rfl, by rw [e2, e1], by rw [e2, e1, List.length_take, Array.length_toList]; omega, by omega, fun _ _ => rfl⟩
          clear hlv HA HFULL
          go_wp2_with fail
          go_loopg [5, 7] L (fun kx s5 s7 wr => ∃ (kk k2 : Nat) (dk : Array α), s5 = .int .i64 kk ∧ s7 = .int .i64 k2 ∧ 1 ≤ k2 ∧ k2 ≤ nK ∧ nK - k2 ≤ kx ∧ Aside (SW enc w0 blk off dk wr) ∧ Hid (Cpt eqf d (kp + 1 + k2) kk dk))
          case atStart => exact ⟨kp + 1, 1, d, by first | rfl | go_num, rfl, by omega, by omega, by omega, S2, HC0⟩
          case round =>
            clear S2 HC0 hsh
            obtain ⟨kk, k2, dk, rfl, rfl, hk21, hk22, hkx2, S3, HP⟩ := hrel
            have hdz : dk.size = d.size := HP.out.size
            have hkklt : kk < kp + 1 + k2 := HP.out.lt
            by_cases hlt2 : k2 < nK
            · have hltz3 : (k2 : Int) < (nK : Int) := by omega
              obtain ⟨kq, rfl⟩ : ∃ q, k2 = q + 1 := ⟨k2 - 1, by omega⟩
              have hltz4 : (kq : Int) + 1 < (nK : Int) := by omega
              have rq : IntKind.i64.wrap ((kq : Int) + 1 - 1) = (kq : Int) := by rw [IntKind.wrap_i64]; omega
              have rq2 : IntKind.i64.wrap ((kq : Int) + 1 + 1) = (kq : Int) + 1 + 1 := by rw [IntKind.wrap_i64]; omega
              have HS1 : Hid (dk[kp + 1 + (kq + 1)]! = d[kp + 1 + (kq + 1)]!) := HP.out.same _ (by omega)
              have HS2 : Hid (dk[kp + 1 + kq]! = d[kp + 1 + kq]!) := HP.out.same _ (by omega)
              cases hlw : eqf dk[kp + 1 + (kq + 1)]! dk[kp + 1 + kq]! with
              | true =>
                go_wp2_with fail
                obtain ⟨iNr, hiNr⟩ : ∃ q, q = kq + 1 := ⟨_, rfl⟩
                obtain ⟨jNr, hjNr⟩ : ∃ q, q = kq := ⟨_, rfl⟩
                have ear : ((kq : Int) + 1).toNat = iNr := by omega
                have par : (0 : Int) ≤ (kq : Int) + 1 := by omega
                have bar : (kq : Int) + 1 < (nK : Int) := by omega
                have rar : IntKind.i64.wrap ((kq : Int) + 1) = (kq : Int) + 1 := by rw [IntKind.wrap_i64]; omega
                have ecr : ((kq : Int)).toNat = jNr := by omega
                have pcr : (0 : Int) ≤ (kq : Int) := by omega
                have bcr : (kq : Int) < (nK : Int) := by omega
                have rcr : IntKind.i64.wrap ((kq : Int)) = (kq : Int) := by rw [IntKind.wrap_i64]; omega
                obtain ⟨xr, hxr⟩ : ∃ x, x = dk[kp + 1 + (kq + 1)]! := ⟨_, rfl⟩
                obtain ⟨yr, hyr⟩ : ∃ x, x = dk[kp + 1 + kq]! := ⟨_, rfl⟩
                have lar := S3.out.cl R (by omega) (kp + 1 + (kq + 1)) (by omega)
                have lbr := S3.out.cl R (by omega) (kp + 1 + kq) (by omega)
                rw [← hxr, show off + (kp + 1 + (kq + 1)) = oK + iNr by omega] at lar
                rw [← hyr, show off + (kp + 1 + kq) = oK + jNr by omega] at lbr
                have hcr := swEq S3.out HE.out (by omega) xr yr
                rw [show eqf xr yr = true by rw [hxr, hyr]; exact hlw] at hcr
                clear hxr hyr hiNr hjNr
                go_quiet_grown (first | (go_at_fn g; refine Calls.grown_of (hcr _ _)))
                have S4 : Aside (SW enc w0 blk off dk (grow (wr.drewN nq) osq)) := S3.out.grown nq osq
                clear lar lbr hcr S3
                generalize grow (wr.drewN nq) osq = wr at S4 ⊢
                clear nq osq
                clear ear ecr
                go_wp2
                go_roundg (nK - (kq + 1 + 1))
                case measure => omega
                case rel =>
                  refine ⟨kk, kq + 1 + 1, dk, rfl, by go_num, by omega, by omega, Nat.le_refl _, S4, ?_⟩
                  rw [HS1.out, HS2.out] at hlw
                  exact HP.out.skip (by omega) hlw
              | false =>
                go_wp2_with fail
                obtain ⟨iNr, hiNr⟩ : ∃ q, q = kq + 1 := ⟨_, rfl⟩
                obtain ⟨jNr, hjNr⟩ : ∃ q, q = kq := ⟨_, rfl⟩
                have ear : ((kq : Int) + 1).toNat = iNr := by omega
                have par : (0 : Int) ≤ (kq : Int) + 1 := by omega
                have bar : (kq : Int) + 1 < (nK : Int) := by omega
                have rar : IntKind.i64.wrap ((kq : Int) + 1) = (kq : Int) + 1 := by rw [IntKind.wrap_i64]; omega
                have ecr : ((kq : Int)).toNat = jNr := by omega
                have pcr : (0 : Int) ≤ (kq : Int) := by omega
                have bcr : (kq : Int) < (nK : Int) := by omega
                have rcr : IntKind.i64.wrap ((kq : Int)) = (kq : Int) := by rw [IntKind.wrap_i64]; omega
                obtain ⟨xr, hxr⟩ : ∃ x, x = dk[kp + 1 + (kq + 1)]! := ⟨_, rfl⟩
                obtain ⟨yr, hyr⟩ : ∃ x, x = dk[kp + 1 + kq]! := ⟨_, rfl⟩
                have lar := S3.out.cl R (by omega) (kp + 1 + (kq + 1)) (by omega)
                have lbr := S3.out.cl R (by omega) (kp + 1 + kq) (by omega)
                rw [← hxr, show off + (kp + 1 + (kq + 1)) = oK + iNr by omega] at lar
                rw [← hyr, show off + (kp + 1 + kq) = oK + jNr by omega] at lbr
                have hcr := swEq S3.out HE.out (by omega) xr yr
                rw [show eqf xr yr = false by rw [hxr, hyr]; exact hlw] at hcr
                clear hxr hyr hiNr hjNr
                go_quiet_grown (first | (go_at_fn g; refine Calls.grown_of (hcr _ _)))
                have S4 : Aside (SW enc w0 blk off dk (grow (wr.drewN nq) osq)) := S3.out.grown nq osq
                clear lar lbr hcr S3
                generalize grow (wr.drewN nq) osq = wr at S4 ⊢
                clear nq osq
                clear ear ecr
                obtain ⟨iN, hiN⟩ : ∃ q, q = kq + 1 := ⟨_, rfl⟩
                have ea : ((kq : Int) + 1).toNat = iN := by omega
                obtain ⟨u, hu⟩ : ∃ x, x = dk[kp + 1 + (kq + 1)]! := ⟨_, rfl⟩
                have c1 := S4.out.c1 R (by omega) (kp + 1 + (kq + 1)) (by omega)
                rw [← hu, show off + (kp + 1 + (kq + 1)) = oK + iN by omega] at c1
                have c2 := S4.out.c1 R (by omega) kk (by omega)
                have f2 := S4.out.f1 R (by omega) kk (by omega)
                have S5 : Aside (SW enc w0 blk off (dk.setIfInBounds kk u) (wr.setCell ⟨blk, off + kk, none⟩ (enc u))) := sw_set S4.out R.hblk kk u (by omega)
                have rkk : IntKind.i64.wrap ((kk : Int) + 1) = (kk : Int) + 1 := by rw [IntKind.wrap_i64]; omega
                have hkL : (kk : Int) < (L : Int) := by omega
                have hk0 : (0 : Int) ≤ (kk : Int) := by omega
                have ek : ((kk : Int)).toNat = kk := by omega
                have HU : Hid (u = dk[kp + 1 + (kq + 1)]!) := hu
                clear S4 hiN hu
                go_wp2_with fail
                clear c1 c2 f2 ea
                go_roundg (nK - (kq + 1 + 1))
                case measure => omega
                case rel =>
                  refine ⟨kk + 1, kq + 1 + 1, dk.setIfInBounds kk u, by go_num, by go_num, by omega, by omega, Nat.le_refl _, S5, ?_⟩
                  rw [HS1.out, HS2.out] at hlw
                  rw [HU.out, HS1.out]
                  exact HP.out.keep (by omega) hlw
            · have hltz3 : ¬ (k2 : Int) < (nK : Int) := by omega
              have ekk : kp + 1 + k2 = d.size := by omega
              have HP2 : Hid (Cpt eqf d d.size kk dk) := by have := HP.out; rw [ekk] at this; exact this
              clear HP
              obtain ⟨oF, hoF⟩ : ∃ q, q = off + kk := ⟨_, rfl⟩
              obtain ⟨nF, hnF⟩ : ∃ q, q = L - kk := ⟨_, rfl⟩
              obtain ⟨cF, hcF⟩ : ∃ q, q = cap - kk := ⟨_, rfl⟩
              have hsf : ∀ w : World, (Instr.sliceAt 53 (.slice (some ⟨blk, off, none⟩) L cap) (some (.int .i64 (kk : Int))) none none).run Tryd.prog w = .ok (.slice (some ⟨blk, oF, none⟩) nF cF) w := fun w => by
                have := slHi blk off L cap kk (by omega) w
                rw [if_neg (by omega), ← hoF, ← hnF, ← hcF] at this
                exact this
              have hsg := slLo blk off L cap kk (by omega)
              have hcl : ∀ ty, (Builtin.clear_ #[53] ty #[.slice (some ⟨blk, oF, none⟩) nF cF]).run Tryd.prog wr = .ok (.tuple #[]) (wr.setCells blk oF (List.replicate nF (.pointer none))) := fun ty =>
                Lib.run_clear_slice wr _ 25 ty (.pointer none) Tryd.underlying53 (fun w => by kernel_rfl) rfl rfl blk oF nF cF (by omega) (fun j hj => by rw [show oF + j = off + (kk + j) by omega, S3.out.c1 R (by omega) (kk + j) (by omega)]; rfl) (fun j hj => by rw [show oF + j = off + (kk + j) by omega]; exact S3.out.f1 R (by omega) (kk + j) (by omega))
              have HFI : Hid (Cmpd enc eqf d blk off kk w0 (wr.setCells blk oF (List.replicate nF (.pointer none)))) := by
                refine ⟨HP2.out.len, fun j hj => ?_, fun j h1 h2 => ?_, fun B w hb h1 h2 => Below.setCells _ h1 _ _ _ (sw_bel S3.out hb h1 h2)⟩
                · rw [cell_setCells _ _ _ _ _ (by omega), S3.out.c1 R (by omega) j (by omega), take_get HP2.out.take (by omega) j hj]
                · rw [At'.setCells _ _ wr (fun _ _ => rfl) j h1]
                  exact sw_heap S3.out j h1 h2
              clear S3 HP2 hoF hnF hcF
              go_wp2_with fail
              go_ret
              exact ⟨kk, rfl, HFI.out⟩
      · have hltz : ¬ (k : Int) < (L : Int) := by omega
        have e : k = L := by omega
        have HF : Hid (Cmpd enc eqf d blk off L w0 wr) := HFULL.out wr S1.out (by rw [← e]; exact HA.out)
        go_wp2
        go_ret
        exact ⟨L, rfl, HF.out⟩
end Go.Proofs.YtphmmnffgknkcaaDoor
/- Plain: leaves sorted by their indexes, the later ones ahead, the first of each index kept: the leaves as if put one behind the other. -/
namespace Go.Proofs.YtphmmnffgknkcaaDoor
open Go.Shelf Go.RowKit Go.Lib Go.Sort
set_option maxRecDepth 100000
variable {α : Type} (f : α → Nat × Lf)
/-- by rising indexes; of one index the later one ahead -/
def ordR (a b : α) : Prop := lessB (f a).2.1 (f b).2.1 = true ∨ ((f a).2.1 = (f b).2.1 ∧ (f b).1 < (f a).1)
def sameK (a b : α) : Bool := decide ((f a).2.1 = (f b).2.1)
def cmpF (a b : α) : Int := cmpB (f a).2.1 (f b).2.1
variable {f}
theorem ordR.trans {a b c : α} (h1 : ordR f a b) (h2 : ordR f b c) : ordR f a c := by
  rcases h1 with h1 | ⟨e1, h1⟩
  · rcases h2 with h2 | ⟨e2, h2⟩
    · exact Or.inl (lessB_trans _ _ _ h1 h2)
    · exact Or.inl (by rw [← e2]; exact h1)
  · rcases h2 with h2 | ⟨e2, h2⟩
    · exact Or.inl (by rw [e1]; exact h2)
    · exact Or.inr ⟨e1.trans e2, by omega⟩
theorem ltF_is (h32 : ∀ a, (f a).2.1.length = 32) (a b : α) : ltOf (cmpF f) a b = lessB (f a).2.1 (f b).2.1 := by
  unfold ltOf cmpF
  exact cmp_less _ _ (by rw [h32, h32])
theorem keep_ordR (h32 : ∀ a, (f a).2.1.length = 32) : Keep (ltOf (cmpF f)) (ordR f) :=
  ⟨fun _ _ _ => ordR.trans, fun a b h => Or.inl (by rw [← ltF_is h32]; exact h)⟩
theorem ordR.le {a b : α} (h : ordR f a b) : lessB (f b).2.1 (f a).2.1 = false := by
  rcases h with h | ⟨e, _⟩
  · exact less_asym h
  · rw [e]; exact lessB_self _
variable [Inhabited α]
/-- what stands as it was laid, the later ones ahead -/
theorem stood_ordR (h32 : ∀ a, (f a).2.1.length = 32) {n : Nat} {d : Array α} (h : ∀ i j, i < j → j < n → (f d[j]!).1 < (f d[i]!).1) : Stood (ltOf (cmpF f)) (ordR f) 0 n d := by
  intro i j _ hij hj hl
  rw [ltF_is h32] at hl
  by_cases e : (f d[i]!).2.1 = (f d[j]!).2.1
  · exact Or.inr ⟨e, h i j hij hj⟩
  · rcases less_total (h32 _) (h32 _) e with h1 | h1
    · exact Or.inl h1
    · rw [h1] at hl; cases hl
theorem mem_kept {eqf : α → α → Bool} {d : Array α} {n : Nat} {a : α} : a ∈ keptL eqf d n ↔ ∃ k, k < n ∧ keptB eqf d k = true ∧ d[k]! = a := by
  unfold keptL
  simp only [List.mem_map, List.mem_filter, List.mem_range]
  constructor
  · rintro ⟨k, ⟨h1, h2⟩, h3⟩; exact ⟨k, h1, h2, h3⟩
  · rintro ⟨k, h1, h2, h3⟩; exact ⟨k, ⟨h1, h2⟩, h3⟩
/-- of one index no later one -/
def Last (f : α → Nat × Lf) (d : Array α) (k : Nat) : Prop := ∀ j, j < d.size → (f d[j]!).2.1 = (f d[k]!).2.1 → (f d[j]!).1 ≤ (f d[k]!).1
theorem same_ahead (h32 : ∀ a, (f a).2.1.length = 32) {d : Array α} (h : Ris (ordR f) 0 d.size d) {j k : Nat} (hjk : j < k) (hk : k < d.size) (e : (f d[j]!).2.1 = (f d[k]!).2.1) : (f d[k]!).2.1 = (f d[k - 1]!).2.1 := by
  by_cases c : j = k - 1
  · rw [← c, e]
  · have h1 := (h j (k - 1) (Nat.zero_le _) (by omega) (by omega)).le
    have h2 := (h (k - 1) k (Nat.zero_le _) (by omega) hk).le
    by_cases e2 : (f d[k]!).2.1 = (f d[k - 1]!).2.1
    · exact e2
    · rcases less_total (h32 _) (h32 _) e2 with h3 | h3
      · rw [h3] at h2; cases h2
      · rw [e, h3] at h1; cases h1
theorem kept_last (h32 : ∀ a, (f a).2.1.length = 32) {d : Array α} (h : Ris (ordR f) 0 d.size d) {k : Nat} (hk : k < d.size) : keptB (sameK f) d k = true ↔ Last f d k := by
  unfold keptB
  constructor
  · intro hb j hj e
    rcases Nat.lt_trichotomy j k with c | c | c
    · have := same_ahead h32 h c hk e
      simp [sameK, this] at hb
      omega
    · rw [c]; exact Nat.le_refl _
    · rcases h k j (Nat.zero_le _) c hj with h1 | ⟨_, h1⟩
      · rw [← e, lessB_self] at h1; cases h1
      · omega
  · intro hl
    by_cases c : k = 0
    · simp [c]
    · have hne : (f d[k]!).2.1 ≠ (f d[k - 1]!).2.1 := fun e => by
        have h1 := hl (k - 1) (by omega) e.symm
        rcases h (k - 1) k (Nat.zero_le _) (by omega) hk with h2 | ⟨_, h2⟩
        · rw [e, lessB_self] at h2; cases h2
        · omega
      simp [sameK, hne]
theorem kept_up (h32 : ∀ a, (f a).2.1.length = 32) {d : Array α} (h : Ris (ordR f) 0 d.size d) : Up ((keptL (sameK f) d d.size).map fun a => (f a).2) := by
  unfold Up keptL
  rw [List.map_map, List.pairwise_map, List.pairwise_filter]
  have hr : (List.range d.size).Pairwise (· < ·) := List.pairwise_lt_range
  refine hr.imp_of_mem fun {i j} hi hj hij hki hkj => ?_
  have hj' := List.mem_range.1 hj
  rcases h i j (Nat.zero_le _) hij hj' with h1 | ⟨e, h1⟩
  · exact h1
  · have h2 := (kept_last h32 h hj').1 hkj i (by omega) e
    omega
/-- of leaves with rising blocks: those that stay -/
theorem mem_ofLb : ∀ (ps : List (Nat × Lf)), (ps.Pairwise fun p q => p.1 < q.1) → ∀ p : Lf, p ∈ ofL (ps.map (·.2)) ↔ ∃ g, (g, p) ∈ ps ∧ ∀ q ∈ ps, q.2.1 = p.1 → q.1 ≤ g := by
  intro ps
  induction hn : ps.length generalizing ps with
  | zero =>
    intro _ p
    have : ps = [] := List.length_eq_zero_iff.1 hn
    subst this
    simp [ofL]
  | succ n ih =>
    intro hp p
    obtain ⟨r, b, rfl⟩ : ∃ r b, ps = r ++ [b] := ⟨ps.dropLast, ps.getLast (by intro e; rw [e] at hn; simp at hn), (List.dropLast_concat_getLast _).symm⟩
    rw [List.pairwise_append] at hp
    obtain ⟨hp1, _, hp3⟩ := hp
    have hr := ih r (by rw [List.length_append] at hn; simpa using hn) hp1
    have e : ofL ((r ++ [b]).map (·.2)) = putL (ofL (r.map (·.2))) b.2.1 b.2.2 := by
      unfold ofL
      rw [List.map_append, List.foldl_append]
      rfl
    rw [e, mem_putL, hr]
    constructor
    · rintro (h | ⟨h1, g, h2, h3⟩)
      · refine ⟨b.1, by rw [h]; simp, fun q hq _ => ?_⟩
        rcases List.mem_append.1 hq with hq | hq
        · exact Nat.le_of_lt (hp3 q hq b (by simp))
        · rw [List.mem_singleton] at hq; rw [hq]; exact Nat.le_refl _
      · refine ⟨g, List.mem_append_left _ h2, fun q hq e => ?_⟩
        rcases List.mem_append.1 hq with hq | hq
        · exact h3 q hq e
        · rw [List.mem_singleton] at hq; rw [hq] at e; exact absurd e.symm h1
    · rintro ⟨g, h1, h2⟩
      rcases List.mem_append.1 h1 with h1 | h1
      · by_cases c : p.1 = b.2.1
        · have h3 := h2 b (by simp) c.symm
          have h4 := hp3 (g, p) h1 b (by simp)
          simp only at h4
          omega
        · exact Or.inr ⟨c, g, h1, fun q hq => h2 q (List.mem_append_left _ hq)⟩
      · rw [List.mem_singleton] at h1
        exact Or.inl (by rw [← h1])
/-- rising's leaves are those of a tree to which they were put one behind the other -/
theorem rising_is (h32 : ∀ a, (f a).2.1.length = 32) {d : Array α} (h : Ris (ordR f) 0 d.size d) {ps : List (Nat × Lf)} (hp : ps.Pairwise fun p q => p.1 < q.1) (hok : okLf (ps.map (·.2))) (hm : ∀ q, q ∈ ps ↔ ∃ k, k < d.size ∧ f d[k]! = q) : (keptL (sameK f) d d.size).map (fun a => (f a).2) = ofL (ps.map (·.2)) := by
  refine up_ext (kept_up h32 h) (ofL_good _ hok).2 fun p => ?_
  rw [mem_ofLb ps hp]
  simp only [List.mem_map, mem_kept]
  constructor
  · rintro ⟨a, ⟨k, hk, hb, rfl⟩, rfl⟩
    refine ⟨(f d[k]!).1, (hm _).2 ⟨k, hk, rfl⟩, fun q hq e => ?_⟩
    obtain ⟨j, hj, rfl⟩ := (hm q).1 hq
    exact (kept_last h32 h hk).1 hb j hj e
  · rintro ⟨g, h1, h2⟩
    obtain ⟨k, hk, e⟩ := (hm _).1 h1
    refine ⟨d[k]!, ⟨k, hk, (kept_last h32 h hk).2 fun j hj ej => ?_, rfl⟩, by rw [e]⟩
    rw [e] at ej ⊢
    exact h2 _ ((hm _).2 ⟨j, hj, rfl⟩) ej
end Go.Proofs.YtphmmnffgknkcaaDoor

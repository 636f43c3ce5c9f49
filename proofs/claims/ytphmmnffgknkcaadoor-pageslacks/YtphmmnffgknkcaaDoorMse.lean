/- Texts that the proof leans on, one behind the other: The walks of the reader's page and linked (layer 17). What the reader does with a piece that reads back, by its form (layer 17). The walk of pages.appendPages (layer 17). .. -/
import Derived.Test.YtphmmnffgknkcaaDoorMsd
import Derived.Deep.RegionHeld
import Derived.RangeFuncNested
import Derived.RangeFuncFrom
import Derived.OrdersIn
import Derived.TacticsIn
import Derived.Test.YtphmmnffgknkcaaDoorMsb
import Derived.Test.YtphmmnffgknkcaaDoorMsa
/- The walks of the reader's page and linked (layer 17). -/
namespace Go.Proofs.YtphmmnffgknkcaaDoor
open Go.RowKit
set_option maxRecDepth 100000
theorem wpSeq_cellI {ops : Array Oper} {Q : Exit → Act → World → Prop} {rest : List Oper} {o : Oper} {a : Act} {w : World} (x y : Operand) (g k : Nat) (cs : List Value) (n : Int) (tb : TypeId) (hk : k < cs.length) (hb : Blk w g cs tb) (ho : o.op = .store 3 x y) (hx : a.eval x = .pointer (some ⟨g, k, none⟩)) (hy : a.eval y = .int .i64 n) (hw : Region.wanted o (yielded ops a.tmps) = true)
    (h : ∀ w', Blk w' g (cs.set k (.int .i64 n)) tb → Only g w w' → wpList Tryd.prog ops Q rest (a.put o.dst undef) w') : wpList Tryd.prog ops Q (o :: rest) a w := by
  have hc : w.cell? ⟨g, k, none⟩ = some cs[k] := by rw [hb.cell, List.getElem?_eq_getElem hk]
  have hf : w.frozen? ⟨g, k, none⟩ = false := hb.frozen k
  have he : (execOp a.eval o).run Tryd.prog w = .ok .skip (w.setCell ⟨g, k, none⟩ (.int .i64 n)) := by
    clear h hw
    generalize a.eval = f at hx hy ⊢
    unfold execOp
    rw [ho]
    simp [go_sem, hx, hy, hc, hf]
  unfold wpList
  simp only [hw, if_true]
  left
  unfold Oper.wp
  rw [he, Oper.upon_skip]
  exact h _ (hb.set k _) (Only.setCell (Only.refl g w) k _)
theorem RdG.belowB {w0 : World} {B gr gm k : Nat} {pv : Value} {ps la lv : List By} {ix iv ix' iv' : Value} {w w' : World} (h : RdG gr ix iv w ix' iv' w') (hi : RrI w0 B gr gm pv ps k ix iv la lv w) : Below B w w' :=
  h.mt.below hi.ge fun j e => e.elim (fun e => e ▸ hi.gg) fun e => e.elim (fun e => (hi.oi.lt j e).1) fun e => (hi.ov.lt j e).1
set_option maxHeartbeats 4000000 in
theorem pgPage_none (w0 : World) (B gr gm : Nat) (ap : Option Addr) (np cp : Nat) (ps : List By) (k : Nat) (ix iv : Value) (la lv : List By) (x way : By) (d : Nat) (w : World) (hI : RrI w0 B gr gm (.slice ap np cp) ps k ix iv la lv w) (hx : x.length = 32) (hp : plK ps ps.length x = none) :
    Calls Tryd.prog 31 #[.pointer (some ⟨gr, 0, none⟩), .agg (cb x).toArray, .agg (cb way).toArray, .int .i64 (d : Int)] w fun e w' => e = .returned (.int .i64 7) ∧ Below w.heap.size w w' := by
  have HI : Hid (RrI w0 B gr gm (.slice ap np cp) ps k ix iv la lv w) := hI
  have HX : Hid (x.length = 32) := hx
  have HPL : Hid (plK ps ps.length x = none) := hp
  clear hI hx hp
  go_enter Tryd.func31, Tryd.ntmps31
  go_upto_region 1 with (first
    | (with_reducible refine wpSeq_boxD (.tmp 1) x ?_ ?_ ?_ ?_
       · rfl
       · rfl
       · rfl
       intro g5 w1 nn
       have HB1 : Hid (Below w.heap.size w w1) := nn.below
       have HG5 : Hid (Blk w1 g5 (cb x) 28) := nn.blk
       clear nn)
    | (with_reducible refine wpSeq_boxD (.tmp 2) way ?_ ?_ ?_ ?_
       · rfl
       · rfl
       · rfl
       intro g6 w2 nn
       have HB2 : Hid (Below w.heap.size w w2) := HB1.out.trans (nn.below.mono HB1.out.size)
       have HG6 : Hid (Blk w2 g6 (cb way) 28) := nn.blk
       replace HG5 : Hid (Blk w2 g5 (cb x) 28) := HG5.out.below nn.below HG5.out.lt
       clear nn))
  have HI2 : Hid (RrI w0 B gr gm (.slice ap np cp) ps k ix iv la lv w2.drew) := (HI.out.next HB2.out).drew
  have HBD : Hid (Below w.heap.size w w2.drew) := HB2.out.drew
  have HG5d : Hid (Blk w2.drew g5 (cb x) 28) := HG5.out
  have HG6d : Hid (Blk w2.drew g6 (cb way) 28) := HG6.out
  refine wp_region_held_drew (S := fun W => W = w2.drew) (by kernel_rfl) rfl ?_
  intro hS
  obtain ⟨y, HY⟩ : ∃ z, z = w2.drew := ⟨_, rfl⟩
  rw [← HY] at HI2 HBD HG5d HG6d hS ⊢
  have hlk := HI2.out.mp.look HX.out
  have hc1 : y.cell? ⟨gr, 1, none⟩ = some (.map (some gm)) := HI2.out.blk.cell 1
  rw [HPL.out] at hlk
  have hlk : (Instr.lookup 63 (.map (some gm)) (.agg (cb x).toArray) true).run Tryd.prog y = .ok (.tuple #[.int .i64 0, .bool false]) y := hlk
  refine wpAnyH_take (i := 0) (v := .pointer (some ⟨gr, 0, none⟩)) rfl (by kernel_rfl) (by kernel_rfl) (by kernel_rfl) (fun _ _ _ h => h) (Or.inl ⟨by rfl, fun wx hx => by simp [go_sem]⟩) hS ?_
  simp only [Act.put, List.getElem_toArray, List.getElem_cons_zero, List.setIfInBounds_toArray, List.set_cons_zero, List.set_cons_succ]
  refine wpAnyH_take (i := 1) (v := .pointer (some ⟨gr, 0, none⟩)) rfl (by kernel_rfl) (by kernel_rfl) (by kernel_rfl) (fun _ _ _ h => h) (Or.inl ⟨by rfl, fun wx hx => by simp [go_sem]⟩) hS ?_
  simp only [Act.put, List.getElem_toArray, List.getElem_cons_succ, List.getElem_cons_zero, List.setIfInBounds_toArray, List.set_cons_zero, List.set_cons_succ]
  refine wpAnyH_take (i := 2) (v := .pointer (some ⟨gr, 1, none⟩)) rfl (by kernel_rfl) (by kernel_rfl) (by kernel_rfl) (fun _ _ _ h => h) (Or.inl ⟨by rfl, fun wx hx => by simp [go_sem]⟩) hS ?_
  simp only [Act.put, List.getElem_toArray, List.getElem_cons_succ, List.getElem_cons_zero, List.setIfInBounds_toArray, List.set_cons_zero, List.set_cons_succ]
  refine wpAnyH_take (i := 3) (v := .map (some gm)) rfl (by kernel_rfl) (by kernel_rfl) (by kernel_rfl) (fun _ _ _ h => h) (Or.inl ⟨by rfl, fun wx hx => by (rw [hx]; simp [go_sem, hc1])⟩) hS ?_
  simp only [Act.put, List.getElem_toArray, List.getElem_cons_succ, List.getElem_cons_zero, List.setIfInBounds_toArray, List.set_cons_zero, List.set_cons_succ]
  refine wpAnyH_take (i := 4) (v := .agg (cb x).toArray) rfl (by kernel_rfl) (by kernel_rfl) (by kernel_rfl) (fun _ _ _ h => h) (Or.inl ⟨by rfl, fun wx hx => by (rw [hx]; exact loadDigest _ g5 x HX.out HG5d.out rfl rfl)⟩) hS ?_
  simp only [Act.put, List.getElem_toArray, List.getElem_cons_succ, List.getElem_cons_zero, List.setIfInBounds_toArray, List.set_cons_zero, List.set_cons_succ]
  refine wpAnyH_take (i := 5) (v := .tuple #[.int .i64 0, .bool false]) rfl (by kernel_rfl) (by kernel_rfl) (by kernel_rfl) (fun _ _ _ h => h) (Or.inl ⟨by rfl, fun wx hx => by (rw [hx]; simp [execOp, Act.eval, hlk])⟩) hS ?_
  simp only [Act.put, List.getElem_toArray, List.getElem_cons_succ, List.getElem_cons_zero, List.setIfInBounds_toArray, List.set_cons_zero, List.set_cons_succ]
  refine wpAnyH_take (i := 6) (v := .tuple #[.int .i64 0, .bool false]) rfl (by kernel_rfl) (by kernel_rfl) (by kernel_rfl) (fun _ _ _ h => h) (Or.inl ⟨by rfl, fun wx hx => by simp [go_sem]⟩) hS ?_
  simp only [Act.put, List.getElem_toArray, List.getElem_cons_succ, List.getElem_cons_zero, List.setIfInBounds_toArray, List.set_cons_zero, List.set_cons_succ]
  refine wpAnyH_take (i := 7) (v := .int .i64 0) rfl (by kernel_rfl) (by kernel_rfl) (by kernel_rfl) (fun _ _ _ h => h) (Or.inl ⟨by rfl, fun wx hx => by simp [go_sem]⟩) hS ?_
  simp only [Act.put, List.getElem_toArray, List.getElem_cons_succ, List.getElem_cons_zero, List.setIfInBounds_toArray, List.set_cons_zero, List.set_cons_succ]
  refine wpAnyH_take (i := 8) (v := .bool false) rfl (by kernel_rfl) (by kernel_rfl) (by kernel_rfl) (fun _ _ _ h => h) (Or.inl ⟨by rfl, fun wx hx => by simp [go_sem]⟩) hS ?_
  simp only [Act.put, List.getElem_toArray, List.getElem_cons_succ, List.getElem_cons_zero, List.setIfInBounds_toArray, List.set_cons_zero, List.set_cons_succ]
  refine wpAnyH_take (i := 9) (v := .int .i64 0) rfl (by kernel_rfl) (by kernel_rfl) (by kernel_rfl) (fun _ _ _ h => h) (Or.inl ⟨by rfl, fun wx hx => by simp [go_sem]⟩) hS ?_
  simp only [Act.put, List.getElem_toArray, List.getElem_cons_succ, List.getElem_cons_zero, List.setIfInBounds_toArray, List.set_cons_zero, List.set_cons_succ]
  refine wpAnyH_take (i := 10) (v := .bool false) rfl (by kernel_rfl) (by kernel_rfl) (by kernel_rfl) (fun _ _ _ h => h) (Or.inl ⟨by rfl, fun wx hx => by simp [go_sem]⟩) hS ?_
  simp only [Act.put, List.getElem_toArray, List.getElem_cons_succ, List.getElem_cons_zero, List.setIfInBounds_toArray, List.set_cons_zero, List.set_cons_succ]
  refine wpAnyH_done (by kernel_rfl) ?_ _
  clear hlk hc1
  clear HI2 HG5d HG6d hS HY
  go_wp2_with fail
  go_ret
  exact ⟨rfl, HBD.out⟩
set_option maxHeartbeats 8000000 in
theorem pgPage_ok (w0 : World) (B gr gm : Nat) (ap : Option Addr) (np cp : Nat) (ps : List By) (k : Nat) (ix iv : Value) (la lv : List By) (x way : By) (d : Nat) (w : World) (hI : RrI w0 B gr gm (.slice ap np cp) ps k ix iv la lv w) (hx : x.length = 32) (hway : way.length = 32) (i b off : Nat) (vj : Value) (Q : World → Prop) (hp : plK ps ps.length x = some i) (hi : i < np) (hap : ap = some ⟨b, off, none⟩) (hrow : w.cell? ⟨b, off + i, none⟩ = some vj) (hvj : ∃ ad n c, vj = .slice ad n c)
    (hC : ∀ W, Below w.heap.size w W → Calls Tryd.prog 56 #[.pointer (some ⟨gr, 0, none⟩), vj, .agg (cb way).toArray, .int .i64 (d : Int)] W (Two fun a b w' => b = .int .i64 0 ∧ (∃ ad c, a = .slice ad 0 c) ∧ Q w')) :
    Calls Tryd.prog 31 #[.pointer (some ⟨gr, 0, none⟩), .agg (cb x).toArray, .agg (cb way).toArray, .int .i64 (d : Int)] w fun e w' => e = .returned (.int .i64 0) ∧ Q w' := by
  have HI : Hid (RrI w0 B gr gm (.slice ap np cp) ps k ix iv la lv w) := hI
  have HX : Hid (x.length = 32) := hx
  have HYW : Hid (way.length = 32) := hway
  have HPL : Hid (plK ps ps.length x = some i) := hp
  subst hap
  obtain ⟨aj, nj, cj, hvj⟩ := hvj
  subst hvj
  have HROW : Hid (∀ W, Below w.heap.size w W → W.cell? ⟨b, off + i, none⟩ = some (.slice aj nj cj)) := fun W hW => by rw [hW.cell (p := ⟨b, off + i, none⟩) (block_lt_of_cell hrow)]; exact hrow
  have HC : Hid (∀ W, Below w.heap.size w W → Calls Tryd.prog 56 #[.pointer (some ⟨gr, 0, none⟩), .slice aj nj cj, .agg (cb way).toArray, .int .i64 (d : Int)] W (Two fun a b w' => b = .int .i64 0 ∧ (∃ ad c, a = .slice ad 0 c) ∧ Q w')) := hC
  have i0 : (0 : Int) ≤ (i : Int) := by omega
  have i1 : (i : Int) < (np : Int) := by omega
  clear hI hx hp hrow hC hway
  go_enter Tryd.func31, Tryd.ntmps31
  go_upto_region 1 with (first
    | (with_reducible refine wpSeq_boxD (.tmp 1) x ?_ ?_ ?_ ?_
       · rfl
       · rfl
       · rfl
       intro g5 w1 nn
       have HB1 : Hid (Below w.heap.size w w1) := nn.below
       have HG5 : Hid (Blk w1 g5 (cb x) 28) := nn.blk
       clear nn)
    | (with_reducible refine wpSeq_boxD (.tmp 2) way ?_ ?_ ?_ ?_
       · rfl
       · rfl
       · rfl
       intro g6 w2 nn
       have HB2 : Hid (Below w.heap.size w w2) := HB1.out.trans (nn.below.mono HB1.out.size)
       have HG6 : Hid (Blk w2 g6 (cb way) 28) := nn.blk
       replace HG5 : Hid (Blk w2 g5 (cb x) 28) := HG5.out.below nn.below HG5.out.lt
       clear nn))
  have HI2 : Hid (RrI w0 B gr gm (.slice (some ⟨b, off, none⟩) np cp) ps k ix iv la lv w2.drew) := (HI.out.next HB2.out).drew
  have HBD : Hid (Below w.heap.size w w2.drew) := HB2.out.drew
  have HG5d : Hid (Blk w2.drew g5 (cb x) 28) := HG5.out
  have HG6d : Hid (Blk w2.drew g6 (cb way) 28) := HG6.out
  refine wp_region_held_drew (S := fun W => W = w2.drew) (by kernel_rfl) rfl ?_
  intro hS
  obtain ⟨y, HY⟩ : ∃ z, z = w2.drew := ⟨_, rfl⟩
  rw [← HY] at HI2 HBD HG5d HG6d hS ⊢
  have hlk := HI2.out.mp.look HX.out
  have hc1 : y.cell? ⟨gr, 1, none⟩ = some (.map (some gm)) := HI2.out.blk.cell 1
  rw [HPL.out] at hlk
  have hlk : (Instr.lookup 63 (.map (some gm)) (.agg (cb x).toArray) true).run Tryd.prog y = .ok (.tuple #[.int .i64 (i : Int), .bool true]) y := hlk
  refine wpAnyH_take (i := 0) (v := .pointer (some ⟨gr, 0, none⟩)) rfl (by kernel_rfl) (by kernel_rfl) (by kernel_rfl) (fun _ _ _ h => h) (Or.inl ⟨by rfl, fun wx hx => by simp [go_sem]⟩) hS ?_
  simp only [Act.put, List.getElem_toArray, List.getElem_cons_zero, List.setIfInBounds_toArray, List.set_cons_zero, List.set_cons_succ]
  refine wpAnyH_take (i := 1) (v := .pointer (some ⟨gr, 0, none⟩)) rfl (by kernel_rfl) (by kernel_rfl) (by kernel_rfl) (fun _ _ _ h => h) (Or.inl ⟨by rfl, fun wx hx => by simp [go_sem]⟩) hS ?_
  simp only [Act.put, List.getElem_toArray, List.getElem_cons_succ, List.getElem_cons_zero, List.setIfInBounds_toArray, List.set_cons_zero, List.set_cons_succ]
  refine wpAnyH_take (i := 2) (v := .pointer (some ⟨gr, 1, none⟩)) rfl (by kernel_rfl) (by kernel_rfl) (by kernel_rfl) (fun _ _ _ h => h) (Or.inl ⟨by rfl, fun wx hx => by simp [go_sem]⟩) hS ?_
  simp only [Act.put, List.getElem_toArray, List.getElem_cons_succ, List.getElem_cons_zero, List.setIfInBounds_toArray, List.set_cons_zero, List.set_cons_succ]
  refine wpAnyH_take (i := 3) (v := .map (some gm)) rfl (by kernel_rfl) (by kernel_rfl) (by kernel_rfl) (fun _ _ _ h => h) (Or.inl ⟨by rfl, fun wx hx => by (rw [hx]; simp [go_sem, hc1])⟩) hS ?_
  simp only [Act.put, List.getElem_toArray, List.getElem_cons_succ, List.getElem_cons_zero, List.setIfInBounds_toArray, List.set_cons_zero, List.set_cons_succ]
  refine wpAnyH_take (i := 4) (v := .agg (cb x).toArray) rfl (by kernel_rfl) (by kernel_rfl) (by kernel_rfl) (fun _ _ _ h => h) (Or.inl ⟨by rfl, fun wx hx => by (rw [hx]; exact loadDigest _ g5 x HX.out HG5d.out rfl rfl)⟩) hS ?_
  simp only [Act.put, List.getElem_toArray, List.getElem_cons_succ, List.getElem_cons_zero, List.setIfInBounds_toArray, List.set_cons_zero, List.set_cons_succ]
  refine wpAnyH_take (i := 5) (v := .tuple #[.int .i64 (i : Int), .bool true]) rfl (by kernel_rfl) (by kernel_rfl) (by kernel_rfl) (fun _ _ _ h => h) (Or.inl ⟨by rfl, fun wx hx => by (rw [hx]; simp [execOp, Act.eval, hlk])⟩) hS ?_
  simp only [Act.put, List.getElem_toArray, List.getElem_cons_succ, List.getElem_cons_zero, List.setIfInBounds_toArray, List.set_cons_zero, List.set_cons_succ]
  refine wpAnyH_take (i := 6) (v := .tuple #[.int .i64 (i : Int), .bool true]) rfl (by kernel_rfl) (by kernel_rfl) (by kernel_rfl) (fun _ _ _ h => h) (Or.inl ⟨by rfl, fun wx hx => by simp [go_sem]⟩) hS ?_
  simp only [Act.put, List.getElem_toArray, List.getElem_cons_succ, List.getElem_cons_zero, List.setIfInBounds_toArray, List.set_cons_zero, List.set_cons_succ]
  refine wpAnyH_take (i := 7) (v := .int .i64 (i : Int)) rfl (by kernel_rfl) (by kernel_rfl) (by kernel_rfl) (fun _ _ _ h => h) (Or.inl ⟨by rfl, fun wx hx => by simp [go_sem]⟩) hS ?_
  simp only [Act.put, List.getElem_toArray, List.getElem_cons_succ, List.getElem_cons_zero, List.setIfInBounds_toArray, List.set_cons_zero, List.set_cons_succ]
  refine wpAnyH_take (i := 8) (v := .bool true) rfl (by kernel_rfl) (by kernel_rfl) (by kernel_rfl) (fun _ _ _ h => h) (Or.inl ⟨by rfl, fun wx hx => by simp [go_sem]⟩) hS ?_
  simp only [Act.put, List.getElem_toArray, List.getElem_cons_succ, List.getElem_cons_zero, List.setIfInBounds_toArray, List.set_cons_zero, List.set_cons_succ]
  refine wpAnyH_take (i := 9) (v := .int .i64 (i : Int)) rfl (by kernel_rfl) (by kernel_rfl) (by kernel_rfl) (fun _ _ _ h => h) (Or.inl ⟨by rfl, fun wx hx => by simp [go_sem]⟩) hS ?_
  simp only [Act.put, List.getElem_toArray, List.getElem_cons_succ, List.getElem_cons_zero, List.setIfInBounds_toArray, List.set_cons_zero, List.set_cons_succ]
  refine wpAnyH_take (i := 10) (v := .bool true) rfl (by kernel_rfl) (by kernel_rfl) (by kernel_rfl) (fun _ _ _ h => h) (Or.inl ⟨by rfl, fun wx hx => by simp [go_sem]⟩) hS ?_
  simp only [Act.put, List.getElem_toArray, List.getElem_cons_succ, List.getElem_cons_zero, List.setIfInBounds_toArray, List.set_cons_zero, List.set_cons_succ]
  refine wpAnyH_done (by kernel_rfl) ?_ _
  clear hlk hc1
  have HI3 : Hid (RrI w0 B gr gm (.slice (some ⟨b, off, none⟩) np cp) ps k ix iv la lv y.drew) := HI2.out.drew
  have HB3 : Hid (Below w.heap.size w y.drew) := HBD.out.drew
  have HG6e : Hid (Blk y.drew g6 (cb way) 28) := HG6d.out
  have hc0 : y.drew.cell? ⟨gr, 0, none⟩ = some (.slice (some ⟨b, off, none⟩) np cp) := HI3.out.blk.cell 0
  have hcr := HROW.out _ HB3.out
  clear HI2 HG5d HG6d hS HY HI HBD
  go_wp2_with fail
  refine wp_region_held_drew (S := fun _ => True) (by kernel_rfl) trivial ?_
  intro hS
  refine wpAnyH_take (i := 0) (v := .pointer (some ⟨gr, 0, none⟩)) rfl (by kernel_rfl) (by kernel_rfl) (by kernel_rfl) (fun _ _ _ h => h) (Or.inl ⟨by rfl, fun wx hx => by simp [go_sem]⟩) hS ?_
  simp only [Act.put, List.getElem_toArray, List.getElem_cons_zero, List.setIfInBounds_toArray, List.set_cons_zero, List.set_cons_succ]
  refine wpAnyH_take (i := 1) (v := .pointer (some ⟨gr, 0, none⟩)) rfl (by kernel_rfl) (by kernel_rfl) (by kernel_rfl) (fun _ _ _ h => h) (Or.inl ⟨by rfl, fun wx hx => by simp [go_sem]⟩) hS ?_
  simp only [Act.put, List.getElem_toArray, List.getElem_cons_succ, List.getElem_cons_zero, List.setIfInBounds_toArray, List.set_cons_zero, List.set_cons_succ]
  refine wpAnyH_take (i := 2) (v := .pointer (some ⟨gr, 0, none⟩)) rfl (by kernel_rfl) (by kernel_rfl) (by kernel_rfl) (fun _ _ _ h => h) (Or.inl ⟨by rfl, fun wx hx => by simp [go_sem]⟩) hS ?_
  simp only [Act.put, List.getElem_toArray, List.getElem_cons_succ, List.getElem_cons_zero, List.setIfInBounds_toArray, List.set_cons_zero, List.set_cons_succ]
  refine wpAnyH_take (i := 3) (v := .pointer (some ⟨gr, 0, none⟩)) rfl (by kernel_rfl) (by kernel_rfl) (by kernel_rfl) (fun _ _ _ h => h) (Or.inl ⟨by rfl, fun wx hx => by simp [go_sem]⟩) hS ?_
  simp only [Act.put, List.getElem_toArray, List.getElem_cons_succ, List.getElem_cons_zero, List.setIfInBounds_toArray, List.set_cons_zero, List.set_cons_succ]
  refine wpAnyH_take (i := 5) (v := .int .i64 (i : Int)) rfl (by kernel_rfl) (by kernel_rfl) (by kernel_rfl) (fun _ _ _ h => h) (Or.inl ⟨by rfl, fun wx hx => by simp [go_sem]⟩) hS ?_
  simp only [Act.put, List.getElem_toArray, List.getElem_cons_succ, List.getElem_cons_zero, List.setIfInBounds_toArray, List.set_cons_zero, List.set_cons_succ]
  refine wpAnyH_take (i := 9) (v := .int .i64 (d : Int)) rfl (by kernel_rfl) (by kernel_rfl) (by kernel_rfl) (fun _ _ _ h => h) (Or.inl ⟨by rfl, fun wx hx => by simp [go_sem]⟩) hS ?_
  simp only [Act.put, List.getElem_toArray, List.getElem_cons_succ, List.getElem_cons_zero, List.setIfInBounds_toArray, List.set_cons_zero, List.set_cons_succ]
  have hld := fun (a : Act) (o : Oper) (h1 : o.op = .load 28 (.tmp 6)) (h2 : a.eval (.tmp 6) = .pointer (some ⟨g6, 0, none⟩)) => loadDigest (w := y.drew) (.tmp 6) g6 way HYW.out HG6e.out h1 h2
  refine wpAnyH_pair 4 8 (by kernel_rfl) ?_ ?_
  · skip
    refine wpOp_vl 4 (.slice (some ⟨b, off, none⟩) np cp) y.drew rfl (by rfl) (by simp [go_sem, hc0]) ⟨trivial, ?_⟩
    simp only [Act.put, List.getElem_toArray, List.getElem_cons_succ, List.getElem_cons_zero, List.setIfInBounds_toArray, List.set_cons_zero, List.set_cons_succ]
    refine wpAnyH_take (i := 6) (v := .pointer (some ⟨b, off + i, none⟩)) rfl (by kernel_rfl) (by kernel_rfl) (by kernel_rfl) (fun _ _ _ h => h) (Or.inl ⟨by rfl, fun wx hx => by simp [go_sem, i0, i1]⟩) hS ?_
    simp only [Act.put, List.getElem_toArray, List.getElem_cons_succ, List.getElem_cons_zero, List.setIfInBounds_toArray, List.set_cons_zero, List.set_cons_succ]
    refine wpAnyH_comm 7 8 (.slice aj nj cj) (.agg (cb way).toArray) y.drew (by kernel_rfl) rfl rfl (by rfl) (by rfl) (by rfl) (by rfl) (by simp [go_sem, hcr]) (hld _ _ rfl rfl) (by simp [go_sem, hcr]) (hld _ _ rfl rfl) (by kernel_rfl) (by kernel_rfl) (by rfl) (by rfl) trivial trivial ?_
    simp only [Act.put, List.getElem_toArray, List.getElem_cons_succ, List.getElem_cons_zero, List.setIfInBounds_toArray, List.set_cons_zero, List.set_cons_succ]
    refine wpAnyH_enter 10 (by kernel_rfl) rfl (by rfl) (f := 56) (args := #[.pointer (some ⟨gr, 0, none⟩), .slice aj nj cj, .agg (cb way).toArray, .int .i64 (d : Int)]) (by simp [go_sem]) (HC.out _ HB3.out) ?_
    rintro e wz ⟨va, ve, rfl, rfl, ⟨ad, c, rfl⟩, hq⟩
    refine ⟨_, rfl, trivial, ?_⟩
    have HQ : Hid (Q wz) := hq
    clear hq hld hc0 hcr HI3 HG6e
    simp only [Act.put, List.getElem_toArray, List.getElem_cons_succ, List.getElem_cons_zero, List.setIfInBounds_toArray, List.set_cons_zero, List.set_cons_succ]
    refine wpAnyH_take (i := 11) (v := .tuple #[(.slice ad 0 c), .int .i64 0]) rfl (by kernel_rfl) (by kernel_rfl) (by kernel_rfl) (fun _ _ _ h => h) (Or.inl ⟨by rfl, fun wx hx => by simp [go_sem]⟩) hS ?_
    simp only [Act.put, List.getElem_toArray, List.getElem_cons_succ, List.getElem_cons_zero, List.setIfInBounds_toArray, List.set_cons_zero, List.set_cons_succ]
    refine wpAnyH_take (i := 12) (v := (.slice ad 0 c)) rfl (by kernel_rfl) (by kernel_rfl) (by kernel_rfl) (fun _ _ _ h => h) (Or.inl ⟨by rfl, fun wx hx => by simp [go_sem]⟩) hS ?_
    simp only [Act.put, List.getElem_toArray, List.getElem_cons_succ, List.getElem_cons_zero, List.setIfInBounds_toArray, List.set_cons_zero, List.set_cons_succ]
    refine wpAnyH_take (i := 13) (v := .int .i64 0) rfl (by kernel_rfl) (by kernel_rfl) (by kernel_rfl) (fun _ _ _ h => h) (Or.inl ⟨by rfl, fun wx hx => by simp [go_sem]⟩) hS ?_
    simp only [Act.put, List.getElem_toArray, List.getElem_cons_succ, List.getElem_cons_zero, List.setIfInBounds_toArray, List.set_cons_zero, List.set_cons_succ]
    refine wpAnyH_take (i := 14) (v := (.slice ad 0 c)) rfl (by kernel_rfl) (by kernel_rfl) (by kernel_rfl) (fun _ _ _ h => h) (Or.inl ⟨by rfl, fun wx hx => by simp [go_sem]⟩) hS ?_
    simp only [Act.put, List.getElem_toArray, List.getElem_cons_succ, List.getElem_cons_zero, List.setIfInBounds_toArray, List.set_cons_zero, List.set_cons_succ]
    refine wpAnyH_take (i := 15) (v := .int .i64 0) rfl (by kernel_rfl) (by kernel_rfl) (by kernel_rfl) (fun _ _ _ h => h) (Or.inl ⟨by rfl, fun wx hx => by simp [go_sem]⟩) hS ?_
    simp only [Act.put, List.getElem_toArray, List.getElem_cons_succ, List.getElem_cons_zero, List.setIfInBounds_toArray, List.set_cons_zero, List.set_cons_succ]
    refine wpAnyH_done (by kernel_rfl) ?_ _
    go_wp2_with fail
    go_ret
    exact ⟨rfl, HQ.out⟩
  · skip
    refine wpOp_vl 8 (.agg (cb way).toArray) y.drew rfl (by rfl) (hld _ _ rfl rfl) ⟨trivial, ?_⟩
    simp only [Act.put, List.getElem_toArray, List.getElem_cons_succ, List.getElem_cons_zero, List.setIfInBounds_toArray, List.set_cons_zero, List.set_cons_succ]
    refine wpAnyH_step 4 (.slice (some ⟨b, off, none⟩) np cp) y.drew (by kernel_rfl) rfl (by rfl) (by simp [go_sem, hc0]) trivial ?_
    simp only [Act.put, List.getElem_toArray, List.getElem_cons_succ, List.getElem_cons_zero, List.setIfInBounds_toArray, List.set_cons_zero, List.set_cons_succ]
    refine wpAnyH_take (i := 6) (v := .pointer (some ⟨b, off + i, none⟩)) rfl (by kernel_rfl) (by kernel_rfl) (by kernel_rfl) (fun _ _ _ h => h) (Or.inl ⟨by rfl, fun wx hx => by simp [go_sem, i0, i1]⟩) hS ?_
    simp only [Act.put, List.getElem_toArray, List.getElem_cons_succ, List.getElem_cons_zero, List.setIfInBounds_toArray, List.set_cons_zero, List.set_cons_succ]
    refine wpAnyH_step 7 (.slice aj nj cj) y.drew (by kernel_rfl) rfl (by rfl) (by simp [go_sem, hcr]) trivial ?_
    simp only [Act.put, List.getElem_toArray, List.getElem_cons_succ, List.getElem_cons_zero, List.setIfInBounds_toArray, List.set_cons_zero, List.set_cons_succ]
    refine wpAnyH_enter 10 (by kernel_rfl) rfl (by rfl) (f := 56) (args := #[.pointer (some ⟨gr, 0, none⟩), .slice aj nj cj, .agg (cb way).toArray, .int .i64 (d : Int)]) (by simp [go_sem]) (HC.out _ HB3.out) ?_
    rintro e wz ⟨va, ve, rfl, rfl, ⟨ad, c, rfl⟩, hq⟩
    refine ⟨_, rfl, trivial, ?_⟩
    have HQ : Hid (Q wz) := hq
    clear hq hld hc0 hcr HI3 HG6e
    simp only [Act.put, List.getElem_toArray, List.getElem_cons_succ, List.getElem_cons_zero, List.setIfInBounds_toArray, List.set_cons_zero, List.set_cons_succ]
    refine wpAnyH_take (i := 11) (v := .tuple #[(.slice ad 0 c), .int .i64 0]) rfl (by kernel_rfl) (by kernel_rfl) (by kernel_rfl) (fun _ _ _ h => h) (Or.inl ⟨by rfl, fun wx hx => by simp [go_sem]⟩) hS ?_
    simp only [Act.put, List.getElem_toArray, List.getElem_cons_succ, List.getElem_cons_zero, List.setIfInBounds_toArray, List.set_cons_zero, List.set_cons_succ]
    refine wpAnyH_take (i := 12) (v := (.slice ad 0 c)) rfl (by kernel_rfl) (by kernel_rfl) (by kernel_rfl) (fun _ _ _ h => h) (Or.inl ⟨by rfl, fun wx hx => by simp [go_sem]⟩) hS ?_
    simp only [Act.put, List.getElem_toArray, List.getElem_cons_succ, List.getElem_cons_zero, List.setIfInBounds_toArray, List.set_cons_zero, List.set_cons_succ]
    refine wpAnyH_take (i := 13) (v := .int .i64 0) rfl (by kernel_rfl) (by kernel_rfl) (by kernel_rfl) (fun _ _ _ h => h) (Or.inl ⟨by rfl, fun wx hx => by simp [go_sem]⟩) hS ?_
    simp only [Act.put, List.getElem_toArray, List.getElem_cons_succ, List.getElem_cons_zero, List.setIfInBounds_toArray, List.set_cons_zero, List.set_cons_succ]
    refine wpAnyH_take (i := 14) (v := (.slice ad 0 c)) rfl (by kernel_rfl) (by kernel_rfl) (by kernel_rfl) (fun _ _ _ h => h) (Or.inl ⟨by rfl, fun wx hx => by simp [go_sem]⟩) hS ?_
    simp only [Act.put, List.getElem_toArray, List.getElem_cons_succ, List.getElem_cons_zero, List.setIfInBounds_toArray, List.set_cons_zero, List.set_cons_succ]
    refine wpAnyH_take (i := 15) (v := .int .i64 0) rfl (by kernel_rfl) (by kernel_rfl) (by kernel_rfl) (fun _ _ _ h => h) (Or.inl ⟨by rfl, fun wx hx => by simp [go_sem]⟩) hS ?_
    simp only [Act.put, List.getElem_toArray, List.getElem_cons_succ, List.getElem_cons_zero, List.setIfInBounds_toArray, List.set_cons_zero, List.set_cons_succ]
    refine wpAnyH_done (by kernel_rfl) ?_ _
    go_wp2_with fail
    go_ret
    exact ⟨rfl, HQ.out⟩
set_option maxHeartbeats 8000000 in
theorem pgPage_no (w0 : World) (B gr gm : Nat) (ap : Option Addr) (np cp : Nat) (ps : List By) (k : Nat) (ix iv : Value) (la lv : List By) (x way : By) (d : Nat) (w : World) (hI : RrI w0 B gr gm (.slice ap np cp) ps k ix iv la lv w) (hx : x.length = 32) (hway : way.length = 32) (i b off : Nat) (vj : Value) (Q : World → Prop) (hp : plK ps ps.length x = some i) (hi : i < np) (hap : ap = some ⟨b, off, none⟩) (hrow : w.cell? ⟨b, off + i, none⟩ = some vj) (hvj : ∃ ad n c, vj = .slice ad n c)
    (hC : ∀ W, Below w.heap.size w W → Calls Tryd.prog 56 #[.pointer (some ⟨gr, 0, none⟩), vj, .agg (cb way).toArray, .int .i64 (d : Int)] W (Two fun _ b w' => b = .int .i64 7 ∧ (True) ∧ Q w')) :
    Calls Tryd.prog 31 #[.pointer (some ⟨gr, 0, none⟩), .agg (cb x).toArray, .agg (cb way).toArray, .int .i64 (d : Int)] w fun e w' => e = .returned (.int .i64 7) ∧ Q w' := by
  have HI : Hid (RrI w0 B gr gm (.slice ap np cp) ps k ix iv la lv w) := hI
  have HX : Hid (x.length = 32) := hx
  have HYW : Hid (way.length = 32) := hway
  have HPL : Hid (plK ps ps.length x = some i) := hp
  subst hap
  obtain ⟨aj, nj, cj, hvj⟩ := hvj
  subst hvj
  have HROW : Hid (∀ W, Below w.heap.size w W → W.cell? ⟨b, off + i, none⟩ = some (.slice aj nj cj)) := fun W hW => by rw [hW.cell (p := ⟨b, off + i, none⟩) (block_lt_of_cell hrow)]; exact hrow
  have HC : Hid (∀ W, Below w.heap.size w W → Calls Tryd.prog 56 #[.pointer (some ⟨gr, 0, none⟩), .slice aj nj cj, .agg (cb way).toArray, .int .i64 (d : Int)] W (Two fun _ b w' => b = .int .i64 7 ∧ (True) ∧ Q w')) := hC
  have i0 : (0 : Int) ≤ (i : Int) := by omega
  have i1 : (i : Int) < (np : Int) := by omega
  clear hI hx hp hrow hC hway
  go_enter Tryd.func31, Tryd.ntmps31
  go_upto_region 1 with (first
    | (with_reducible refine wpSeq_boxD (.tmp 1) x ?_ ?_ ?_ ?_
       · rfl
       · rfl
       · rfl
       intro g5 w1 nn
       have HB1 : Hid (Below w.heap.size w w1) := nn.below
       have HG5 : Hid (Blk w1 g5 (cb x) 28) := nn.blk
       clear nn)
    | (with_reducible refine wpSeq_boxD (.tmp 2) way ?_ ?_ ?_ ?_
       · rfl
       · rfl
       · rfl
       intro g6 w2 nn
       have HB2 : Hid (Below w.heap.size w w2) := HB1.out.trans (nn.below.mono HB1.out.size)
       have HG6 : Hid (Blk w2 g6 (cb way) 28) := nn.blk
       replace HG5 : Hid (Blk w2 g5 (cb x) 28) := HG5.out.below nn.below HG5.out.lt
       clear nn))
  have HI2 : Hid (RrI w0 B gr gm (.slice (some ⟨b, off, none⟩) np cp) ps k ix iv la lv w2.drew) := (HI.out.next HB2.out).drew
  have HBD : Hid (Below w.heap.size w w2.drew) := HB2.out.drew
  have HG5d : Hid (Blk w2.drew g5 (cb x) 28) := HG5.out
  have HG6d : Hid (Blk w2.drew g6 (cb way) 28) := HG6.out
  refine wp_region_held_drew (S := fun W => W = w2.drew) (by kernel_rfl) rfl ?_
  intro hS
  obtain ⟨y, HY⟩ : ∃ z, z = w2.drew := ⟨_, rfl⟩
  rw [← HY] at HI2 HBD HG5d HG6d hS ⊢
  have hlk := HI2.out.mp.look HX.out
  have hc1 : y.cell? ⟨gr, 1, none⟩ = some (.map (some gm)) := HI2.out.blk.cell 1
  rw [HPL.out] at hlk
  have hlk : (Instr.lookup 63 (.map (some gm)) (.agg (cb x).toArray) true).run Tryd.prog y = .ok (.tuple #[.int .i64 (i : Int), .bool true]) y := hlk
  refine wpAnyH_take (i := 0) (v := .pointer (some ⟨gr, 0, none⟩)) rfl (by kernel_rfl) (by kernel_rfl) (by kernel_rfl) (fun _ _ _ h => h) (Or.inl ⟨by rfl, fun wx hx => by simp [go_sem]⟩) hS ?_
  simp only [Act.put, List.getElem_toArray, List.getElem_cons_zero, List.setIfInBounds_toArray, List.set_cons_zero, List.set_cons_succ]
  refine wpAnyH_take (i := 1) (v := .pointer (some ⟨gr, 0, none⟩)) rfl (by kernel_rfl) (by kernel_rfl) (by kernel_rfl) (fun _ _ _ h => h) (Or.inl ⟨by rfl, fun wx hx => by simp [go_sem]⟩) hS ?_
  simp only [Act.put, List.getElem_toArray, List.getElem_cons_succ, List.getElem_cons_zero, List.setIfInBounds_toArray, List.set_cons_zero, List.set_cons_succ]
  refine wpAnyH_take (i := 2) (v := .pointer (some ⟨gr, 1, none⟩)) rfl (by kernel_rfl) (by kernel_rfl) (by kernel_rfl) (fun _ _ _ h => h) (Or.inl ⟨by rfl, fun wx hx => by simp [go_sem]⟩) hS ?_
  simp only [Act.put, List.getElem_toArray, List.getElem_cons_succ, List.getElem_cons_zero, List.setIfInBounds_toArray, List.set_cons_zero, List.set_cons_succ]
  refine wpAnyH_take (i := 3) (v := .map (some gm)) rfl (by kernel_rfl) (by kernel_rfl) (by kernel_rfl) (fun _ _ _ h => h) (Or.inl ⟨by rfl, fun wx hx => by (rw [hx]; simp [go_sem, hc1])⟩) hS ?_
  simp only [Act.put, List.getElem_toArray, List.getElem_cons_succ, List.getElem_cons_zero, List.setIfInBounds_toArray, List.set_cons_zero, List.set_cons_succ]
  refine wpAnyH_take (i := 4) (v := .agg (cb x).toArray) rfl (by kernel_rfl) (by kernel_rfl) (by kernel_rfl) (fun _ _ _ h => h) (Or.inl ⟨by rfl, fun wx hx => by (rw [hx]; exact loadDigest _ g5 x HX.out HG5d.out rfl rfl)⟩) hS ?_
  simp only [Act.put, List.getElem_toArray, List.getElem_cons_succ, List.getElem_cons_zero, List.setIfInBounds_toArray, List.set_cons_zero, List.set_cons_succ]
  refine wpAnyH_take (i := 5) (v := .tuple #[.int .i64 (i : Int), .bool true]) rfl (by kernel_rfl) (by kernel_rfl) (by kernel_rfl) (fun _ _ _ h => h) (Or.inl ⟨by rfl, fun wx hx => by (rw [hx]; simp [execOp, Act.eval, hlk])⟩) hS ?_
  simp only [Act.put, List.getElem_toArray, List.getElem_cons_succ, List.getElem_cons_zero, List.setIfInBounds_toArray, List.set_cons_zero, List.set_cons_succ]
  refine wpAnyH_take (i := 6) (v := .tuple #[.int .i64 (i : Int), .bool true]) rfl (by kernel_rfl) (by kernel_rfl) (by kernel_rfl) (fun _ _ _ h => h) (Or.inl ⟨by rfl, fun wx hx => by simp [go_sem]⟩) hS ?_
  simp only [Act.put, List.getElem_toArray, List.getElem_cons_succ, List.getElem_cons_zero, List.setIfInBounds_toArray, List.set_cons_zero, List.set_cons_succ]
  refine wpAnyH_take (i := 7) (v := .int .i64 (i : Int)) rfl (by kernel_rfl) (by kernel_rfl) (by kernel_rfl) (fun _ _ _ h => h) (Or.inl ⟨by rfl, fun wx hx => by simp [go_sem]⟩) hS ?_
  simp only [Act.put, List.getElem_toArray, List.getElem_cons_succ, List.getElem_cons_zero, List.setIfInBounds_toArray, List.set_cons_zero, List.set_cons_succ]
  refine wpAnyH_take (i := 8) (v := .bool true) rfl (by kernel_rfl) (by kernel_rfl) (by kernel_rfl) (fun _ _ _ h => h) (Or.inl ⟨by rfl, fun wx hx => by simp [go_sem]⟩) hS ?_
  simp only [Act.put, List.getElem_toArray, List.getElem_cons_succ, List.getElem_cons_zero, List.setIfInBounds_toArray, List.set_cons_zero, List.set_cons_succ]
  refine wpAnyH_take (i := 9) (v := .int .i64 (i : Int)) rfl (by kernel_rfl) (by kernel_rfl) (by kernel_rfl) (fun _ _ _ h => h) (Or.inl ⟨by rfl, fun wx hx => by simp [go_sem]⟩) hS ?_
  simp only [Act.put, List.getElem_toArray, List.getElem_cons_succ, List.getElem_cons_zero, List.setIfInBounds_toArray, List.set_cons_zero, List.set_cons_succ]
  refine wpAnyH_take (i := 10) (v := .bool true) rfl (by kernel_rfl) (by kernel_rfl) (by kernel_rfl) (fun _ _ _ h => h) (Or.inl ⟨by rfl, fun wx hx => by simp [go_sem]⟩) hS ?_
  simp only [Act.put, List.getElem_toArray, List.getElem_cons_succ, List.getElem_cons_zero, List.setIfInBounds_toArray, List.set_cons_zero, List.set_cons_succ]
  refine wpAnyH_done (by kernel_rfl) ?_ _
  clear hlk hc1
  have HI3 : Hid (RrI w0 B gr gm (.slice (some ⟨b, off, none⟩) np cp) ps k ix iv la lv y.drew) := HI2.out.drew
  have HB3 : Hid (Below w.heap.size w y.drew) := HBD.out.drew
  have HG6e : Hid (Blk y.drew g6 (cb way) 28) := HG6d.out
  have hc0 : y.drew.cell? ⟨gr, 0, none⟩ = some (.slice (some ⟨b, off, none⟩) np cp) := HI3.out.blk.cell 0
  have hcr := HROW.out _ HB3.out
  clear HI2 HG5d HG6d hS HY HI HBD
  go_wp2_with fail
  refine wp_region_held_drew (S := fun _ => True) (by kernel_rfl) trivial ?_
  intro hS
  refine wpAnyH_take (i := 0) (v := .pointer (some ⟨gr, 0, none⟩)) rfl (by kernel_rfl) (by kernel_rfl) (by kernel_rfl) (fun _ _ _ h => h) (Or.inl ⟨by rfl, fun wx hx => by simp [go_sem]⟩) hS ?_
  simp only [Act.put, List.getElem_toArray, List.getElem_cons_zero, List.setIfInBounds_toArray, List.set_cons_zero, List.set_cons_succ]
  refine wpAnyH_take (i := 1) (v := .pointer (some ⟨gr, 0, none⟩)) rfl (by kernel_rfl) (by kernel_rfl) (by kernel_rfl) (fun _ _ _ h => h) (Or.inl ⟨by rfl, fun wx hx => by simp [go_sem]⟩) hS ?_
  simp only [Act.put, List.getElem_toArray, List.getElem_cons_succ, List.getElem_cons_zero, List.setIfInBounds_toArray, List.set_cons_zero, List.set_cons_succ]
  refine wpAnyH_take (i := 2) (v := .pointer (some ⟨gr, 0, none⟩)) rfl (by kernel_rfl) (by kernel_rfl) (by kernel_rfl) (fun _ _ _ h => h) (Or.inl ⟨by rfl, fun wx hx => by simp [go_sem]⟩) hS ?_
  simp only [Act.put, List.getElem_toArray, List.getElem_cons_succ, List.getElem_cons_zero, List.setIfInBounds_toArray, List.set_cons_zero, List.set_cons_succ]
  refine wpAnyH_take (i := 3) (v := .pointer (some ⟨gr, 0, none⟩)) rfl (by kernel_rfl) (by kernel_rfl) (by kernel_rfl) (fun _ _ _ h => h) (Or.inl ⟨by rfl, fun wx hx => by simp [go_sem]⟩) hS ?_
  simp only [Act.put, List.getElem_toArray, List.getElem_cons_succ, List.getElem_cons_zero, List.setIfInBounds_toArray, List.set_cons_zero, List.set_cons_succ]
  refine wpAnyH_take (i := 5) (v := .int .i64 (i : Int)) rfl (by kernel_rfl) (by kernel_rfl) (by kernel_rfl) (fun _ _ _ h => h) (Or.inl ⟨by rfl, fun wx hx => by simp [go_sem]⟩) hS ?_
  simp only [Act.put, List.getElem_toArray, List.getElem_cons_succ, List.getElem_cons_zero, List.setIfInBounds_toArray, List.set_cons_zero, List.set_cons_succ]
  refine wpAnyH_take (i := 9) (v := .int .i64 (d : Int)) rfl (by kernel_rfl) (by kernel_rfl) (by kernel_rfl) (fun _ _ _ h => h) (Or.inl ⟨by rfl, fun wx hx => by simp [go_sem]⟩) hS ?_
  simp only [Act.put, List.getElem_toArray, List.getElem_cons_succ, List.getElem_cons_zero, List.setIfInBounds_toArray, List.set_cons_zero, List.set_cons_succ]
  have hld := fun (a : Act) (o : Oper) (h1 : o.op = .load 28 (.tmp 6)) (h2 : a.eval (.tmp 6) = .pointer (some ⟨g6, 0, none⟩)) => loadDigest (w := y.drew) (.tmp 6) g6 way HYW.out HG6e.out h1 h2
  refine wpAnyH_pair 4 8 (by kernel_rfl) ?_ ?_
  · skip
    refine wpOp_vl 4 (.slice (some ⟨b, off, none⟩) np cp) y.drew rfl (by rfl) (by simp [go_sem, hc0]) ⟨trivial, ?_⟩
    simp only [Act.put, List.getElem_toArray, List.getElem_cons_succ, List.getElem_cons_zero, List.setIfInBounds_toArray, List.set_cons_zero, List.set_cons_succ]
    refine wpAnyH_take (i := 6) (v := .pointer (some ⟨b, off + i, none⟩)) rfl (by kernel_rfl) (by kernel_rfl) (by kernel_rfl) (fun _ _ _ h => h) (Or.inl ⟨by rfl, fun wx hx => by simp [go_sem, i0, i1]⟩) hS ?_
    simp only [Act.put, List.getElem_toArray, List.getElem_cons_succ, List.getElem_cons_zero, List.setIfInBounds_toArray, List.set_cons_zero, List.set_cons_succ]
    refine wpAnyH_comm 7 8 (.slice aj nj cj) (.agg (cb way).toArray) y.drew (by kernel_rfl) rfl rfl (by rfl) (by rfl) (by rfl) (by rfl) (by simp [go_sem, hcr]) (hld _ _ rfl rfl) (by simp [go_sem, hcr]) (hld _ _ rfl rfl) (by kernel_rfl) (by kernel_rfl) (by rfl) (by rfl) trivial trivial ?_
    simp only [Act.put, List.getElem_toArray, List.getElem_cons_succ, List.getElem_cons_zero, List.setIfInBounds_toArray, List.set_cons_zero, List.set_cons_succ]
    refine wpAnyH_enter 10 (by kernel_rfl) rfl (by rfl) (f := 56) (args := #[.pointer (some ⟨gr, 0, none⟩), .slice aj nj cj, .agg (cb way).toArray, .int .i64 (d : Int)]) (by simp [go_sem]) (HC.out _ HB3.out) ?_
    rintro e wz ⟨va, ve, rfl, rfl, _, hq⟩
    refine ⟨_, rfl, trivial, ?_⟩
    have HQ : Hid (Q wz) := hq
    clear hq hld hc0 hcr HI3 HG6e
    simp only [Act.put, List.getElem_toArray, List.getElem_cons_succ, List.getElem_cons_zero, List.setIfInBounds_toArray, List.set_cons_zero, List.set_cons_succ]
    refine wpAnyH_take (i := 11) (v := .tuple #[va, .int .i64 7]) rfl (by kernel_rfl) (by kernel_rfl) (by kernel_rfl) (fun _ _ _ h => h) (Or.inl ⟨by rfl, fun wx hx => by simp [go_sem]⟩) hS ?_
    simp only [Act.put, List.getElem_toArray, List.getElem_cons_succ, List.getElem_cons_zero, List.setIfInBounds_toArray, List.set_cons_zero, List.set_cons_succ]
    refine wpAnyH_take (i := 12) (v := va) rfl (by kernel_rfl) (by kernel_rfl) (by kernel_rfl) (fun _ _ _ h => h) (Or.inl ⟨by rfl, fun wx hx => by simp [go_sem]⟩) hS ?_
    simp only [Act.put, List.getElem_toArray, List.getElem_cons_succ, List.getElem_cons_zero, List.setIfInBounds_toArray, List.set_cons_zero, List.set_cons_succ]
    refine wpAnyH_take (i := 13) (v := .int .i64 7) rfl (by kernel_rfl) (by kernel_rfl) (by kernel_rfl) (fun _ _ _ h => h) (Or.inl ⟨by rfl, fun wx hx => by simp [go_sem]⟩) hS ?_
    simp only [Act.put, List.getElem_toArray, List.getElem_cons_succ, List.getElem_cons_zero, List.setIfInBounds_toArray, List.set_cons_zero, List.set_cons_succ]
    refine wpAnyH_take (i := 14) (v := va) rfl (by kernel_rfl) (by kernel_rfl) (by kernel_rfl) (fun _ _ _ h => h) (Or.inl ⟨by rfl, fun wx hx => by simp [go_sem]⟩) hS ?_
    simp only [Act.put, List.getElem_toArray, List.getElem_cons_succ, List.getElem_cons_zero, List.setIfInBounds_toArray, List.set_cons_zero, List.set_cons_succ]
    refine wpAnyH_take (i := 15) (v := .int .i64 7) rfl (by kernel_rfl) (by kernel_rfl) (by kernel_rfl) (fun _ _ _ h => h) (Or.inl ⟨by rfl, fun wx hx => by simp [go_sem]⟩) hS ?_
    simp only [Act.put, List.getElem_toArray, List.getElem_cons_succ, List.getElem_cons_zero, List.setIfInBounds_toArray, List.set_cons_zero, List.set_cons_succ]
    refine wpAnyH_done (by kernel_rfl) ?_ _
    go_wp2_with fail
    go_ret
    exact ⟨rfl, HQ.out⟩
  · skip
    refine wpOp_vl 8 (.agg (cb way).toArray) y.drew rfl (by rfl) (hld _ _ rfl rfl) ⟨trivial, ?_⟩
    simp only [Act.put, List.getElem_toArray, List.getElem_cons_succ, List.getElem_cons_zero, List.setIfInBounds_toArray, List.set_cons_zero, List.set_cons_succ]
    refine wpAnyH_step 4 (.slice (some ⟨b, off, none⟩) np cp) y.drew (by kernel_rfl) rfl (by rfl) (by simp [go_sem, hc0]) trivial ?_
    simp only [Act.put, List.getElem_toArray, List.getElem_cons_succ, List.getElem_cons_zero, List.setIfInBounds_toArray, List.set_cons_zero, List.set_cons_succ]
    refine wpAnyH_take (i := 6) (v := .pointer (some ⟨b, off + i, none⟩)) rfl (by kernel_rfl) (by kernel_rfl) (by kernel_rfl) (fun _ _ _ h => h) (Or.inl ⟨by rfl, fun wx hx => by simp [go_sem, i0, i1]⟩) hS ?_
    simp only [Act.put, List.getElem_toArray, List.getElem_cons_succ, List.getElem_cons_zero, List.setIfInBounds_toArray, List.set_cons_zero, List.set_cons_succ]
    refine wpAnyH_step 7 (.slice aj nj cj) y.drew (by kernel_rfl) rfl (by rfl) (by simp [go_sem, hcr]) trivial ?_
    simp only [Act.put, List.getElem_toArray, List.getElem_cons_succ, List.getElem_cons_zero, List.setIfInBounds_toArray, List.set_cons_zero, List.set_cons_succ]
    refine wpAnyH_enter 10 (by kernel_rfl) rfl (by rfl) (f := 56) (args := #[.pointer (some ⟨gr, 0, none⟩), .slice aj nj cj, .agg (cb way).toArray, .int .i64 (d : Int)]) (by simp [go_sem]) (HC.out _ HB3.out) ?_
    rintro e wz ⟨va, ve, rfl, rfl, _, hq⟩
    refine ⟨_, rfl, trivial, ?_⟩
    have HQ : Hid (Q wz) := hq
    clear hq hld hc0 hcr HI3 HG6e
    simp only [Act.put, List.getElem_toArray, List.getElem_cons_succ, List.getElem_cons_zero, List.setIfInBounds_toArray, List.set_cons_zero, List.set_cons_succ]
    refine wpAnyH_take (i := 11) (v := .tuple #[va, .int .i64 7]) rfl (by kernel_rfl) (by kernel_rfl) (by kernel_rfl) (fun _ _ _ h => h) (Or.inl ⟨by rfl, fun wx hx => by simp [go_sem]⟩) hS ?_
    simp only [Act.put, List.getElem_toArray, List.getElem_cons_succ, List.getElem_cons_zero, List.setIfInBounds_toArray, List.set_cons_zero, List.set_cons_succ]
    refine wpAnyH_take (i := 12) (v := va) rfl (by kernel_rfl) (by kernel_rfl) (by kernel_rfl) (fun _ _ _ h => h) (Or.inl ⟨by rfl, fun wx hx => by simp [go_sem]⟩) hS ?_
    simp only [Act.put, List.getElem_toArray, List.getElem_cons_succ, List.getElem_cons_zero, List.setIfInBounds_toArray, List.set_cons_zero, List.set_cons_succ]
    refine wpAnyH_take (i := 13) (v := .int .i64 7) rfl (by kernel_rfl) (by kernel_rfl) (by kernel_rfl) (fun _ _ _ h => h) (Or.inl ⟨by rfl, fun wx hx => by simp [go_sem]⟩) hS ?_
    simp only [Act.put, List.getElem_toArray, List.getElem_cons_succ, List.getElem_cons_zero, List.setIfInBounds_toArray, List.set_cons_zero, List.set_cons_succ]
    refine wpAnyH_take (i := 14) (v := va) rfl (by kernel_rfl) (by kernel_rfl) (by kernel_rfl) (fun _ _ _ h => h) (Or.inl ⟨by rfl, fun wx hx => by simp [go_sem]⟩) hS ?_
    simp only [Act.put, List.getElem_toArray, List.getElem_cons_succ, List.getElem_cons_zero, List.setIfInBounds_toArray, List.set_cons_zero, List.set_cons_succ]
    refine wpAnyH_take (i := 15) (v := .int .i64 7) rfl (by kernel_rfl) (by kernel_rfl) (by kernel_rfl) (fun _ _ _ h => h) (Or.inl ⟨by rfl, fun wx hx => by simp [go_sem]⟩) hS ?_
    simp only [Act.put, List.getElem_toArray, List.getElem_cons_succ, List.getElem_cons_zero, List.setIfInBounds_toArray, List.set_cons_zero, List.set_cons_succ]
    refine wpAnyH_done (by kernel_rfl) ?_ _
    go_wp2_with fail
    go_ret
    exact ⟨rfl, HQ.out⟩
set_option maxHeartbeats 8000000 in
theorem pgLinked_ok (w0 : World) (B gr gm : Nat) (ap : Option Addr) (np cp : Nat) (ps : List By) (k : Nat) (ai : Option Addr) (ni ci : Nat) (iv : Value) (la lv : List By) (vb : Value) (x rest way : By) (d : Nat) (w : World) (hI : RrI w0 B gr gm (.slice ap np cp) ps k (.slice ai ni ci) iv la lv w) (hni : ni = la.length) (hx : x.length = 32) (hway : way.length = 32) (hR : RdBb B w vb (x ++ rest)) (hl : rest.length < 10000) (hk : k < np) (hnp : np < 1000000) (k2 : Nat) (la2 lv2 : List By) (h2 : la.length + 2 ≤ la2.length) (h3 : la2.length < 1000000) 
    (hC : ∀ W, RrI w0 B gr gm (.slice ap np cp) ps (k + 1) (.slice ai ni ci) iv la lv W → Calls Tryd.prog 31 #[.pointer (some ⟨gr, 0, none⟩), .agg (cb x).toArray, .agg (cb way).toArray, .int .i64 (d : Int)] W fun e w' => e = .returned (.int .i64 0) ∧ ∃ ix' iv', RrI w0 B gr gm (.slice ap np cp) ps k2 ix' iv' la2 lv2 w' ∧ RdG gr (.slice ai ni ci) iv W ix' iv' w') :
    Calls Tryd.prog 78 #[.pointer (some ⟨gr, 0, none⟩), vb, .agg (cb way).toArray, .int .i64 (d : Int)] w (Two fun a b w' => b = .int .i64 0 ∧ RdBb B w' a rest ∧ ∃ ix' iv', RrI w0 B gr gm (.slice ap np cp) ps k2 ix' iv' la2 lv2 w' ∧ RdG gr (.slice ai ni ci) iv w ix' iv' w') := by
  have HI : Hid (RrI w0 B gr gm (.slice ap np cp) ps k (.slice ai ni ci) iv la lv w) := hI
  have HX : Hid (x.length = 32) := hx
  have HY : Hid (way.length = 32) := hway
  have HR : Hid (RdBb B w vb (x ++ rest)) := hR
  have HL : Hid (rest.length < 1000000) := Nat.lt_trans hl (by decide)
  obtain ⟨k1, HK1⟩ : ∃ z, Hid (z = k + 1) := ⟨_, rfl⟩
  have rd : IntKind.i64.wrap ((k : Int) + 1) = (k1 : Int) := by rw [IntKind.wrap_i64, HK1.out]; omega
  have HC : Hid (∀ W, RrI w0 B gr gm (.slice ap np cp) ps k1 (.slice ai ni ci) iv la lv W → Calls Tryd.prog 31 #[.pointer (some ⟨gr, 0, none⟩), .agg (cb x).toArray, .agg (cb way).toArray, .int .i64 (d : Int)] W fun e w' => e = .returned (.int .i64 0) ∧ ∃ ix' iv', RrI w0 B gr gm (.slice ap np cp) ps k2 ix' iv' la2 lv2 w' ∧ RdG gr (.slice ai ni ci) iv W ix' iv' w') := by rw [HK1.out]; exact hC
  have z1 : ¬ ((k : Int) = (np : Int)) := by omega
  have z1' : ((k : Int) == (np : Int)) = false := by rw [beq_eq_false_iff_ne]; exact z1
  have HNI : Hid (ni = la.length) := hni
  have HLE : Hid (2 < (rdC (.slice ap np cp) gm k (.slice ai ni ci) iv).length) := by show _ < _; simp [rdC]
  clear hI hx hway hR hl hC hni
  go_enter Tryd.func78, Tryd.ntmps78
  have tk0 : Hid True := trivial
  have tk1 : Hid True := trivial
  have tk2 : Hid True := trivial
  have tk3 : Hid True := trivial
  go_wp2_with (first
    | (clear tk0; with_reducible refine wpSeq_boxD (.tmp 2) way ?_ ?_ ?_ ?_
       · rfl
       · rfl
       · rfl
       intro g6 w1 nn
       have HBW : Hid (Below w.heap.size w w1) := nn.below
       have HG6 : Hid (Blk w1 g6 (cb way) 28 ∧ w.heap.size ≤ g6) := ⟨nn.blk, nn.ge⟩
       replace HR : Hid (RdBb B w1 vb (x ++ rest)) := ⟨HR.out.1.below nn.below, HR.out.2⟩
       clear nn)
    | (clear tk1; go_at_call 91; refine (pgCut_any B vb x rest _ HX.out HR.out HL.out).mono ?_; rintro e w2 ⟨v1, rfl, hr, hb⟩
       have HR2 : Hid (RdBb B w2 v1 rest) := hr
       replace HG6 : Hid (Blk w2 g6 (cb way) 28 ∧ w.heap.size ≤ g6) := ⟨HG6.out.1.below hb HG6.out.1.lt, HG6.out.2⟩
       replace HBW : Hid (Below w.heap.size w w2) := HBW.out.trans (hb.mono HBW.out.size)
       clear hr hb HR)
    | (clear tk2; with_reducible refine wpSeq_allocD ?_ ?_ ?_
       · rfl
       · rfl
       intro g10 w3 nn
       have HN3 : Hid (Blk w3 g10 (cb zb32) 28 ∧ w2.heap.size ≤ g10 ∧ Below w2.heap.size w2 w3) := ⟨nn.blk, nn.ge, nn.below⟩
       clear nn)
    | (clear tk3; with_reducible refine wpSeq_storeD (.tmp 10) (.tmp 17) g10 zb32 x zb32_len HX.out HN3.out.1 ?_ ?_ ?_ ?_ ?_
       · rfl
       · rfl
       · rfl
       · rfl
       intro w4 h9
       have hb : Below w2.heap.size w2 w4 := HN3.out.2.2.trans (h9.only.below HN3.out.2.1 HN3.out.2.2.size)
       have HG10 : Hid (Blk w4 g10 (cb x) 28) := h9.blk
       replace HG6 : Hid (Blk w4 g6 (cb way) 28 ∧ w.heap.size ≤ g6) := ⟨HG6.out.1.below hb HG6.out.1.lt, HG6.out.2⟩
       replace HBW : Hid (Below w.heap.size w w4) := HBW.out.trans (hb.mono HBW.out.size)
       replace HR2 : Hid (RdBb B w4 v1 rest) := ⟨HR2.out.1.below hb, HR2.out.2⟩
       clear h9 hb HN3))
  have HI4 : Hid (RrI w0 B gr gm (.slice ap np cp) ps k (.slice ai ni ci) iv la lv w4.drew) := (HI.out.next HBW.out).drew
  have HG10d : Hid (Blk w4.drew g10 (cb x) 28) := HG10.out
  have HG6d : Hid (Blk w4.drew g6 (cb way) 28) := HG6.out.1
  have HR4 : Hid (RdBb B w4.drew v1 rest) := HR2.out
  have HBD : Hid (Below w.heap.size w w4.drew) := HBW.out.drew
  refine wp_region_held_drew (S := fun W => W = w4.drew) (by kernel_rfl) rfl ?_
  intro hS
  obtain ⟨y, HYY⟩ : ∃ z, z = w4.drew := ⟨_, rfl⟩
  rw [← HYY] at HI4 HG10d HG6d HR4 HBD hS ⊢
  have hc2 : y.cell? ⟨gr, 2, none⟩ = some (.int .i64 (k : Int)) := HI4.out.blk.cell 2
  have hc0 : y.cell? ⟨gr, 0, none⟩ = some (.slice ap np cp) := HI4.out.blk.cell 0
  refine wpAnyH_take (i := 0) (v := .pointer (some ⟨gr, 0, none⟩)) rfl (by kernel_rfl) (by kernel_rfl) (by kernel_rfl) (fun _ _ _ h => h) (Or.inl ⟨by rfl, fun wx hx => by simp [go_sem]⟩) hS ?_
  simp only [Act.put, List.getElem_toArray, List.getElem_cons_zero, List.setIfInBounds_toArray, List.set_cons_zero, List.set_cons_succ]
  refine wpAnyH_take (i := 1) (v := .pointer (some ⟨gr, 0, none⟩)) rfl (by kernel_rfl) (by kernel_rfl) (by kernel_rfl) (fun _ _ _ h => h) (Or.inl ⟨by rfl, fun wx hx => by simp [go_sem]⟩) hS ?_
  simp only [Act.put, List.getElem_toArray, List.getElem_cons_succ, List.getElem_cons_zero, List.setIfInBounds_toArray, List.set_cons_zero, List.set_cons_succ]
  refine wpAnyH_take (i := 2) (v := .pointer (some ⟨gr, 2, none⟩)) rfl (by kernel_rfl) (by kernel_rfl) (by kernel_rfl) (fun _ _ _ h => h) (Or.inl ⟨by rfl, fun wx hx => by simp [go_sem]⟩) hS ?_
  simp only [Act.put, List.getElem_toArray, List.getElem_cons_succ, List.getElem_cons_zero, List.setIfInBounds_toArray, List.set_cons_zero, List.set_cons_succ]
  refine wpAnyH_take (i := 3) (v := .int .i64 (k : Int)) rfl (by kernel_rfl) (by kernel_rfl) (by kernel_rfl) (fun _ _ _ h => h) (Or.inl ⟨by rfl, fun wx hx => by (rw [hx]; simp [go_sem, hc2])⟩) hS ?_
  simp only [Act.put, List.getElem_toArray, List.getElem_cons_succ, List.getElem_cons_zero, List.setIfInBounds_toArray, List.set_cons_zero, List.set_cons_succ]
  refine wpAnyH_take (i := 4) (v := .pointer (some ⟨gr, 0, none⟩)) rfl (by kernel_rfl) (by kernel_rfl) (by kernel_rfl) (fun _ _ _ h => h) (Or.inl ⟨by rfl, fun wx hx => by simp [go_sem]⟩) hS ?_
  simp only [Act.put, List.getElem_toArray, List.getElem_cons_succ, List.getElem_cons_zero, List.setIfInBounds_toArray, List.set_cons_zero, List.set_cons_succ]
  refine wpAnyH_take (i := 5) (v := .pointer (some ⟨gr, 0, none⟩)) rfl (by kernel_rfl) (by kernel_rfl) (by kernel_rfl) (fun _ _ _ h => h) (Or.inl ⟨by rfl, fun wx hx => by simp [go_sem]⟩) hS ?_
  simp only [Act.put, List.getElem_toArray, List.getElem_cons_succ, List.getElem_cons_zero, List.setIfInBounds_toArray, List.set_cons_zero, List.set_cons_succ]
  refine wpAnyH_take (i := 6) (v := .pointer (some ⟨gr, 0, none⟩)) rfl (by kernel_rfl) (by kernel_rfl) (by kernel_rfl) (fun _ _ _ h => h) (Or.inl ⟨by rfl, fun wx hx => by simp [go_sem]⟩) hS ?_
  simp only [Act.put, List.getElem_toArray, List.getElem_cons_succ, List.getElem_cons_zero, List.setIfInBounds_toArray, List.set_cons_zero, List.set_cons_succ]
  refine wpAnyH_take (i := 7) (v := .slice ap np cp) rfl (by kernel_rfl) (by kernel_rfl) (by kernel_rfl) (fun _ _ _ h => h) (Or.inl ⟨by rfl, fun wx hx => by (rw [hx]; simp [go_sem, hc0])⟩) hS ?_
  simp only [Act.put, List.getElem_toArray, List.getElem_cons_succ, List.getElem_cons_zero, List.setIfInBounds_toArray, List.set_cons_zero, List.set_cons_succ]
  refine wpAnyH_take (i := 8) (v := .int .i64 (np : Int)) rfl (by kernel_rfl) (by kernel_rfl) (by kernel_rfl) (fun _ _ _ h => h) (Or.inl ⟨by rfl, fun wx hx => by simp [go_sem]⟩) hS ?_
  simp only [Act.put, List.getElem_toArray, List.getElem_cons_succ, List.getElem_cons_zero, List.setIfInBounds_toArray, List.set_cons_zero, List.set_cons_succ]
  refine wpAnyH_take (i := 9) (v := .bool false) rfl (by kernel_rfl) (by kernel_rfl) (by kernel_rfl) (fun _ _ _ h => h) (Or.inl ⟨by rfl, fun wx hx => by simp [go_sem, z1']⟩) hS ?_
  simp only [Act.put, List.getElem_toArray, List.getElem_cons_succ, List.getElem_cons_zero, List.setIfInBounds_toArray, List.set_cons_zero, List.set_cons_succ]
  refine wpAnyH_done (by kernel_rfl) ?_ _
  have hc3 : y.cell? ⟨gr, 3, none⟩ = some (.slice ai ni ci) := HI4.out.blk.cell 3
  clear hS HYY hc0 HI
  have tl0 : Hid True := trivial
  have tl1 : Hid True := trivial
  have tl2 : Hid True := trivial
  have tl3 : Hid True := trivial
  go_wp2_with (first
    | (clear tl0; with_reducible refine wpSeq_cellI (.tmp 38) (.tmp 36) gr 2 (rdC (.slice ap np cp) gm k (.slice ai ni ci) iv) (k1 : Int) 66 HLE.out HI4.out.blk ?_ ?_ ?_ ?_ ?_
       · rfl
       · rfl
       · rfl
       · rfl
       intro w5 hb5 ho5
       have HI5 : Hid (RrI w0 B gr gm (.slice ap np cp) ps k1 (.slice ai ni ci) iv la lv w5) := HI4.out.turn hb5 ho5
       have HG5 : Hid (RdG gr (.slice ai ni ci) iv w (.slice ai ni ci) iv w5) := (RdG.below HBD.out).trans (RdG.only ho5)
       have hgr : ∀ (g : Nat) (cs : List Value), Blk y g cs 28 → g ≠ gr := fun g cs hb e => by have h1 := HI4.out.blk; rw [e] at hb; unfold Blk at h1 hb; rw [h1] at hb; simp only [Option.some.injEq, Obj.cells.injEq] at hb; exact absurd hb.2.1 (by decide)
       have HG10e : Hid (Blk w5 g10 (cb x) 28) := HG10d.out.only ho5 (hgr _ _ HG10d.out)
       have HG6e : Hid (Blk w5 g6 (cb way) 28) := HG6d.out.only ho5 (hgr _ _ HG6d.out)
       have HR5 : Hid (RdBb B w5 v1 rest) := HR4.out.go (ho5.below HI4.out.gg HI4.out.ge)
       have hc35 : w5.cell? ⟨gr, 3, none⟩ = some (.slice ai ni ci) := HI5.out.blk.cell 3
       clear hb5 ho5 hgr)
    | (clear tl1; with_reducible refine wpSeq_loadD (.tmp 10) g10 x HX.out HG10e.out ?_ ?_ ?_ ?_
       · rfl
       · rfl
       · rfl
       have HQ1 : Hid True := trivial)
    | (clear tl2; with_reducible refine wpSeq_loadD (.tmp 6) g6 way HY.out HG6e.out ?_ ?_ ?_ ?_
       · rfl
       · rfl
       · rfl
       have HQ2 : Hid True := trivial)
    | (clear tl3; go_at_call 31; refine (HC.out _ HI5.out).mono ?_; rintro e w6 ⟨rfl, ix', iv', hi6, hg6⟩
       have hr6 : RdBb B w6 v1 rest := HR5.out.go (hg6.belowB HI5.out)
       have HI6 : Hid (RrI w0 B gr gm (.slice ap np cp) ps k2 ix' iv' la2 lv2 w6) := hi6
       have HG6f : Hid (RdG gr (.slice ai ni ci) iv w ix' iv' w6) := HG5.out.trans hg6
       have HR6 : Hid (RdBb B w6 v1 rest) := hr6
       obtain ⟨ai2, ci2, hix⟩ := hi6.oi.slice
       obtain ⟨ni2, HNI2⟩ : ∃ z : Nat, Hid (z = la2.length) := ⟨_, rfl⟩
       rw [← HNI2.out] at hix
       obtain ⟨dl, HDL⟩ : ∃ z : Nat, Hid (z = ni2 - ni) := ⟨_, rfl⟩
       have rd2 : IntKind.i64.wrap ((ni2 : Int) - (ni : Int)) = (dl : Int) := by rw [IntKind.wrap_i64, HDL.out]; have := HNI.out; have := HNI2.out; omega
       have z2 : ¬ ((dl : Int) < 2) := by have := HDL.out; have := HNI.out; have := HNI2.out; omega
       have hc36 : w6.cell? ⟨gr, 3, none⟩ = some (.slice ai2 ni2 ci2) := by rw [← hix]; exact hi6.blk.cell 3
       clear hi6 hg6 hr6 hix hc35))
  refine bodyPost_ret (results_tmp2 rfl _ _ _) rfl ?_
  exact ⟨v1, _, rfl, rfl, HR6.out, ix', iv', HI6.out, HG6f.out⟩
set_option maxHeartbeats 8000000 in
theorem pgLinked_no (w0 : World) (B gr gm : Nat) (ap : Option Addr) (np cp : Nat) (ps : List By) (k : Nat) (ai : Option Addr) (ni ci : Nat) (iv : Value) (la lv : List By) (vb : Value) (x rest way : By) (d : Nat) (w : World) (hI : RrI w0 B gr gm (.slice ap np cp) ps k (.slice ai ni ci) iv la lv w) (hni : ni = la.length) (hx : x.length = 32) (hway : way.length = 32) (hR : RdBb B w vb (x ++ rest)) (hl : rest.length < 10000) (hk : k < np) (hnp : np < 1000000) 
    (hC : ∀ W, RrI w0 B gr gm (.slice ap np cp) ps (k + 1) (.slice ai ni ci) iv la lv W → Calls Tryd.prog 31 #[.pointer (some ⟨gr, 0, none⟩), .agg (cb x).toArray, .agg (cb way).toArray, .int .i64 (d : Int)] W fun e w' => e = .returned (.int .i64 7) ∧ Below B w0 w') :
    Calls Tryd.prog 78 #[.pointer (some ⟨gr, 0, none⟩), vb, .agg (cb way).toArray, .int .i64 (d : Int)] w (Two fun _ b w' => b = .int .i64 7 ∧ Below B w0 w') := by
  have HI : Hid (RrI w0 B gr gm (.slice ap np cp) ps k (.slice ai ni ci) iv la lv w) := hI
  have HX : Hid (x.length = 32) := hx
  have HY : Hid (way.length = 32) := hway
  have HR : Hid (RdBb B w vb (x ++ rest)) := hR
  have HL : Hid (rest.length < 1000000) := Nat.lt_trans hl (by decide)
  obtain ⟨k1, HK1⟩ : ∃ z, Hid (z = k + 1) := ⟨_, rfl⟩
  have rd : IntKind.i64.wrap ((k : Int) + 1) = (k1 : Int) := by rw [IntKind.wrap_i64, HK1.out]; omega
  have HC : Hid (∀ W, RrI w0 B gr gm (.slice ap np cp) ps k1 (.slice ai ni ci) iv la lv W → Calls Tryd.prog 31 #[.pointer (some ⟨gr, 0, none⟩), .agg (cb x).toArray, .agg (cb way).toArray, .int .i64 (d : Int)] W fun e w' => e = .returned (.int .i64 7) ∧ Below B w0 w') := by rw [HK1.out]; exact hC
  have z1 : ¬ ((k : Int) = (np : Int)) := by omega
  have z1' : ((k : Int) == (np : Int)) = false := by rw [beq_eq_false_iff_ne]; exact z1
  have HNI : Hid (ni = la.length) := hni
  have HLE : Hid (2 < (rdC (.slice ap np cp) gm k (.slice ai ni ci) iv).length) := by show _ < _; simp [rdC]
  clear hI hx hway hR hl hC hni
  go_enter Tryd.func78, Tryd.ntmps78
  have tk0 : Hid True := trivial
  have tk1 : Hid True := trivial
  have tk2 : Hid True := trivial
  have tk3 : Hid True := trivial
  go_wp2_with (first
    | (clear tk0; with_reducible refine wpSeq_boxD (.tmp 2) way ?_ ?_ ?_ ?_
       · rfl
       · rfl
       · rfl
       intro g6 w1 nn
       have HBW : Hid (Below w.heap.size w w1) := nn.below
       have HG6 : Hid (Blk w1 g6 (cb way) 28 ∧ w.heap.size ≤ g6) := ⟨nn.blk, nn.ge⟩
       replace HR : Hid (RdBb B w1 vb (x ++ rest)) := ⟨HR.out.1.below nn.below, HR.out.2⟩
       clear nn)
    | (clear tk1; go_at_call 91; refine (pgCut_any B vb x rest _ HX.out HR.out HL.out).mono ?_; rintro e w2 ⟨v1, rfl, hr, hb⟩
       have HR2 : Hid (RdBb B w2 v1 rest) := hr
       replace HG6 : Hid (Blk w2 g6 (cb way) 28 ∧ w.heap.size ≤ g6) := ⟨HG6.out.1.below hb HG6.out.1.lt, HG6.out.2⟩
       replace HBW : Hid (Below w.heap.size w w2) := HBW.out.trans (hb.mono HBW.out.size)
       clear hr hb HR)
    | (clear tk2; with_reducible refine wpSeq_allocD ?_ ?_ ?_
       · rfl
       · rfl
       intro g10 w3 nn
       have HN3 : Hid (Blk w3 g10 (cb zb32) 28 ∧ w2.heap.size ≤ g10 ∧ Below w2.heap.size w2 w3) := ⟨nn.blk, nn.ge, nn.below⟩
       clear nn)
    | (clear tk3; with_reducible refine wpSeq_storeD (.tmp 10) (.tmp 17) g10 zb32 x zb32_len HX.out HN3.out.1 ?_ ?_ ?_ ?_ ?_
       · rfl
       · rfl
       · rfl
       · rfl
       intro w4 h9
       have hb : Below w2.heap.size w2 w4 := HN3.out.2.2.trans (h9.only.below HN3.out.2.1 HN3.out.2.2.size)
       have HG10 : Hid (Blk w4 g10 (cb x) 28) := h9.blk
       replace HG6 : Hid (Blk w4 g6 (cb way) 28 ∧ w.heap.size ≤ g6) := ⟨HG6.out.1.below hb HG6.out.1.lt, HG6.out.2⟩
       replace HBW : Hid (Below w.heap.size w w4) := HBW.out.trans (hb.mono HBW.out.size)
       replace HR2 : Hid (RdBb B w4 v1 rest) := ⟨HR2.out.1.below hb, HR2.out.2⟩
       clear h9 hb HN3))
  have HI4 : Hid (RrI w0 B gr gm (.slice ap np cp) ps k (.slice ai ni ci) iv la lv w4.drew) := (HI.out.next HBW.out).drew
  have HG10d : Hid (Blk w4.drew g10 (cb x) 28) := HG10.out
  have HG6d : Hid (Blk w4.drew g6 (cb way) 28) := HG6.out.1
  have HR4 : Hid (RdBb B w4.drew v1 rest) := HR2.out
  have HBD : Hid (Below w.heap.size w w4.drew) := HBW.out.drew
  refine wp_region_held_drew (S := fun W => W = w4.drew) (by kernel_rfl) rfl ?_
  intro hS
  obtain ⟨y, HYY⟩ : ∃ z, z = w4.drew := ⟨_, rfl⟩
  rw [← HYY] at HI4 HG10d HG6d HR4 HBD hS ⊢
  have hc2 : y.cell? ⟨gr, 2, none⟩ = some (.int .i64 (k : Int)) := HI4.out.blk.cell 2
  have hc0 : y.cell? ⟨gr, 0, none⟩ = some (.slice ap np cp) := HI4.out.blk.cell 0
  refine wpAnyH_take (i := 0) (v := .pointer (some ⟨gr, 0, none⟩)) rfl (by kernel_rfl) (by kernel_rfl) (by kernel_rfl) (fun _ _ _ h => h) (Or.inl ⟨by rfl, fun wx hx => by simp [go_sem]⟩) hS ?_
  simp only [Act.put, List.getElem_toArray, List.getElem_cons_zero, List.setIfInBounds_toArray, List.set_cons_zero, List.set_cons_succ]
  refine wpAnyH_take (i := 1) (v := .pointer (some ⟨gr, 0, none⟩)) rfl (by kernel_rfl) (by kernel_rfl) (by kernel_rfl) (fun _ _ _ h => h) (Or.inl ⟨by rfl, fun wx hx => by simp [go_sem]⟩) hS ?_
  simp only [Act.put, List.getElem_toArray, List.getElem_cons_succ, List.getElem_cons_zero, List.setIfInBounds_toArray, List.set_cons_zero, List.set_cons_succ]
  refine wpAnyH_take (i := 2) (v := .pointer (some ⟨gr, 2, none⟩)) rfl (by kernel_rfl) (by kernel_rfl) (by kernel_rfl) (fun _ _ _ h => h) (Or.inl ⟨by rfl, fun wx hx => by simp [go_sem]⟩) hS ?_
  simp only [Act.put, List.getElem_toArray, List.getElem_cons_succ, List.getElem_cons_zero, List.setIfInBounds_toArray, List.set_cons_zero, List.set_cons_succ]
  refine wpAnyH_take (i := 3) (v := .int .i64 (k : Int)) rfl (by kernel_rfl) (by kernel_rfl) (by kernel_rfl) (fun _ _ _ h => h) (Or.inl ⟨by rfl, fun wx hx => by (rw [hx]; simp [go_sem, hc2])⟩) hS ?_
  simp only [Act.put, List.getElem_toArray, List.getElem_cons_succ, List.getElem_cons_zero, List.setIfInBounds_toArray, List.set_cons_zero, List.set_cons_succ]
  refine wpAnyH_take (i := 4) (v := .pointer (some ⟨gr, 0, none⟩)) rfl (by kernel_rfl) (by kernel_rfl) (by kernel_rfl) (fun _ _ _ h => h) (Or.inl ⟨by rfl, fun wx hx => by simp [go_sem]⟩) hS ?_
  simp only [Act.put, List.getElem_toArray, List.getElem_cons_succ, List.getElem_cons_zero, List.setIfInBounds_toArray, List.set_cons_zero, List.set_cons_succ]
  refine wpAnyH_take (i := 5) (v := .pointer (some ⟨gr, 0, none⟩)) rfl (by kernel_rfl) (by kernel_rfl) (by kernel_rfl) (fun _ _ _ h => h) (Or.inl ⟨by rfl, fun wx hx => by simp [go_sem]⟩) hS ?_
  simp only [Act.put, List.getElem_toArray, List.getElem_cons_succ, List.getElem_cons_zero, List.setIfInBounds_toArray, List.set_cons_zero, List.set_cons_succ]
  refine wpAnyH_take (i := 6) (v := .pointer (some ⟨gr, 0, none⟩)) rfl (by kernel_rfl) (by kernel_rfl) (by kernel_rfl) (fun _ _ _ h => h) (Or.inl ⟨by rfl, fun wx hx => by simp [go_sem]⟩) hS ?_
  simp only [Act.put, List.getElem_toArray, List.getElem_cons_succ, List.getElem_cons_zero, List.setIfInBounds_toArray, List.set_cons_zero, List.set_cons_succ]
  refine wpAnyH_take (i := 7) (v := .slice ap np cp) rfl (by kernel_rfl) (by kernel_rfl) (by kernel_rfl) (fun _ _ _ h => h) (Or.inl ⟨by rfl, fun wx hx => by (rw [hx]; simp [go_sem, hc0])⟩) hS ?_
  simp only [Act.put, List.getElem_toArray, List.getElem_cons_succ, List.getElem_cons_zero, List.setIfInBounds_toArray, List.set_cons_zero, List.set_cons_succ]
  refine wpAnyH_take (i := 8) (v := .int .i64 (np : Int)) rfl (by kernel_rfl) (by kernel_rfl) (by kernel_rfl) (fun _ _ _ h => h) (Or.inl ⟨by rfl, fun wx hx => by simp [go_sem]⟩) hS ?_
  simp only [Act.put, List.getElem_toArray, List.getElem_cons_succ, List.getElem_cons_zero, List.setIfInBounds_toArray, List.set_cons_zero, List.set_cons_succ]
  refine wpAnyH_take (i := 9) (v := .bool false) rfl (by kernel_rfl) (by kernel_rfl) (by kernel_rfl) (fun _ _ _ h => h) (Or.inl ⟨by rfl, fun wx hx => by simp [go_sem, z1']⟩) hS ?_
  simp only [Act.put, List.getElem_toArray, List.getElem_cons_succ, List.getElem_cons_zero, List.setIfInBounds_toArray, List.set_cons_zero, List.set_cons_succ]
  refine wpAnyH_done (by kernel_rfl) ?_ _
  have hc3 : y.cell? ⟨gr, 3, none⟩ = some (.slice ai ni ci) := HI4.out.blk.cell 3
  clear hS HYY hc0 HI
  have tl0 : Hid True := trivial
  have tl1 : Hid True := trivial
  have tl2 : Hid True := trivial
  have tl3 : Hid True := trivial
  go_wp2_with (first
    | (clear tl0; with_reducible refine wpSeq_cellI (.tmp 38) (.tmp 36) gr 2 (rdC (.slice ap np cp) gm k (.slice ai ni ci) iv) (k1 : Int) 66 HLE.out HI4.out.blk ?_ ?_ ?_ ?_ ?_
       · rfl
       · rfl
       · rfl
       · rfl
       intro w5 hb5 ho5
       have HI5 : Hid (RrI w0 B gr gm (.slice ap np cp) ps k1 (.slice ai ni ci) iv la lv w5) := HI4.out.turn hb5 ho5
       have HG5 : Hid (RdG gr (.slice ai ni ci) iv w (.slice ai ni ci) iv w5) := (RdG.below HBD.out).trans (RdG.only ho5)
       have hgr : ∀ (g : Nat) (cs : List Value), Blk y g cs 28 → g ≠ gr := fun g cs hb e => by have h1 := HI4.out.blk; rw [e] at hb; unfold Blk at h1 hb; rw [h1] at hb; simp only [Option.some.injEq, Obj.cells.injEq] at hb; exact absurd hb.2.1 (by decide)
       have HG10e : Hid (Blk w5 g10 (cb x) 28) := HG10d.out.only ho5 (hgr _ _ HG10d.out)
       have HG6e : Hid (Blk w5 g6 (cb way) 28) := HG6d.out.only ho5 (hgr _ _ HG6d.out)
       have HR5 : Hid (RdBb B w5 v1 rest) := HR4.out.go (ho5.below HI4.out.gg HI4.out.ge)
       have hc35 : w5.cell? ⟨gr, 3, none⟩ = some (.slice ai ni ci) := HI5.out.blk.cell 3
       clear hb5 ho5 hgr)
    | (clear tl1; with_reducible refine wpSeq_loadD (.tmp 10) g10 x HX.out HG10e.out ?_ ?_ ?_ ?_
       · rfl
       · rfl
       · rfl
       have HQ1 : Hid True := trivial)
    | (clear tl2; with_reducible refine wpSeq_loadD (.tmp 6) g6 way HY.out HG6e.out ?_ ?_ ?_ ?_
       · rfl
       · rfl
       · rfl
       have HQ2 : Hid True := trivial)
    | (clear tl3; go_at_call 31; refine (HC.out _ HI5.out).mono ?_; rintro e w6 ⟨rfl, hb6⟩
       have HB6 : Hid (Below B w0 w6) := hb6
       clear hb6))
  refine bodyPost_ret (results_tmp2 rfl _ _ _) rfl ?_
  exact ⟨v1, _, rfl, rfl, HB6.out⟩
end Go.Proofs.YtphmmnffgknkcaaDoor
/- What the reader does with a piece that reads back, by its form (layer 17). -/
namespace Go.Proofs.YtphmmnffgknkcaaDoor
open Go.RowKit
set_option maxRecDepth 100000
/-- the pages ps lie below B, whatever blocks from B on become -/
def PsM (w0 : World) (B : Nat) (ap : Option Addr) (ps : List By) : Prop := ∀ W, Below B w0 W → ∀ i, i < ps.length → 0 < (ps.getD i []).length → ∃ b off vj, ap = some ⟨b, off, none⟩ ∧ W.cell? ⟨b, off + i, none⟩ = some vj ∧ RdBb B W vj (ps.getD i [])
section
variable (w0 : World) (B gr gm : Nat) (ap : Option Addr) (cp : Nat) (ps : List By)
/-- all of S are at hand: the leaves were met -/
def OkQ (k : Nat) (ix iv : Value) (la lv : List By) (w : World) (S : List By) (l : List Lf) (rest : By) (a b : Value) (w' : World) : Prop :=
  b = .int .i64 0 ∧ RdBb B w' a rest ∧ ∃ ix' iv', RrI w0 B gr gm (.slice ap ps.length cp) ps (k + S.length) ix' iv' (la ++ l.map (·.1)) (lv ++ l.map (·.2)) w' ∧ RdG gr ix iv w ix' iv' w'
/-- one of S lacks -/
def NoQ (_ b : Value) (w' : World) : Prop := b = .int .i64 7 ∧ Below B w0 w'
def PcD (d : Nat) (l : List Lf) (t : By) (S : List By) : Prop :=
  ∀ (k : Nat) (ix iv : Value) (la lv : List By) (vb : Value) (rest way : By) (w : World), RrI w0 B gr gm (.slice ap ps.length cp) ps k ix iv la lv w → WyP way d l → RdBb B w vb (t ++ rest) → Free ps S → k + S.length ≤ ps.length → (t ++ rest).length ≤ 600 → la.length + l.length < 100000 → lv.length + l.length < 100000 →
    ((∀ p ∈ S, p ∈ ps) → Calls Tryd.prog 56 #[.pointer (some ⟨gr, 0, none⟩), vb, .agg (cb way).toArray, .int .i64 (d : Int)] w (Two (OkQ w0 B gr gm ap cp ps k ix iv la lv w S l rest)))
    ∧ ((¬ ∀ p ∈ S, p ∈ ps) → Calls Tryd.prog 56 #[.pointer (some ⟨gr, 0, none⟩), vb, .agg (cb way).toArray, .int .i64 (d : Int)] w (Two (NoQ w0 B)))
end
theorem two_mono {Q Q' : Value → Value → World → Prop} (h : ∀ a b w, Q a b w → Q' a b w) (e : Ending) (w : World) (ht : Two Q e w) : Two Q' e w := by
  obtain ⟨a, b, h1, h2⟩ := ht
  exact ⟨a, b, h1, h a b w h2⟩
theorem RdBb.nextP {B : Nat} {w w' : World} {v : Value} {t : By} (h : RdBb B w v t) (hb : Below w.heap.size w w') : RdBb B w' v t := ⟨h.1.below hb, h.2⟩
theorem RdG.from {gr : Nat} {ix iv ix' iv' : Value} {w w1 w' : World} (hb : Below w.heap.size w w1) (h : RdG gr ix iv w1 ix' iv' w') : RdG gr ix iv w ix' iv' w' := (RdG.below hb).trans h
section
variable {w0 : World} {B gr gm : Nat} {ap : Option Addr} {cp : Nat} {ps : List By}
theorem pc_few (d : Nat) (l : List Lf) (hF : Fits l d) (hd : d ≤ 256) (h2 : l.length < 2) : PcD w0 B gr gm ap cp ps d l (oneP1 l) [] := by
  intro k ix iv la lv vb rest way w hi hy hr hf hk hs hl1 hl2
  refine ⟨fun _ => ?_, fun h => absurd (fun p hp => by cases hp) h⟩
  match l, h2, hF, hy, hr, hl1, hl2 with
  | [], _, _, hy, hr, _, _ =>
    refine (pgRPiece_none B gr vb rest way d w hd hr).mono (two_mono fun a b w' => ?_)
    rintro ⟨h1, h2, h3⟩
    refine ⟨h1, h2, ix, iv, ?_, RdG.below h3⟩
    have := hi.next h3
    simpa using this
  | [p], _, hF, hy, hr, hl1, hl2 =>
    have hp := hF.1 p (by simp)
    obtain ⟨ai, ci, hix⟩ := hi.oi.slice
    obtain ⟨av, cv, hiv⟩ := hi.ov.slice
    subst hix
    subst hiv
    refine pgRPiece_1 B gr vb ((p.1 ++ p.2) ++ rest) way d w _ hd hy.len hr fun v1 W hW h1 => ?_
    have hun := hy.under hd (p := p) (by simp)
    simp only [List.length_append, oneP1, List.length_cons] at hs
    rw [List.append_assoc] at h1
    simp only [List.length_cons, List.length_nil] at hl1 hl2
    refine (pgLeaf_any w0 B gr gm _ ps k ai av la.length ci lv.length cv la lv v1 p.1 p.2 rest way d W (hi.next hW) hp.1 hp.2 hy.len hun h1 (by omega) (by omega) (by omega)).mono ?_
    rintro e w' ⟨vr, ix', iv', rfl, hr', hi', hg'⟩
    exact ⟨vr, _, rfl, rfl, hr', ix', iv', hi', hg'.from hW⟩
theorem pc_two (d : Nat) (l : List Lf) (t0 t1 : By) (S0 S1 : List By) (hF : Fits l d) (h2 : 2 ≤ l.length) (ih0 : PcD w0 B gr gm ap cp ps (d + 1) (halfL l d false) t0 S0) (ih1 : PcD w0 B gr gm ap cp ps (d + 1) (halfL l d true) t1 S1) : PcD w0 B gr gm ap cp ps d l (2 :: (t0 ++ t1)) (S0 ++ S1) := by
  intro k ix iv la lv vb rest way w hi hy hr hf hk hs hl1 hl2
  have hd := hF.lt h2
  have hlen := half_len hF
  have hord := half_order hF
  rw [List.length_append] at hk
  simp only [List.length_append, List.length_cons] at hs
  have hr' : RdBb B w vb (2 :: (t0 ++ (t1 ++ rest))) := by rw [← List.append_assoc]; exact hr
  have hf0 : Free ps S0 := fun p hp => hf p (List.mem_append_left _ hp)
  have hf1 : Free ps S1 := fun p hp => hf p (List.mem_append_right _ hp)
  have A0 : ∀ v1 W, Below w.heap.size w W → RdBb B W v1 (t0 ++ (t1 ++ rest)) → ∀ W', Below W.heap.size W W' → _ := fun v1 W hW h1 W' hW' =>
    ih0 k ix iv la lv v1 (t1 ++ rest) way W' ((hi.next hW).next hW') (hy.left hd) (h1.nextP hW') hf0 (by omega) (by rw [List.length_append, List.length_append]; omega) (by omega) (by omega)
  have A1 : ∀ (a : Value) (i1 v1 : Value) (w1 W : World), RdBb B w1 a (t1 ++ rest) → RrI w0 B gr gm (.slice ap ps.length cp) ps (k + S0.length) i1 v1 (la ++ (halfL l d false).map (·.1)) (lv ++ (halfL l d false).map (·.2)) w1 → Below w1.heap.size w1 W → _ := fun a i1 v1 w1 W h1 h3 hW =>
    ih1 (k + S0.length) i1 v1 _ _ a rest (setI way (d : Int) true) W (h3.next hW) (hy.right hd) (h1.nextP hW) hf1 (by omega) (by rw [List.length_append]; omega) (by rw [List.length_append, List.length_map]; omega) (by rw [List.length_append, List.length_map]; omega)
  -- the first side's outcome, with its box beside it
  have hbox : ∀ (W1 W w' : World) (i1 v1 : Value) (g : Nat), Below w.heap.size w W1 → Below W1.heap.size W1 W → W1.heap.size ≤ g → Blk W g (cb way) 28 → RdG gr ix iv W i1 v1 w' → Blk w' g (cb way) 28 := fun W1 W w' i1 v1 g hW1 hW hg hb hG => by
    have hiW := (hi.next hW1).next hW
    refine hG.blk hb (fun e => ?_) (fun e => ?_) (fun e => ?_)
    · have h1 := hiW.blk
      rw [e] at hb
      unfold Blk at h1 hb
      rw [h1] at hb
      simp only [Option.some.injEq, Obj.cells.injEq] at hb
      exact absurd hb.2.1 (by decide)
    · have h3 := (hi.oi.lt g e).2; have h4 := hW1.size; omega
    · have h3 := (hi.ov.lt g e).2; have h4 := hW1.size; omega
  refine ⟨fun hS => ?_, fun hS => ?_⟩
  · have hS0 : ∀ p ∈ S0, p ∈ ps := fun p hp => hS p (List.mem_append_left _ hp)
    have hS1 : ∀ p ∈ S1, p ∈ ps := fun p hp => hS p (List.mem_append_right _ hp)
    refine pgRPiece_2 B gr vb _ way d w _ (by omega) hy.len hr' fun v1 W1 hW1 h1 => ?_
    refine pgSides_ok gr v1 way d W1 (fun a w1 => ∃ i1 u1, RdBb B w1 a (t1 ++ rest) ∧ RrI w0 B gr gm (.slice ap ps.length cp) ps (k + S0.length) i1 u1 (la ++ (halfL l d false).map (·.1)) (lv ++ (halfL l d false).map (·.2)) w1 ∧ RdG gr ix iv w i1 u1 w1) _ (by omega) hy.len (fun W hW => ?_) (fun a w1 W hP hW => ?_)
    · refine ((A0 v1 W1 hW1 h1 W hW).1 hS0).mono (two_mono fun a b w' => ?_)
      rintro ⟨e1, e2, i1, u1, e3, e4⟩
      exact ⟨e1, ⟨i1, u1, e2, e3, (e4.from hW).from hW1⟩, fun g hg hb => hbox W1 W w' i1 u1 g hW1 hW hg hb e4⟩
    · obtain ⟨i1, u1, e2, e3, e4⟩ := hP
      refine ((A1 a i1 u1 w1 W e2 e3 hW).1 hS1).mono (two_mono fun a' b' w' => ?_)
      rintro ⟨f1, f2, i2, u2, f3, f4⟩
      refine ⟨f1, f2, i2, u2, ?_, e4.trans (f4.from hW)⟩
      rw [List.length_append, ← Nat.add_assoc]
      rw [hord, List.map_append, List.map_append, ← List.append_assoc, ← List.append_assoc]
      exact f3
  · by_cases hS0 : ∀ p ∈ S0, p ∈ ps
    · have hS1 : ¬ ∀ p ∈ S1, p ∈ ps := fun h => hS fun p hp => (List.mem_append.1 hp).elim (hS0 p) (h p)
      refine pgRPiece_2 B gr vb _ way d w _ (by omega) hy.len hr' fun v1 W1 hW1 h1 => ?_
      refine pgSides_ok gr v1 way d W1 (fun a w1 => ∃ i1 u1, RdBb B w1 a (t1 ++ rest) ∧ RrI w0 B gr gm (.slice ap ps.length cp) ps (k + S0.length) i1 u1 (la ++ (halfL l d false).map (·.1)) (lv ++ (halfL l d false).map (·.2)) w1) _ (by omega) hy.len (fun W hW => ?_) (fun a w1 W hP hW => ?_)
      · refine ((A0 v1 W1 hW1 h1 W hW).1 hS0).mono (two_mono fun a b w' => ?_)
        rintro ⟨e1, e2, i1, u1, e3, e4⟩
        exact ⟨e1, ⟨i1, u1, e2, e3⟩, fun g hg hb => hbox W1 W w' i1 u1 g hW1 hW hg hb e4⟩
      · obtain ⟨i1, u1, e2, e3⟩ := hP
        exact (A1 a i1 u1 w1 W e2 e3 hW).2 hS1
    · refine pgRPiece_2 B gr vb _ way d w _ (by omega) hy.len hr' fun v1 W1 hW1 h1 => ?_
      exact pgSides_no gr v1 way d W1 (Below B w0) (by omega) hy.len fun W hW => (A0 v1 W1 hW1 h1 W hW).2 hS0
theorem pc_link (hM : PsM w0 B ap ps) (hn : ps.length < 1000000) (d : Nat) (l : List Lf) (t : By) (S : List By) (h2 : 2 ≤ l.length) (ht : t.length ≤ 512) (hp : Pc d l t S) (ih : PcD w0 B gr gm ap cp ps d l t S) : PcD w0 B gr gm ap cp ps d l (3 :: dig t) (t :: S) := by
  intro k ix iv la lv vb rest way w hi hy hr hf hk hs hl1 hl2
  have hd := hp.fits.lt h2
  rw [List.length_cons] at hk
  simp only [List.length_append, List.length_cons] at hs
  obtain ⟨ai, ci, hix⟩ := hi.oi.slice
  subst hix
  have hfS : Free ps S := fun p hp => hf p (List.mem_cons_of_mem _ hp)
  have hft := plK_find (ps := ps) (t := t) (hf t (by simp))
  have hpos := hp.pos
  -- the page's own reading
  have IH : ∀ (i : Nat) (vj : Value) (W W' : World), RrI w0 B gr gm (.slice ap ps.length cp) ps (k + 1) (.slice ai la.length ci) iv la lv W → RdBb B W vj t → Below W.heap.size W W' → _ := fun i vj W W' h1 h3 hW =>
    ih (k + 1) (.slice ai la.length ci) iv la lv vj [] way W' (h1.next hW) hy (by rw [List.append_nil]; exact h3.nextP hW) hfS (by omega) (by rw [List.append_nil]; omega) hl1 hl2
  refine ⟨fun hS => ?_, fun hS => ?_⟩
  · have hin : t ∈ ps := hS t (by simp)
    have hSS : ∀ p ∈ S, p ∈ ps := fun p hp => hS p (List.mem_cons_of_mem _ hp)
    obtain ⟨_, i, hpl, hil, hit⟩ := hft.resolve_right (fun h => h.1 hin)
    refine pgRPiece_3 B gr vb (dig t ++ rest) way d w _ (by omega) hy.len hr fun v1 W1 hW1 h1 => ?_
    refine (pgLinked_ok w0 B gr gm ap ps.length cp ps k ai la.length ci iv la lv v1 (dig t) rest way d W1 (hi.next hW1) rfl (len_dig' _) hy.len h1 (by omega) (by omega) hn (k + 1 + S.length) (la ++ l.map (·.1)) (lv ++ l.map (·.2)) (by rw [List.length_append, List.length_map]; omega) (by rw [List.length_append, List.length_map]; omega) fun W hW => ?_).mono (two_mono fun a b w' => ?_)
    · obtain ⟨b, off, vj, hap, hrow, hrd⟩ := hM W hW.bel i hil (by rw [hit]; exact hpos)
      rw [hit] at hrd
      obtain ⟨bj, oj, cj, hvj, _⟩ := hrd.at hpos
      refine pgPage_ok w0 B gr gm ap ps.length cp ps (k + 1) _ iv la lv (dig t) way d W hW (len_dig' _) hy.len i b off vj (fun w' => ∃ ix' iv', RrI w0 B gr gm (.slice ap ps.length cp) ps (k + 1 + S.length) ix' iv' (la ++ l.map (·.1)) (lv ++ l.map (·.2)) w' ∧ RdG gr (.slice ai la.length ci) iv W ix' iv' w') hpl hil hap hrow ⟨_, _, _, hvj⟩ fun W' hW' => ?_
      refine ((IH i vj W W' hW hrd hW').1 hSS).mono (two_mono fun a b w' => ?_)
      rintro ⟨e1, e2, ix', iv', e3, e4⟩
      obtain ⟨ad, c, e5, _⟩ := e2.1
      exact ⟨e1, ⟨ad, c, e5⟩, ix', iv', e3, e4.from hW'⟩
    · rintro ⟨e1, e2, ix', iv', e3, e4⟩
      refine ⟨e1, e2, ix', iv', ?_, e4.from hW1⟩
      rw [List.length_cons, show k + (S.length + 1) = k + 1 + S.length by omega]
      exact e3
  · refine pgRPiece_3 B gr vb (dig t ++ rest) way d w _ (by omega) hy.len hr fun v1 W1 hW1 h1 => ?_
    refine pgLinked_no w0 B gr gm ap ps.length cp ps k ai la.length ci iv la lv v1 (dig t) rest way d W1 (hi.next hW1) rfl (len_dig' _) hy.len h1 (by omega) (by omega) hn fun W hW => ?_
    rcases hft with ⟨hin, i, hpl, hil, hit⟩ | ⟨hin, hpl⟩
    · have hSS : ¬ ∀ p ∈ S, p ∈ ps := fun h => hS fun p hp => by
        rcases List.mem_cons.1 hp with rfl | hp
        · exact hin
        · exact h p hp
      obtain ⟨b, off, vj, hap, hrow, hrd⟩ := hM W hW.bel i hil (by rw [hit]; exact hpos)
      rw [hit] at hrd
      obtain ⟨bj, oj, cj, hvj, _⟩ := hrd.at hpos
      refine pgPage_no w0 B gr gm ap ps.length cp ps (k + 1) _ iv la lv (dig t) way d W hW (len_dig' _) hy.len i b off vj (Below B w0) hpl hil hap hrow ⟨_, _, _, hvj⟩ fun W' hW' => ?_
      refine ((IH i vj W W' hW hrd hW').2 hSS).mono (two_mono fun a b w' => ?_)
      rintro ⟨e1, e2⟩
      exact ⟨e1, trivial, e2⟩
    · refine (pgPage_none w0 B gr gm ap ps.length cp ps (k + 1) _ iv la lv (dig t) way d W hW (len_dig' _) hpl).mono ?_
      rintro e w' ⟨e1, e2⟩
      exact ⟨e1, hW.bel.trans (e2.mono hW.ge)⟩
/-- a piece that reads back is read so -/
theorem piece_any (hM : PsM w0 B ap ps) (hn : ps.length < 1000000) {d : Nat} {l : List Lf} {t : By} {S : List By} (h : Pc d l t S) : PcD w0 B gr gm ap cp ps d l t S := by
  induction h with
  | few d l h1 h2 h3 => exact pc_few d l h1 h2 h3
  | two d l t0 t1 S0 S1 h1 h2 _ _ i0 i1 => exact pc_two d l t0 t1 S0 S1 h1 h2 i0 i1
  | link d l t S h2 h3 hp ih => exact pc_link hM hn d l t S h2 h3 hp ih
end
end Go.Proofs.YtphmmnffgknkcaaDoor
/- The walk of pages.appendPages (layer 17). -/
namespace Go.Proofs.YtphmmnffgknkcaaDoor
open Go.RowKit
set_option maxRecDepth 100000
theorem OwnX.ne_blk {w : World} {base g : Nat} {v : Value} {us cs : List Value} {t : TypeId} (h : OwnX w base v us) (hb : Blk w g cs t) (ht : t ≠ 37) : v.ownBlock ≠ some g := by
  obtain ⟨_, h2⟩ := h
  intro hk
  rcases h2 with ⟨rfl, _⟩ | ⟨g2, cap, cur, rfl, hg, hh, _⟩
  · simp [Value.ownBlock] at hk
  · simp only [Value.ownBlock, Option.some.injEq] at hk
    subst hk
    unfold Blk at hb
    rw [hh] at hb
    simp only [Option.some.injEq, Obj.cells.injEq] at hb
    exact ht hb.2.1.symm
theorem PgS.fresh {W W' : World} {base : Nat} {v : Value} {us : List Value} {ps : List By} {X Y : Nat → Prop} (h : PgS W base v us ps X) (hb : Below W.heap.size W W') (hY : ∀ k, Y k → X k ∨ W.heap.size ≤ k) : PgS W' base v us ps Y :=
  (h.weak (Y := Y) fun k hk hy => (hY k hy).resolve_right (by omega)).next hb
theorem PgS.only {W W' : World} {base g : Nat} {v : Value} {us : List Value} {ps : List By} {X : Nat → Prop} (h : PgS W base v us ps X) (hg : X g) (hv : v.ownBlock ≠ some g) (ho : Only g W W') : PgS W' base v us ps X :=
  ⟨h.own.same fun k hk => ho.block k (fun e => hv (e ▸ hk)) (h.own.lt k hk).2, h.len, fun j u hj => ⟨(h.good j u hj).1.sameP fun k hk => ho.block k (fun e => ((h.good j u hj).2 k hk).2.2 (e ▸ hg)) ((h.good j u hj).2 k hk).1, fun k hk => ⟨Nat.lt_of_lt_of_le ((h.good j u hj).2 k hk).1 ho.size, ((h.good j u hj).2 k hk).2⟩⟩⟩
theorem GrV.then_new {w w1 w2 : World} {v v1 : Value} {g : Nat} (h : GrV w v w1 v1) (ho : Only g w1 w2) (hg : w.heap.size ≤ g) : GrV w v w2 v1 :=
  ⟨h.mt.trans (fun k hk (e : k = g) => by omega) (ho.mut (P := fun k => k = g) rfl), h.lies⟩
theorem GrV.side {w w1 w2 : World} {va va1 va2 vb : Value} (h : GrV w va w1 va1) (m : Mut (fun k => vb.ownBlock = some k ∨ va1.ownBlock = some k) w1 w2) (hb : ∀ k, vb.ownBlock = some k → w.heap.size ≤ k) (hl : ∀ k, va2.ownBlock = some k → va1.ownBlock = some k ∨ w1.heap.size ≤ k) : GrV w va w2 va2 :=
  ⟨h.mt.trans (fun k hk e => e.elim (fun e => by have := hb k e; omega) fun e => (h.lies k e).resolve_right (by omega)) m, fun k hk => (hl k hk).elim (h.lies k) fun e => Or.inr (Nat.le_trans h.mt.size e)⟩
theorem GrV.one {w w1 w2 : World} {va va1 va2 : Value} (h : GrV w va w1 va1) (k : GrV w1 va1 w2 va2) : GrV w va w2 va2 := h.trans k
/-- a place in a row of slices that is the call's own -/
theorem wpSeq_idxX0 {ops : Array Oper} {Q : Exit → Act → World → Prop} {rest : List Oper} {o : Oper} {a : Act} {w : World} (x y : Operand) (b n c k : Nat) (hk : k < n) (ho : o.op = .indexAddr 29 x y) (hx : a.eval x = .slice (some ⟨b, 0, none⟩) n c) (hy : a.eval y = .int .i64 (k : Int)) (hw : Region.wanted o (yielded ops a.tmps) = true)
    (h : wpList Tryd.prog ops Q rest (a.put o.dst (.pointer (some ⟨b, k, none⟩))) w) : wpList Tryd.prog ops Q (o :: rest) a w :=
  wpSeq_idxX x y b 0 n c k hk ho hx hy hw (by rw [Nat.zero_add]; exact h)
theorem pgPiece_new (base : Nat) (vl : Value) (l : List Lf) (d : Nat) (W : World) (hd : d ≤ 256) (hF : Fits l d) (hR : RdLb base W vl l) (hb : base ≤ W.heap.size) (hl : l.length < 100000) :
    Calls Tryd.prog 47 #[.slice none 0 0, vl, .int .i64 (d : Int)] W fun e w' => ∃ a n c r, e = .returned (.slice a n c) ∧ OwnB w' base (.slice a n c) r ∧ r.length = n ∧ Below W.heap.size W w' ∧ (∀ k, (Value.slice a n c).ownBlock = some k → W.heap.size ≤ k) ∧ PieceR [] (wholeL d l) r := by
  refine (pgPiece_any (256 - d) d (by omega) base vl l _ [] W hF hR (OwnB.nil _ _) hb hl (by decide)).mono ?_
  rintro e w' ⟨v, r, rfl, ho, hg, hp⟩
  obtain ⟨a, c, hv⟩ := ho.formP
  subst hv
  exact ⟨a, r.length, c, r, rfl, ho, rfl, hg.mt.below (Nat.le_refl _) (fun k e => by cases e), fun k e => (hg.lies k e).resolve_left (fun e => by cases e), hp⟩
def PsRes (base : Nat) (va : Value) (ps : List By) (l : List Lf) (d : Nat) (X : Nat → Prop) (w : World) (e : Ending) (w' : World) : Prop := ∃ va' us', e = .returned (.tuple #[.agg (cb (dig (topPg d l))).toArray, va']) ∧ PgS w' base va' us' (ps ++ saveL d l) X ∧ GrV w va w' va'
set_option maxHeartbeats 8000000 in
theorem pgPages_one (base : Nat) (av : Option Addr) (nv cv : Nat) (vl : Value) (us : List Value) (ps : List By) (l : List Lf) (X : Nat → Prop) (d : Nat) (w : World) (hd : d ≤ 256) (hK : KOk w) (hKB : 1 < base) (hF : Fits l d) (hR : RdLb base w vl l) (hP : PgS w base (.slice av nv cv) us ps X) (hb : base ≤ w.heap.size) (hX : ∀ k, X k → k < w.heap.size) (hll : l.length < 100000) (hps : ps.length + (saveL d l).length < 100000) (hnv : nv = ps.length) (hW : (wholeL d l).length ≤ 512) :
    Calls Tryd.prog 23 #[.slice av nv cv, vl, .int .i64 (d : Int)] w (PsRes base (.slice av nv cv) ps l d X w) := by
  obtain ⟨dg, HDG⟩ : ∃ x, Hid (x = dig (topPg d l)) := ⟨_, rfl⟩
  have HDL : Hid (dg.length = 32) := by show _ = _; rw [HDG.out]; exact len_dig' _
  have HK : Hid (KOk w) := hK
  have HKB : Hid (1 < base) := hKB
  have HF : Hid (Fits l d) := hF
  have HR : Hid (RdLb base w vl l) := hR
  have HP0 : Hid (PgS w base (.slice av nv cv) us ps X) := hP
  have HB : Hid (base ≤ w.heap.size) := hb
  have HX : Hid (∀ k, X k → k < w.heap.size) := hX
  have HLL : Hid (l.length < 100000) := hll
  have HPS : Hid (ps.length + (saveL d l).length < 100000) := hps
  have HNV : Hid (nv = ps.length ∧ us.length = ps.length ∧ us.length < 1000000) := ⟨hnv, hP.len, by rw [hP.len]; omega⟩
  have HT : Hid (topPg d l = wholeL d l ∧ saveL d l = [topPg d l]) := ⟨top_one hW, by rw [save_one hW, top_one hW]⟩
  have HW : Hid ((wholeL d l).length ≤ 512) := hW
  clear hK hKB hF hR hP hb hX hll hps hW hnv
  go_enter Tryd.func23, Tryd.ntmps23
  have tk0 : Hid True := trivial
  have tk1 : Hid True := trivial
  have tk2 : Hid True := trivial
  have tk3 : Hid True := trivial
  have tk4 : Hid True := trivial
  have tk5 : Hid True := trivial
  go_wp2_with (first
    | (clear tk0; with_reducible refine wpSeq_allocD ?_ ?_ ?_
       · rfl
       · rfl
       intro g6 w1 nn
       have hb : Below w.heap.size w w1 := nn.below
       have HG6 : Hid (w.heap.size ≤ g6) := nn.ge
       have HN6 : Hid (Blk w1 g6 (cb zb32) 28) := nn.blk
       replace HK : Hid (KOk w1) := HK.out.below hb HK.out.lt
       replace HR : Hid (RdLb base w1 vl l) := HR.out.next hb
       have HP : Hid (PgS w1 base (.slice av nv cv) us ps (fun k => X k ∨ k = g6)) := HP0.out.fresh hb fun k hk => hk.imp_right fun e => by rw [e]; exact nn.ge
       have HBW : Hid (Below w.heap.size w w1) := hb
       replace HB : Hid (base ≤ w1.heap.size) := Nat.le_trans HB.out hb.size
       clear nn hb)
    | (clear tk1; go_at_call 47; refine (pgPiece_new base vl l d _ hd HF.out HR.out HB.out HLL.out).mono ?_; rintro e w2 ⟨a1, n1, c1, r, rfl, ho, hn, hb, hlies, hp⟩
       have hr : r = topPg d l := by rw [HT.out.1]; exact hp.1 (by simpa using HW.out)
       subst hr
       have HU : Hid (∀ k, (Value.slice a1 n1 c1).ownBlock = some k → k < w2.heap.size ∧ (Value.slice av nv cv).ownBlock ≠ some k ∧ ¬ (X k ∨ k = g6)) := fun k hk => ⟨(ho.ltP k hk).2, fun e => (HP.out.next hb).own.ne_bytes ho k e hk, fun e => by
         have h1 := hlies k hk
         have h2 := HN6.out.lt
         have h3 := HBW.out.size
         rcases e with e | e
         · have := HX.out k e; omega
         · omega⟩
       have hle : (n1 : Int) ≤ 512 := by have := HW.out; rw [← HT.out.1, hn] at this; omega
       have HLT : Hid ((topPg d l).length ≤ 512) := by have := HW.out; rw [← HT.out.1] at this; exact this
       replace HK : Hid (KOk w2) := HK.out.below hb HK.out.lt
       replace HR : Hid (RdLb base w2 vl l) := HR.out.next hb
       replace HP : Hid (PgS w2 base (.slice av nv cv) us ps (fun k => X k ∨ k = g6)) := HP.out.next hb
       replace HN6 : Hid (Blk w2 g6 (cb zb32) 28) := HN6.out.below hb HN6.out.lt
       replace HBW : Hid (Below w.heap.size w w2) := HBW.out.trans (hb.mono HBW.out.size)
       replace HB : Hid (base ≤ w2.heap.size) := Nat.le_trans HB.out hb.size
       have HRD : Hid (Reads w2 (.slice a1 n1 c1) (topPg d l)) := ho.reads
       clear ho hn hb hlies hp)
    | (clear tk2; go_at_call 48; refine (tOf_any (.slice a1 n1 c1) (topPg d l) _ HK.out HRD.out (Nat.lt_of_le_of_lt HLT.out (by decide))).mono ?_; rintro e w3 ⟨rfl, hb⟩
       rw [← HDG.out]
       replace HU : Hid (∀ k, (Value.slice a1 n1 c1).ownBlock = some k → k < w3.heap.size ∧ (Value.slice av nv cv).ownBlock ≠ some k ∧ ¬ (X k ∨ k = g6)) := fun k hk => ⟨Nat.lt_of_lt_of_le (HU.out k hk).1 hb.size, (HU.out k hk).2⟩
       replace HK : Hid (KOk w3) := HK.out.below hb HK.out.lt
       replace HR : Hid (RdLb base w3 vl l) := HR.out.next hb
       replace HP : Hid (PgS w3 base (.slice av nv cv) us ps (fun k => X k ∨ k = g6)) := HP.out.next hb
       replace HN6 : Hid (Blk w3 g6 (cb zb32) 28) := HN6.out.below hb HN6.out.lt
       replace HBW : Hid (Below w.heap.size w w3) := HBW.out.trans (hb.mono HBW.out.size)
       replace HB : Hid (base ≤ w3.heap.size) := Nat.le_trans HB.out hb.size
       replace HRD : Hid (Reads w3 (.slice a1 n1 c1) (topPg d l)) := HRD.out.below hb
       clear hb)
    | (clear tk3; with_reducible refine wpSeq_buildX (.tmp 21) a1 n1 c1 ?_ ?_ ?_ ?_
       · rfl
       · rfl
       · rfl
       intro g4 w4 hy hge hb
       replace HU : Hid (∀ k, (Value.slice a1 n1 c1).ownBlock = some k → k < w4.heap.size ∧ (Value.slice av nv cv).ownBlock ≠ some k ∧ ¬ (X k ∨ k = g6)) := fun k hk => ⟨Nat.lt_of_lt_of_le (HU.out k hk).1 hb.size, (HU.out k hk).2⟩
       have HY : Hid (Blk w4 g4 [.slice a1 n1 c1] 37) := hy
       have H1C : Hid ((Value.slice a1 n1 c1).oneCell' = true) := rfl
       replace HK : Hid (KOk w4) := HK.out.below hb HK.out.lt
       replace HR : Hid (RdLb base w4 vl l) := HR.out.next hb
       replace HP : Hid (PgS w4 base (.slice av nv cv) us ps (fun k => X k ∨ k = g6)) := HP.out.next hb
       replace HN6 : Hid (Blk w4 g6 (cb zb32) 28) := HN6.out.below hb HN6.out.lt
       replace HBW : Hid (Below w.heap.size w w4) := HBW.out.trans (hb.mono HBW.out.size)
       replace HB : Hid (base ≤ w4.heap.size) := Nat.le_trans HB.out hb.size
       replace HRD : Hid (Reads w4 (.slice a1 n1 c1) (topPg d l)) := HRD.out.below hb
       clear hy hge hb)
    | (clear tk4; with_reducible refine wpSeq_appX (.tmp 20) (.tmp 22) base (.slice av nv cv) (.slice a1 n1 c1) us g4 HP.out.own HY.out H1C.out HNV.out.2.2 HB.out ?_ ?_ ?_ ?_ ?_
       · rfl
       · rfl
       · rfl
       · rfl
       intro v5 w5 ho hg
       have HP5 : Hid (PgS w5 base v5 (us ++ [.slice a1 n1 c1]) (ps ++ [topPg d l]) (fun k => X k ∨ k = g6)) := HP.out.more ho hg HRD.out HU.out
       replace HN6 : Hid (Blk w5 g6 (cb zb32) 28) := hg.mt.blk HN6.out fun e => HP.out.own.ne_blk HN6.out (by decide) e
       have HG : Hid (GrV w (.slice av nv cv) w5 v5) := (GrV.of_below HBW.out _).trans hg
       clear ho hg)
    | (clear tk5; with_reducible refine wpSeq_storeD (.tmp 6) (.tmp 19) g6 zb32 dg zb32_len HDL.out HN6.out ?_ ?_ ?_ ?_ ?_
       · rfl
       · rfl
       · rfl
       · rfl
       intro w6 h9
       have HN7 : Hid (Blk w6 g6 (cb dg) 28) := h9.blk
       have HO6 : Hid (Only g6 w5 w6) := h9.only
       clear h9))
  refine bodyPost_ret (results_row_tmp (by rfl) _ _ _ g6 28 (cb dg) _ v5 rfl rfl HN7.out Tryd.underlying28 rfl (by rw [cb_len, HDL.out]; exact info_digest)) rfl ?_
  refine ⟨v5, us ++ [.slice a1 n1 c1], by rw [← HDG.out], ?_, HG.out.then_new HO6.out HG6.out⟩
  rw [HT.out.2]
  exact ((HP5.out.only (Or.inr rfl) (HP5.out.own.ne_blk HN6.out (by decide)) HO6.out).weak fun k _ h => Or.inl h)
theorem set_place (ps q : List By) (p : By) : (ps ++ [[]] ++ q).set ps.length p = ps ++ p :: q := by
  rw [List.append_assoc, List.set_append_right (h := Nat.le_refl _), Nat.sub_self]; rfl
set_option maxHeartbeats 16000000 in
theorem pgPages_more (base : Nat) (av : Option Addr) (nv cv : Nat) (vl : Value) (us : List Value) (ps : List By) (l : List Lf) (X : Nat → Prop) (d : Nat) (w : World) (hd : d ≤ 256) (hK : KOk w) (hKB : 1 < base) (hF : Fits l d) (hR : RdLb base w vl l) (hP : PgS w base (.slice av nv cv) us ps X) (hb : base ≤ w.heap.size) (hX : ∀ k, X k → k < w.heap.size) (hll : l.length < 100000) (hps : ps.length + (saveL d l).length < 100000) (hnv : nv = ps.length) (IH : SdDoes (d + 1)) (hW : 512 < (wholeL d l).length) :
    Calls Tryd.prog 23 #[.slice av nv cv, vl, .int .i64 (d : Int)] w (PsRes base (.slice av nv cv) ps l d X w) := by
  have h2 := long_two hF hW
  obtain ⟨dg, HDG⟩ : ∃ x, Hid (x = dig (topPg d l)) := ⟨_, rfl⟩
  have HDL : Hid (dg.length = 32) := by show _ = _; rw [HDG.out]; exact len_dig' _
  have HK : Hid (KOk w) := hK
  have HKB : Hid (1 < base) := hKB
  have HF : Hid (Fits l d) := hF
  have HR : Hid (RdLb base w vl l) := hR
  have HP0 : Hid (PgS w base (.slice av nv cv) us ps X) := hP
  have HB : Hid (base ≤ w.heap.size) := hb
  have HX : Hid (∀ k, X k → k < w.heap.size) := hX
  have HLL : Hid (l.length < 100000) := hll
  have HPS : Hid (ps.length + (saveL d l).length < 100000) := hps
  have HNV : Hid (nv = ps.length ∧ us.length = ps.length ∧ us.length < 1000000) := ⟨hnv, hP.len, by rw [hP.len]; omega⟩
  have HIH : Hid (SdDoes (d + 1)) := IH
  have HD : Hid (2 ≤ l.length ∧ d < 256) := h2
  have HW : Hid (512 < (wholeL d l).length) := hW
  obtain ⟨d1, HD1⟩ : ∃ x, Hid (x = d + 1) := ⟨_, rfl⟩
  have rd : IntKind.i64.wrap ((d : Int) + 1) = (d1 : Int) := by rw [IntKind.wrap_i64, HD1.out]; omega
  have HT : Hid (topPg d l = 2 :: (sidePg d1 (halfL l d false) ++ sidePg d1 (halfL l d true)) ∧ saveL d l = topPg d l :: (restPg d1 (halfL l d false) ++ restPg d1 (halfL l d true))) := by
    rw [HD1.out]; exact ⟨top_more h2.2 hW, by rw [save_more h2.2 hW, top_more h2.2 hW]⟩
  have HN : Hid (ps.length + 1 + (restPg d1 (halfL l d false)).length + (restPg d1 (halfL l d true)).length < 100000) := by
    have := hps; rw [HT.out.2, List.length_cons, List.length_append] at this; show _ < _; omega
  rw [← HD1.out] at HIH
  clear hK hKB hF hR hP hb hX hll hps hW hnv IH h2
  go_enter Tryd.func23, Tryd.ntmps23
  have tk0 : Hid True := trivial
  have tk1 : Hid True := trivial
  have tk2 : Hid True := trivial
  have tk3 : Hid True := trivial
  have tk4 : Hid True := trivial
  have tk5 : Hid True := trivial
  have tk6 : Hid True := trivial
  have tk7 : Hid True := trivial
  have tk8 : Hid True := trivial
  have tk9 : Hid True := trivial
  have tk10 : Hid True := trivial
  have tk11 : Hid True := trivial
  go_wp2_with (first
    | (clear tk0; with_reducible refine wpSeq_allocD ?_ ?_ ?_
       · rfl
       · rfl
       intro g6 w1 nn
       have hb : Below w.heap.size w w1 := nn.below
       have HG6 : Hid (w.heap.size ≤ g6) := nn.ge
       have HN6 : Hid (Blk w1 g6 (cb zb32) 28) := nn.blk
       replace HK : Hid (KOk w1) := HK.out.below hb HK.out.lt
       replace HR : Hid (RdLb base w1 vl l) := HR.out.next hb
       have HP : Hid (PgS w1 base (.slice av nv cv) us ps (fun k => X k ∨ k = g6)) := HP0.out.fresh hb fun k hk => hk.imp_right fun e => by rw [e]; exact nn.ge
       have HBW : Hid (Below w.heap.size w w1) := hb
       replace HB : Hid (base ≤ w1.heap.size) := Nat.le_trans HB.out hb.size
       clear nn hb)
    | (clear tk1; go_at_call 47; refine (pgPiece_new base vl l d _ hd HF.out HR.out HB.out HLL.out).mono ?_; rintro e w2 ⟨a1, n1, c1, r, rfl, ho, hn, hb, hlies, hp⟩
       have hle : ¬ (n1 : Int) ≤ 512 := by have := hp.2.1 (by simpa using HW.out); omega
       replace HK : Hid (KOk w2) := HK.out.below hb HK.out.lt
       replace HR : Hid (RdLb base w2 vl l) := HR.out.next hb
       replace HP : Hid (PgS w2 base (.slice av nv cv) us ps (fun k => X k ∨ k = g6)) := HP.out.next hb
       replace HN6 : Hid (Blk w2 g6 (cb zb32) 28) := HN6.out.below hb HN6.out.lt
       replace HBW : Hid (Below w.heap.size w w2) := HBW.out.trans (hb.mono HBW.out.size)
       replace HB : Hid (base ≤ w2.heap.size) := Nat.le_trans HB.out hb.size
       clear ho hn hb hlies hp)
    | (clear tk2; with_reducible refine wpSeq_buildX (.const (.slice none 0 0)) none 0 0 ?_ ?_ ?_ ?_
       · rfl
       · rfl
       · rfl
       intro g4 w4 hy hge hb
       have HY : Hid (Blk w4 g4 [.slice none 0 0] 37) := hy
       have H1C : Hid ((Value.slice none 0 0).oneCell' = true) := rfl
       replace HK : Hid (KOk w4) := HK.out.below hb HK.out.lt
       replace HR : Hid (RdLb base w4 vl l) := HR.out.next hb
       replace HP : Hid (PgS w4 base (.slice av nv cv) us ps (fun k => X k ∨ k = g6)) := HP.out.next hb
       replace HN6 : Hid (Blk w4 g6 (cb zb32) 28) := HN6.out.below hb HN6.out.lt
       replace HBW : Hid (Below w.heap.size w w4) := HBW.out.trans (hb.mono HBW.out.size)
       replace HB : Hid (base ≤ w4.heap.size) := Nat.le_trans HB.out hb.size
       clear hy hge hb)
    | (clear tk3; with_reducible refine wpSeq_appX (.tmp 26) (.tmp 27) base (.slice av nv cv) (.slice none 0 0) us g4 HP.out.own HY.out H1C.out HNV.out.2.2 HB.out ?_ ?_ ?_ ?_ ?_
       · rfl
       · rfl
       · rfl
       · rfl
       intro v5 w5 ho hg
       have HP5 : Hid (PgS w5 base v5 (us ++ [.slice none 0 0]) (ps ++ [[]]) (fun k => X k ∨ k = g6)) := HP.out.more ho hg (Reads.nilP _) (fun k e => by cases e)
       replace HN6 : Hid (Blk w5 g6 (cb zb32) 28) := hg.mt.blk HN6.out fun e => HP.out.own.ne_blk HN6.out (by decide) e
       have HG : Hid (GrV w (.slice av nv cv) w5 v5) := (GrV.of_below HBW.out _).trans hg
       have hbb : Below base _ w5 := hg.below HB.out fun k hk => (HP.out.own.lt k hk).1
       replace HK : Hid (KOk w5) := HK.out.below hbb HKB.out
       replace HR : Hid (RdLb base w5 vl l) := HR.out.go hbb
       replace HB : Hid (base ≤ w5.heap.size) := Nat.le_trans HB.out hg.mt.size
       clear ho hg hbb)
    | (clear tk4; go_at_call 49; refine (pgPart_any base vl l d _ HR.out HF.out HD.out.2 (Nat.lt_of_lt_of_le (by decide) HD.out.1) HLL.out).mono ?_; rintro e w7 ⟨q0, q1, rfl, hr0, hr1, hb⟩
       have HR0 : Hid (RdLb base w7 q0 (halfL l d false)) := hr0
       have HR1 : Hid (RdLb base w7 q1 (halfL l d true)) := hr1
       replace HP5 : Hid (PgS w7 base v5 (us ++ [.slice none 0 0]) (ps ++ [[]]) (fun k => X k ∨ k = g6)) := HP5.out.next hb
       replace HK : Hid (KOk w7) := HK.out.below hb HK.out.lt
       replace HN6 : Hid (Blk w7 g6 (cb zb32) 28) := HN6.out.below hb HN6.out.lt
       replace HG : Hid (GrV w (.slice av nv cv) w7 v5) := HG.out.trans (GrV.of_below hb _)
       replace HB : Hid (base ≤ w7.heap.size) := Nat.le_trans HB.out hb.size
       clear hr0 hr1 hb)
    | (clear tk5; with_reducible refine wpSeq_buildY 2 (.const (.int .u8 2)) ?_ ?_ ?_ ?_
       · rfl
       · rfl
       · rfl
       intro g8 w8 hy hge hb
       have HO8 : Hid (OwnB w8 base (.slice (some ⟨g8, 0, none⟩) 1 1) [2]) := blk_own_y hy (Nat.le_trans HB.out hge)
       have HP8 : Hid (PgS w8 base v5 (us ++ [.slice none 0 0]) (ps ++ [[]]) (fun k => (X k ∨ k = g6) ∨ (Value.slice (some ⟨g8, 0, none⟩) 1 1).ownBlock = some k)) := HP5.out.fresh hb fun k hk => hk.imp_right fun e => by cases e; exact hge
       have HB8 : Hid (∀ k, (Value.slice (some ⟨g8, 0, none⟩) 1 1).ownBlock = some k → w.heap.size ≤ k) := fun k e => by cases e; exact Nat.le_trans HG.out.mt.size hge
       replace HR0 : Hid (RdLb base w8 q0 (halfL l d false)) := HR0.out.next hb
       replace HR1 : Hid (RdLb base w8 q1 (halfL l d true)) := HR1.out.next hb
       replace HK : Hid (KOk w8) := HK.out.below hb HK.out.lt
       replace HN6 : Hid (Blk w8 g6 (cb zb32) 28) := HN6.out.below hb HN6.out.lt
       replace HG : Hid (GrV w (.slice av nv cv) w8 v5) := HG.out.trans (GrV.of_below hb _)
       replace HB : Hid (base ≤ w8.heap.size) := Nat.le_trans HB.out hb.size
       have HX8 : Hid (∀ k, (X k ∨ k = g6) → k < w8.heap.size) := fun k hk => hk.elim (fun e => Nat.lt_of_lt_of_le (HX.out k e) HG.out.mt.size) fun e => by rw [e]; exact HN6.out.lt
       clear hy hge hb)
    | (clear tk6; go_at_call 50; refine (HIH.out base (.slice (some ⟨g8, 0, none⟩) 1 1) v5 q0 (us ++ [.slice none 0 0]) [2] (ps ++ [[]]) (halfL l d false) (fun k => X k ∨ k = g6) _ HK.out HKB.out (by rw [HD1.out]; exact HF.out.half _) HR0.out HO8.out HP8.out HB.out HX8.out (Nat.lt_of_le_of_lt (half_le _ _ _) HLL.out) (by have := HN.out; simp only [List.length_append, List.length_cons, List.length_nil]; omega) (by decide)).mono ?_; rintro e w9 ⟨vb9, va9, us9, rfl, ho, hp, hm, hl1, hl2⟩
       have HO9 : Hid (OwnB w9 base vb9 ([2] ++ sidePg d1 (halfL l d false))) := ho
       have HP9 : Hid (PgS w9 base va9 us9 ((ps ++ [[]]) ++ restPg d1 (halfL l d false)) (fun k => (X k ∨ k = g6) ∨ vb9.ownBlock = some k)) := hp
       have hbb : Below base _ w9 := mut_base hm HB.out HO8.out HP8.out.own
       replace HK : Hid (KOk w9) := HK.out.below hbb HKB.out
       replace HR1 : Hid (RdLb base w9 q1 (halfL l d true)) := HR1.out.go hbb
       replace HN6 : Hid (Blk w9 g6 (cb zb32) 28) := hm.blk HN6.out fun e => e.elim (fun e => HO8.out.ne_blk HN6.out (by decide) e) fun e => HP8.out.own.ne_blk HN6.out (by decide) e
       have HB9 : Hid (∀ k, vb9.ownBlock = some k → w.heap.size ≤ k) := fun k e => (hl1 k e).elim (HB8.out k) fun e => Nat.le_trans HG.out.mt.size e
       have HX9 : Hid (∀ k, (X k ∨ k = g6) → k < w9.heap.size) := fun k hk => Nat.lt_of_lt_of_le (HX8.out k hk) hm.size
       replace HG : Hid (GrV w (.slice av nv cv) w9 va9) := HG.out.side hm HB8.out hl2
       replace HB : Hid (base ≤ w9.heap.size) := Nat.le_trans HB.out hm.size
       clear ho hp hm hl1 hl2 hbb)
    | (clear tk7; go_at_call 50; refine (HIH.out base vb9 va9 q1 us9 ([2] ++ sidePg d1 (halfL l d false)) (ps ++ [[]] ++ restPg d1 (halfL l d false)) (halfL l d true) (fun k => X k ∨ k = g6) _ HK.out HKB.out (by rw [HD1.out]; exact HF.out.half _) HR1.out HO9.out HP9.out HB.out HX9.out (Nat.lt_of_le_of_lt (half_le _ _ _) HLL.out) (by have := HN.out; simp only [List.length_append, List.length_cons, List.length_nil]; omega) (by rw [List.length_append]; have := (side_len (d := d1) (HF.out.half false).1).2; simp only [List.length_cons, List.length_nil]; omega)).mono ?_; rintro e w10 ⟨vb10, va10, us10, rfl, ho, hp, hm, hl1, hl2⟩
       have HO10 : Hid (OwnB w10 base vb10 (([2] ++ sidePg d1 (halfL l d false)) ++ sidePg d1 (halfL l d true))) := ho
       have HP10 : Hid (PgS w10 base va10 us10 ((ps ++ [[]] ++ restPg d1 (halfL l d false)) ++ restPg d1 (halfL l d true)) (fun k => (X k ∨ k = g6) ∨ vb10.ownBlock = some k)) := hp
       have hbb : Below base _ w10 := mut_base hm HB.out HO9.out HP9.out.own
       replace HK : Hid (KOk w10) := HK.out.below hbb HKB.out
       replace HN6 : Hid (Blk w10 g6 (cb zb32) 28) := hm.blk HN6.out fun e => e.elim (fun e => HO9.out.ne_blk HN6.out (by decide) e) fun e => HP9.out.own.ne_blk HN6.out (by decide) e
       have HB10 : Hid (∀ k, vb10.ownBlock = some k → w.heap.size ≤ k) := fun k e => (hl1 k e).elim (HB9.out k) fun e => Nat.le_trans HG.out.mt.size e
       have HX10 : Hid (∀ k, (X k ∨ k = g6) → k < w10.heap.size) := fun k hk => Nat.lt_of_lt_of_le (HX9.out k hk) hm.size
       replace HG : Hid (GrV w (.slice av nv cv) w10 va10) := HG.out.side hm HB9.out hl2
       replace HB : Hid (base ≤ w10.heap.size) := Nat.le_trans HB.out hm.size
       clear ho hp hm hl1 hl2 hbb
       have hpl : ps.length < us10.length := by rw [HP10.out.len]; simp only [List.length_append, List.length_cons, List.length_nil]; omega
       obtain ⟨ga, ca, hva, hq1, hq2⟩ := HP10.out.own.at (j := ps.length) (u := us10[ps.length]) (List.getElem?_eq_getElem hpl)
       clear hq1 hq2
       obtain ⟨na, HNA⟩ : ∃ x, Hid (x = us10.length) := ⟨_, rfl⟩
       rw [← HNA.out] at hva
       obtain ⟨ab, cbv, hvb⟩ := HO10.out.formP
       obtain ⟨nb, HNB⟩ : ∃ x : Nat, Hid (x = (([2] : By) ++ sidePg d1 (halfL l d false) ++ sidePg d1 (halfL l d true)).length) := ⟨_, rfl⟩
       rw [← HNB.out] at hvb
       subst hva
       subst hvb
       have HNK : Hid (nv < na ∧ nv < us10.length) := by rw [HNA.out, HNV.out.1]; exact ⟨hpl, hpl⟩
       clear hpl)
    | (clear tk8; with_reducible refine wpSeq_idxX0 (.tmp 53) (.tmp 54) ga na ca nv HNK.out.1 ?_ ?_ ?_ ?_ ?_
       · rfl
       · rfl
       · rfl
       · rfl
       have HI : Hid True := trivial)
    | (clear tk9; with_reducible refine wpSeq_storeX (.tmp 56) (.tmp 55) base ga na ca nv us10 ab nb cbv HP10.out.own HNK.out.2 ?_ ?_ ?_ ?_ ?_
       · rfl
       · rfl
       · rfl
       · rfl
       intro w11 ho hg
       have hne : ga ≠ g6 := fun e => HP10.out.own.ne_blk HN6.out (by decide) (by rw [← e]; rfl)
       have HTE : Hid ([2] ++ sidePg d1 (halfL l d false) ++ sidePg d1 (halfL l d true) = topPg d l) := by show _ = _; rw [HT.out.1]; simp
       have hrd : Reads w10 (.slice ab nb cbv) (topPg d l) := by rw [← HTE.out]; exact HO10.out.reads
       have hne2 : ∀ k, (Value.slice ab nb cbv).ownBlock = some k → ga ≠ k := fun k hk e => HP10.out.own.ne_bytes HO10.out k (by rw [e]; rfl) hk
       have hapt : ∀ k, (Value.slice ab nb cbv).ownBlock = some k → k < w10.heap.size ∧ ga ≠ k ∧ ¬ (X k ∨ k = g6) := fun k hk => ⟨(HO10.out.ltP k hk).2, hne2 k hk, fun e => by
         rcases e with e | e
         · have h1 := HX.out k e; have h2 := HB10.out k hk; omega
         · subst e; exact HO10.out.ne_blk HN6.out (by decide) hk⟩
       have HP11 : Hid (PgS w11 base (.slice (some ⟨ga, 0, none⟩) na ca) (us10.set nv (.slice ab nb cbv)) ((ps ++ [[]] ++ restPg d1 (halfL l d false) ++ restPg d1 (halfL l d true)).set nv (topPg d l)) (fun k => X k ∨ k = g6)) := (HP10.out.weak fun k _ h => Or.inl h).put HNK.out.2 ho hg hrd hapt
       have hgl : base ≤ ga ∧ ga < w10.heap.size := HP10.out.own.lt ga rfl
       have hbb : Below base w10 w11 := hg.below hgl.1 HB.out
       replace HK : Hid (KOk w11) := HK.out.below hbb HKB.out
       replace HN6 : Hid (Blk w11 g6 (cb zb32) 28) := HN6.out.only hg (Ne.symm hne)
       have HRD : Hid (Reads w11 (.slice ab nb cbv) (topPg d l)) := hrd.sameP fun k hk => hg.block k (fun e => hne2 k hk e.symm) (HO10.out.ltP k hk).2
       replace HG : Hid (GrV w (.slice av nv cv) w11 (.slice (some ⟨ga, 0, none⟩) na ca)) := HG.out.trans ⟨hg.mut (P := fun k => (Value.slice (some ⟨ga, 0, none⟩) na ca).ownBlock = some k) rfl, fun k e => Or.inl e⟩
       replace HB : Hid (base ≤ w11.heap.size) := Nat.le_trans HB.out hg.size
       have HTL : Hid ((topPg d l).length < 2305843009213693952) := by
         show _ < _
         rw [HT.out.1, List.length_cons, List.length_append]
         have h1 := (side_len (d := d1) (HF.out.half false).1).2
         have h2 := (side_len (d := d1) (HF.out.half true).1).2
         omega
       clear ho hg hne hrd hne2 hapt hgl hbb)
    | (clear tk10; go_at_call 48; refine (tOf_any (.slice ab nb cbv) (topPg d l) _ HK.out HRD.out HTL.out).mono ?_; rintro e w12 ⟨rfl, hb⟩
       rw [← HDG.out]
       replace HP11 : Hid (PgS w12 base (.slice (some ⟨ga, 0, none⟩) na ca) (us10.set nv (.slice ab nb cbv)) ((ps ++ [[]] ++ restPg d1 (halfL l d false) ++ restPg d1 (halfL l d true)).set nv (topPg d l)) (fun k => X k ∨ k = g6)) := HP11.out.next hb
       replace HK : Hid (KOk w12) := HK.out.below hb HK.out.lt
       replace HN6 : Hid (Blk w12 g6 (cb zb32) 28) := HN6.out.below hb HN6.out.lt
       replace HG : Hid (GrV w (.slice av nv cv) w12 (.slice (some ⟨ga, 0, none⟩) na ca)) := HG.out.trans (GrV.of_below hb _)
       replace HB : Hid (base ≤ w12.heap.size) := Nat.le_trans HB.out hb.size
       clear hb)
    | (clear tk11; with_reducible refine wpSeq_storeD (.tmp 6) (.tmp 58) g6 zb32 dg zb32_len HDL.out HN6.out ?_ ?_ ?_ ?_ ?_
       · rfl
       · rfl
       · rfl
       · rfl
       intro w13 h9
       have HN7 : Hid (Blk w13 g6 (cb dg) 28) := h9.blk
       have HO13 : Hid (Only g6 w12 w13) := h9.only
       clear h9))
  refine bodyPost_ret (results_row_tmp (by rfl) _ _ _ g6 28 (cb dg) _ (.slice (some ⟨ga, 0, none⟩) na ca) rfl rfl HN7.out Tryd.underlying28 rfl (by rw [cb_len, HDL.out]; exact info_digest)) rfl ?_
  refine ⟨_, us10.set nv (.slice ab nb cbv), by rw [← HDG.out], ?_, HG.out.then_new HO13.out HG6.out⟩
  have hp := (HP11.out.only (Or.inr rfl) (HP11.out.own.ne_blk HN6.out (by decide)) HO13.out).weak (Y := X) fun k _ h => Or.inl h
  rw [HNV.out.1, List.append_assoc (ps ++ [[]]), set_place] at hp
  rw [HT.out.2, HNV.out.1]
  exact hp
theorem pgPages_any : ∀ (f d : Nat), 256 = d + f → PsDoes d
  | f, d, hf => fun base va vl us ps l X w hK hKB hF hR hP hb hX hll hps => by
    obtain ⟨av, cv, hva⟩ := hP.own.form
    subst hva
    rcases Nat.lt_or_ge 512 (wholeL d l).length with hW | hW
    · have h2 := long_two hF hW
      match f with
      | 0 => omega
      | f + 1 => exact pgPages_more base av us.length cv vl us ps l X d w (by omega) hK hKB hF hR hP hb hX hll hps hP.len (pgSide_any (d + 1) (by omega) (pgPages_any f (d + 1) (by omega))) hW
    · exact pgPages_one base av us.length cv vl us ps l X d w (by omega) hK hKB hF hR hP hb hX hll hps hP.len hW
end Go.Proofs.YtphmmnffgknkcaaDoor
/- A region that draws its order, in a round of a loop over a function: no other than anywhere. -/
namespace Go.Proofs.YtphmmnffgknkcaaDoor
open Go.RowKit
set_option maxRecDepth 100000
theorem upon_round {P : Program} {o : Oper} {a : Act} {K : Act → World → Prop} {Q : Exit → Act → World → Prop} {l n : Nat} : ∀ {r : Result Next}, o.upon P a K Q r → o.uponIn (Fence.wide.inRound l) n P a K Q r
  | .ok (.value _) _, h => h
  | .ok .skip _, h => h
  | .ok (.defer _) _, h => h
  | .ok (.enter _ _) _, h => ⟨fun hx => (nomatch hx), CallsIn.inRound l (callsIn_wide.2 h)⟩
  | .ok (.row _ _) _, h => ⟨fun hx => (nomatch hx), fun c cs _ => by
      obtain ⟨v, wq, r, s⟩ := h c cs
      exact ⟨v, wq, r, stepsIn_wide.2 s⟩⟩
  | .halt (.panic _) _, h => h
/-- no operation is put off -/
def noDefer (ops : Array Oper) : Bool := ops.toList.all fun o => match o.op with | .defer _ => false | _ => true
theorem noDefer_at {ops : Array Oper} (h : noDefer ops = true) {i : Nat} {o : Oper} (hi : ops[i]? = some o) (c : _) : o.op ≠ .defer c := by
  intro he
  have h1 := List.all_eq_true.1 h o (by rw [Array.mem_toList_iff]; exact Array.mem_of_getElem? hi)
  rw [he] at h1
  cases h1
theorem wpList_round {P : Program} {ops : Array Oper} {Q : Exit → Act → World → Prop} {m n : Nat} (hQ : ¬ LetsOut Q) : ∀ (l : List Oper) (_ : noDefer l.toArray = true) (a : Act) (w : World), wpList P ops Q l a w → wpListIn (Fence.wide.inRound m) n P ops Q l a w
  | [], _, _, _, h => h
  | o :: rest, hnd, a, w, h => by
    have ho : ∀ c, o.op ≠ .defer c := fun c => noDefer_at hnd (i := 0) rfl c
    have hr : noDefer rest.toArray = true := by
      unfold noDefer at hnd ⊢
      simp only [List.all_cons, Bool.and_eq_true] at hnd
      exact hnd.2
    unfold wpList at h
    unfold wpListIn
    by_cases hw : Region.wanted o (yielded ops a.tmps) = true
    · rw [if_pos hw] at h ⊢
      rcases h with h | h
      · refine Oper.wpIn_mono (fun a w h => wpList_round hQ rest hr a w h) ⟨fun _ _ => trivial, ?_⟩
        rw [Oper.semAt_eq _ _ _ ho]
        exact upon_round h
      · exact absurd h.2 hQ
    · rw [if_neg hw] at h ⊢
      exact ⟨fun _ _ => trivial, wpList_round hQ rest hr _ w h⟩
/-- a region that does not draw, in a round -/
theorem wpIn_round_list {P : Program} {l : List Oper} {Q : Exit → Act → World → Prop} {m n id : Nat} {a : Act} {w : World} (hnd : noDefer l.toArray = true) (hQ : ¬ LetsOut Q) (h : wpList P l.toArray Q l a w) : (Code.region id l.toArray false).wpIn (Fence.wide.inRound m) n P Q a w :=
  wpIn_region_lit (wpList_round hQ l hnd a w h)
end Go.Proofs.YtphmmnffgknkcaaDoor
/- The walks of pages.leavesOf and Save (layer 17). -/
namespace Go.Proofs.YtphmmnffgknkcaaDoor
open Go.RowKit
set_option maxRecDepth 100000
theorem built_lf (f : Operand → Value) (o : Oper) (x y : Operand) (ho : o.op = .build 93 #[(0, x), (1, y)]) (ix vl : By) (hl : ix.length = 32) (hl2 : vl.length = 32) (hx : f x = .agg (cb ix).toArray) (hy : f y = .agg (cb vl).toArray) (w : World) : (execOp f o).run Tryd.prog w = .ok (.value (.agg (lfC (ix, vl)).toArray)) w := by
  unfold execOp
  rw [ho]
  simp only [List.map_toArray, List.map_cons, List.map_nil, hx, hy]
  match ix, hl, vl, hl2 with
  | [x0, x1, x2, x3, x4, x5, x6, x7, x8, x9, x10, x11, x12, x13, x14, x15, x16, x17, x18, x19, x20, x21, x22, x23, x24, x25, x26, x27, x28, x29, x30, x31], _, [y0, y1, y2, y3, y4, y5, y6, y7, y8, y9, y10, y11, y12, y13, y14, y15, y16, y17, y18, y19, y20, y21, y22, y23, y24, y25, y26, y27, y28, y29, y30, y31], _ =>
    refine id ?_
    show _ = _
    kernel_rfl
theorem lfC_one (p : Lf) : ∀ v ∈ lfC p, v.oneCell' = true := fun v hv => by
  unfold lfC at hv
  rcases List.mem_append.1 hv with h | h
  · exact cb_one _ v h
  · exact cb_one _ v h
theorem build_lf1 (f : Operand → Value) (o : Oper) (x : Operand) (ho : o.op = .buildSlice 56 1 #[(0, x)]) (ix vl : By) (hl : ix.length = 32) (hl2 : vl.length = 32) (hx : f x = .agg (lfC (ix, vl)).toArray) (w : World) :
    (execOp f o).run Tryd.prog w = .ok (.value (.slice (some ⟨w.heap.size, 0, none⟩) 1 1)) (w.alloc (.cells (lfC (ix, vl)).toArray 93)) := by
  unfold execOp
  rw [ho]
  simp only [List.map_toArray, List.map_cons, List.map_nil, hx]
  match ix, hl, vl, hl2 with
  | [x0, x1, x2, x3, x4, x5, x6, x7, x8, x9, x10, x11, x12, x13, x14, x15, x16, x17, x18, x19, x20, x21, x22, x23, x24, x25, x26, x27, x28, x29, x30, x31], _, [y0, y1, y2, y3, y4, y5, y6, y7, y8, y9, y10, y11, y12, y13, y14, y15, y16, y17, y18, y19, y20, y21, y22, y23, y24, y25, y26, y27, y28, y29, y30, y31], _ =>
    refine id ?_
    show _ = _
    kernel_rfl
theorem wpSeq_buildLf {ops : Array Oper} {Q : Exit → Act → World → Prop} {rest : List Oper} {o : Oper} {a : Act} {w : World} (x y : Operand) (ix vl : By) (hl : ix.length = 32) (hl2 : vl.length = 32) (ho : o.op = .build 93 #[(0, x), (1, y)]) (hx : a.eval x = .agg (cb ix).toArray) (hy : a.eval y = .agg (cb vl).toArray) (hw : Region.wanted o (yielded ops a.tmps) = true)
    (h : wpList Tryd.prog ops Q rest (a.put o.dst (.agg (lfC (ix, vl)).toArray)) w) : wpList Tryd.prog ops Q (o :: rest) a w := wpSeq_val _ _ hw (built_lf _ o x y ho ix vl hl hl2 hx hy w) h
theorem wpSeq_buildLf1 {ops : Array Oper} {Q : Exit → Act → World → Prop} {rest : List Oper} {o : Oper} {a : Act} {w : World} (x : Operand) (ix vl : By) (hl : ix.length = 32) (hl2 : vl.length = 32) (ho : o.op = .buildSlice 56 1 #[(0, x)]) (hx : a.eval x = .agg (lfC (ix, vl)).toArray) (hw : Region.wanted o (yielded ops a.tmps) = true)
    (h : ∀ g w', Blk w' g (lfC (ix, vl)) 93 → Below w.heap.size w w' → wpList Tryd.prog ops Q rest (a.put o.dst (.slice (some ⟨g, 0, none⟩) 1 1)) w') : wpList Tryd.prog ops Q (o :: rest) a w :=
  wpSeq_val _ _ hw (build_lf1 _ o x ho ix vl hl hl2 hx w) (h _ _ (Blk.new w _ _) (below_alloc w _))
theorem wpSeq_appLf {ops : Array Oper} {Q : Exit → Act → World → Prop} {rest : List Oper} {o : Oper} {a : Act} {w : World} (s x : Operand) (base : Nat) (v : Value) (l : List Lf) (p : Lf) (g : Nat)
    (hown : OwnLv w base v l) (hu : Blk w g (lfC p) 93) (hp : p.1.length = 32 ∧ p.2.length = 32) (hlen : l.length < 1000000) (hbase : base ≤ w.heap.size)
    (ho : o.op = .call { callee := .builtin .append, args := #[s, x], argTypes := #[56, 56] }) (hs : a.eval s = v) (hx : a.eval x = .slice (some ⟨g, 0, none⟩) 1 1) (hgd : o.guard = none)
    (h : ∀ v' w', OwnLv w' base v' (l ++ [p]) → GrV w v w' v' → wpList Tryd.prog ops Q rest (a.put o.dst v') w') : wpList Tryd.prog ops Q (o :: rest) a w := by
  obtain ⟨i0, hi, hz0, hz1, hz2⟩ := info_parts Tryd.infoLf
  refine wpList_append_own_at (P := Tryd.prog) w hgd s x 56 ho base 93 i0 (.agg (cb zb32 ++ cb zb32).toArray) 64 64 Tryd.underlying56 hi hz0 hz1 hz2 (by show (cb zb32 ++ cb zb32).toArray.size = 64; rw [List.size_toArray, List.length_append, cb_len]; rfl) (by decide) v l.length (flatLf l) hs hown.1 ⟨g, 0, none⟩ 1 1 (lfC p) hx (by rw [lfC_len hp]) (fun j q hj => by rw [Addr.add_mid, Nat.zero_add, hu.cell]; exact hj) (lfC_one p) (by unfold maxLen; omega) (by omega) hbase ?_
  intro v' w' h2 h3 _ h5
  refine h v' w' ⟨by rw [flatLf_snoc, List.length_append]; exact h2, fun q hq => ?_⟩ ⟨mut_grown h3, fun k hk => ?_⟩
  · rcases List.mem_append.1 hq with hq | hq
    · exact hown.2 q hq
    · rw [List.mem_singleton.1 hq]; exact hp
  · rcases h5 with h5 | h5
    · exact Or.inl (h5 ▸ hk)
    · rw [h5] at hk; cases hk; exact Or.inr (Nat.le_refl _)
theorem wpSeq_cellL {ops : Array Oper} {Q : Exit → Act → World → Prop} {rest : List Oper} {o : Oper} {a : Act} {w : World} (x y : Operand) (g : Nat) (v u : Value) (hb : Blk w g [v] 56) (hv : ∃ ad n c, u = .slice ad n c) (ho : o.op = .store 56 x y) (hx : a.eval x = .pointer (some ⟨g, 0, none⟩)) (hy : a.eval y = u) (hw : Region.wanted o (yielded ops a.tmps) = true)
    (h : ∀ w', Blk w' g [u] 56 → Only g w w' → wpList Tryd.prog ops Q rest (a.put o.dst undef) w') : wpList Tryd.prog ops Q (o :: rest) a w := by
  obtain ⟨ad, n, c, rfl⟩ := hv
  have hc : w.cell? ⟨g, 0, none⟩ = some v := hb.cell 0
  have hf : w.frozen? ⟨g, 0, none⟩ = false := hb.frozen 0
  have he : (execOp a.eval o).run Tryd.prog w = .ok .skip (w.setCell ⟨g, 0, none⟩ (.slice ad n c)) := by
    clear h hw
    generalize a.eval = f at hx hy ⊢
    unfold execOp
    rw [ho]
    simp [go_sem, hx, hy, hc, hf]
  unfold wpList
  simp only [hw, if_true]
  left
  unfold Oper.wp
  rw [he, Oper.upon_skip]
  exact h _ (hb.set 0 _) (Only.setCell (Only.refl g w) 0 _)
theorem wpSeqIn_allocD {F : Fence} {n : Nat} {ops : Array Oper} {Q : Exit → Act → World → Prop} {rest : List Oper} {o : Oper} {a : Act} {w : World} (ho : o.op = .alloc 28) (hw : Region.wanted o (yielded ops a.tmps) = true)
    (h : ∀ g w', NewB zb32 w g w' → wpListIn F n Tryd.prog ops Q rest (a.put o.dst (.pointer (some ⟨g, 0, none⟩))) w') : wpListIn F n Tryd.prog ops Q (o :: rest) a w :=
  wpSeqIn_val _ _ hw (by rw [ho]; intro c hc; cases hc) (by simp [Oper.about, ho]) (allocDigest _ _ ho _) (h _ _ (NewB.of zb32 w))
theorem keeps_mut {P : Nat → Prop} {W W' : World} (m : Mut P W W') (hP : ∀ k, P k → ∃ ar t fz, W.heap[k]? = some (.cells ar t fz)) : KeepsOthers W W' :=
  ⟨m.size, fun k o hk ho => by
    have hk2 := (Array.getElem?_eq_some_iff.1 hk).1
    rw [m.block k hk2 fun hp => by
      obtain ⟨ar, t, fz, h⟩ := hP k hp
      rw [hk] at h
      cases h
      cases ho]
    exact hk⟩
theorem OwnLv.cells {W : World} {base : Nat} {v : Value} {l : List Lf} (h : OwnLv W base v l) : ∀ k, v.ownBlock = some k → ∃ ar t fz, W.heap[k]? = some (.cells ar t fz) := fun k hk => by
  rcases h.1 with ⟨_, ⟨rfl, _⟩ | ⟨g, cap, cur, rfl, _, hh, _⟩⟩
  · cases hk
  · cases hk; exact ⟨_, _, _, hh⟩
theorem ownsRow_lower {W : World} {base : Nat} {t : TypeId} {z n : Nat} {v : Value} {xs : List Value} (h : W.ownsRow (base + 1) t z v n xs) : W.ownsRow base t z v n xs := by
  obtain ⟨h1, h2 | ⟨g, cap, cur, e, hg, r⟩⟩ := h
  · exact ⟨h1, Or.inl h2⟩
  · exact ⟨h1, Or.inr ⟨g, cap, cur, e, Nat.le_of_succ_le hg, r⟩⟩
/-- the leaves that were met lie in the row that the box g2 holds -/
structure LoI (v0 : World) (n₀ g2 : Nat) (pre : List Lf) (W : World) : Prop where
  bel : Below n₀ v0 W
  ge : n₀ ≤ W.heap.size
  row : ∃ v, Blk W g2 [v] 56 ∧ OwnLv W (n₀ + 1) v pre
theorem OwnLv.kept {W W' : World} {base : Nat} {v : Value} {l : List Lf} {row : Option Nat} (h : OwnLv W base v l) (hg : W.grownBy W' row) (hr : ∀ r, row = some r → ∃ o : Obj, W.heap[r]? = some o ∧ o.isCells = false) : OwnLv W' base v l :=
  h.same fun k hk => hg.block k (h.lt k hk).2 fun e => by
    obtain ⟨o, h1, h2⟩ := hr k e.symm
    rcases h.1 with ⟨_, ⟨rfl, _⟩ | ⟨g, cap, cur, rfl, _, hh, _⟩⟩
    · cases hk
    · cases hk
      rw [hh] at h1
      cases h1
      cases h2
theorem LoI.own {v0 : World} {n₀ B g2 : Nat} (hB : n₀ ≤ B) : OwnFrom B (LoI v0 n₀ g2) := fun s A W' row hs hg hr => by
  obtain ⟨v, h1, h2⟩ := hs.row
  exact ⟨hs.bel.grown hg hs.ge (fun k e => Nat.le_trans hB (hr k e).1), Nat.le_trans hs.ge hg.size, v, blk_own (β := Unit) g2 (fun _ => [v]) _ () A W' row h1 hg (fun r e => (hr r e).2), h2.kept hg (fun r e => (hr r e).2)⟩
theorem LoI.next {v0 W W' : World} {n₀ g2 : Nat} {pre : List Lf} (h : LoI v0 n₀ g2 pre W) (hb : Below W.heap.size W W') : LoI v0 n₀ g2 pre W' := by
  obtain ⟨v, h1, h2⟩ := h.row
  exact ⟨h.bel.trans (hb.mono h.ge), Nat.le_trans h.ge hb.size, v, h1.below hb h1.lt, h2.next hb⟩
set_option maxHeartbeats 8000000 in
theorem pgLeavesOf_any (g : Nat) (l : List Lf) (w : World) (hT : TreeIs w 0 g l) (hl : l.length < 100000) :
    Calls Tryd.prog 24 #[.pointer (some ⟨g, 0, none⟩)] w fun e w' => ∃ v, e = .returned v ∧ OwnLv w' w.heap.size v l ∧ Below w.heap.size w w' := by
  obtain ⟨n₀, HN0⟩ : ∃ n, Hid (n = w.heap.size) := ⟨_, rfl⟩
  have HT : Hid (TreeIs w 0 g l) := hT
  have HL : Hid (l.length < 100000) := hl
  obtain ⟨w1, HW1⟩ : ∃ z, Hid (z = w.alloc (.cells [Value.slice none 0 0].toArray 56)) := ⟨_, rfl⟩
  have HI1 : Hid (LoI w n₀ n₀ [] w1 ∧ n₀ + 1 ≤ w1.heap.size) := by
    rw [HW1.out, HN0.out]
    exact ⟨⟨below_alloc _ _, by simp, .slice none 0 0, Blk.new _ _ _, OwnLv.nil _ _⟩, by simp⟩
  clear hT hl
  refine (callsIn_wide (n := 4)).1 ?_
  refine callsIn_of_wp_marks Tryd.func24 rfl trivial ?_ rfl
  simp only [Tryd.ntmps24, List.size_toArray, List.length_cons, List.length_nil, Nat.reduceAdd, Nat.reduceSub, Array.replicate_succ, Array.replicate_zero, List.push_toArray, List.append_toArray, List.nil_append, List.cons_append]
  refine wpIn_wide.2 ?_
  go_upto_region 1 with fail
  change Code.wp _ _ _ _ (w.alloc (.cells [Value.slice none 0 0].toArray 56))
  rw [← HW1.out]
  have e1 : (some ⟨w.heap.size, 0, none⟩ : Option Addr) = some ⟨n₀, 0, none⟩ := by rw [HN0.out]
  simp only [e1]
  clear e1
  go_wp2_with (go_at_call 51; refine (trAll_any _ g).mono ?_; rintro e w2 ⟨gb, rfl, hbb, hb⟩
               have HGB : Hid (Blk w2 gb [ptr g] 25) := hbb
               have HI2 : Hid (LoI w n₀ n₀ [] w2 ∧ n₀ + 1 ≤ w2.heap.size) := ⟨HI1.out.1.next hb, Nat.le_trans HI1.out.2 hb.size⟩
               clear hb hbb HI1)
  refine (wpIn_wide (n := 4)).1 ?_
  refine wpIn_rangeFunc_ownH (F := Fence.wide) (α := Lf32) rfl (by omega) (gf := 71) (lb := #[.pointer (some ⟨gb, 0, none⟩)]) rfl trivial (enters_of Tryd.func71 (by kernel_rfl) rfl)
    (all_stops 3 (v0 := w) (n₀ := n₀) HN0.out.symm HT.out w2 HI2.out.1.bel HI2.out.1.ge HGB.out) belowK_t (fun W l o o' h1 h2 h3 h4 => belowK_b (w := w2) HI2.out.1.ge W l o o' h1 h2 h3 h4) (Below.refl _ _) (fun _ => rfl)
    (fun pre W => LoI w n₀ n₀ (pre.map (·.1)) W) (fun _ _ _ => False)
    (fun s A W' row hs hg hr => LoI.own HI2.out.1.ge (s.map (·.1)) A W' row hs hg hr) (fun c s A W' row hs _ _ => hs.elim) HI2.out.1
    (fun x a' W => ∃ gx gv, a' = { tmps := #[.pointer (some ⟨g, 0, none⟩), undef, .pointer (some ⟨n₀, 0, none⟩), .pointer (some ⟨gx, 0, none⟩), .pointer (some ⟨gv, 0, none⟩), .pointer (some ⟨g, 0, none⟩), .bool false, .pointer (some ⟨g, 0, none⟩), .func (.func 71) #[] #[.pointer (some ⟨gb, 0, none⟩)], .agg (cb x.1.1).toArray, .agg (cb x.1.2).toArray, undef, undef, undef, undef, undef, undef, undef], defers := [] } ∧ Blk W gx (cb x.1.1) 28 ∧ Blk W gv (cb x.1.2) 28) ?hax ?assign ?body ?done ?stop
  case hax =>
    rintro x a' _ A W' row ⟨gx, gv, h1, h2, h3⟩ hg hr
    exact ⟨gx, gv, h1, blk_own (β := Unit) gx (fun _ => cb x.1.1) _ () A W' row h2 hg (fun r e => (hr r e).2), blk_own (β := Unit) gv (fun _ => cb x.1.2) _ () A W' row h3 hg (fun r e => (hr r e).2)⟩
  case assign =>
    intro lab pre x W K hI hK
    have HIW : Hid (LoI w n₀ n₀ (pre.map (·.1)) W) := hI
    have HKK : Aside (∀ a' W', KeepsFrom w2.heap.size W W' → Below n₀ W W' → LoI w n₀ n₀ (pre.map (·.1)) W' → (∃ gx gv, a' = { tmps := #[.pointer (some ⟨g, 0, none⟩), undef, .pointer (some ⟨n₀, 0, none⟩), .pointer (some ⟨gx, 0, none⟩), .pointer (some ⟨gv, 0, none⟩), .pointer (some ⟨g, 0, none⟩), .bool false, .pointer (some ⟨g, 0, none⟩), .func (.func 71) #[] #[.pointer (some ⟨gb, 0, none⟩)], .agg (cb x.1.1).toArray, .agg (cb x.1.2).toArray, undef, undef, undef, undef, undef, undef, undef], defers := [] } ∧ Blk W' gx (cb x.1.1) 28 ∧ Blk W' gv (cb x.1.2) 28) → K a' W') := hK
    clear hI hK
    simp only [encs32, encsL, List.zip_toArray, List.zip_cons_cons, List.zip_nil_right, List.size_toArray, List.length_cons, List.length_nil, Nat.reduceAdd, Array.foldl]
    gi_wp2_with (first
      | (with_reducible refine wpSeqIn_storeD (.tmp 3) (.tmp 9) gx zb32 x.1.1 ?_ ?_ ?_ ?_ ?_ ?_ ?_ ?_
         · rfl
         · exact x.2.1
         · exact HN1.out.blk
         · rfl
         · rfl
         · rfl
         · rfl
         intro W2 s2 _
         have HC1 : Hid (Blk W2 gx (cb x.1.1) 28) := s2.blk
         have HQ1 : Hid (Below W.heap.size W W2) := HN1.out.below.trans (s2.only.below HN1.out.ge HN1.out.below.size)
         clear s2 HN1)
      | (with_reducible refine wpSeqIn_storeD (.tmp 4) (.tmp 10) gv zb32 x.1.2 ?_ ?_ ?_ ?_ ?_ ?_ ?_ ?_
         · rfl
         · exact x.2.2
         · exact HN3.out.blk
         · rfl
         · rfl
         · rfl
         · rfl
         intro W4 s4 _
         have HC2 : Hid (Blk W4 gv (cb x.1.2) 28) := s4.blk
         have hb4 : Below W2.heap.size W2 W4 := HN3.out.below.trans (s4.only.below HN3.out.ge HN3.out.below.size)
         replace HC1 : Hid (Blk W4 gx (cb x.1.1) 28) := HC1.out.below hb4 HC1.out.lt
         replace HQ1 : Hid (Below W.heap.size W W4) := HQ1.out.trans (hb4.mono HQ1.out.size)
         clear s4 HN3 hb4)
      | (with_reducible refine wpSeqIn_allocD ?_ ?_ ?_
         · rfl
         · rfl
         intro gv W3 n3
         have HN3 : Hid (NewB zb32 W2 gv W3) := n3
         clear n3)
      | (with_reducible refine wpSeqIn_allocD ?_ ?_ ?_
         · rfl
         · rfl
         intro gx W1 n1
         have HN1 : Hid (NewB zb32 W gx W1) := n1
         clear n1))
    exact HKK.out _ W4 ((keepsOthers_of_below HQ1.out).from _) (HQ1.out.mono HIW.out.ge) (HIW.out.next HQ1.out) ⟨gx, gv, rfl, HC1.out, HC2.out⟩
  case body =>
    rintro lab pre x a' W _ _ hI ⟨gx, gv, rfl, hbx, hbv⟩ hlen
    have HI : Hid (LoI w n₀ n₀ (pre.map (·.1)) W) := hI
    have HX : Hid (Blk W gx (cb x.1.1) 28 ∧ Blk W gv (cb x.1.2) 28) := ⟨hbx, hbv⟩
    have H32 : Hid (x.1.1.length = 32 ∧ x.1.2.length = 32) := x.2
    have HLN : Hid ((pre.map (·.1)).length < 1000000) := by show _ < _; rw [List.length_map]; have := HL.out; omega
    obtain ⟨v, hbb, how⟩ := hI.row
    obtain ⟨av, cv, hv⟩ := how.form
    obtain ⟨nv, HNV⟩ : ∃ z : Nat, Hid (z = (pre.map (·.1)).length) := ⟨_, rfl⟩
    rw [← HNV.out] at hv
    subst hv
    have HBB : Hid (Blk W n₀ [.slice av nv cv] 56) := hbb
    have HOW : Hid (OwnLv W (n₀ + 1) (.slice av nv cv) (pre.map (·.1))) := how
    have HGE : Hid (n₀ + 1 ≤ W.heap.size) := Nat.succ_le_of_lt hbb.lt
    have c0 : W.cell? ⟨n₀, 0, none⟩ = some (.slice av nv cv) := hbb.cell 0
    clear hI hbx hbv hlen hbb how
    refine wpIn_block ?_
    refine wpIn_round_list (by kernel_rfl) (by rintro ⟨_, _, h⟩; exact h) ?_
    have tk1 : Hid True := trivial
    go_wp2_with (first
      | (with_reducible refine wpSeq_loadD (.tmp 3) gx x.1.1 H32.out.1 HX.out.1 ?_ ?_ ?_ ?_
         · rfl
         · rfl
         · rfl)
      | (with_reducible refine wpSeq_loadD (.tmp 4) gv x.1.2 H32.out.2 HX.out.2 ?_ ?_ ?_ ?_
         · rfl
         · rfl
         · rfl)
      | (with_reducible refine wpSeq_buildLf (.tmp 12) (.tmp 13) x.1.1 x.1.2 H32.out.1 H32.out.2 ?_ ?_ ?_ ?_ ?_
         · rfl
         · rfl
         · rfl
         · rfl)
      | (clear tk1; with_reducible refine wpSeq_buildLf1 (.tmp 14) x.1.1 x.1.2 H32.out.1 H32.out.2 ?_ ?_ ?_ ?_
         · rfl
         · rfl
         · rfl
         intro g3 W3 hu3 hb3
         have HU3 : Hid (Blk W3 g3 (lfC x.1) 93) := hu3
         have HB3 : Hid (Below W.heap.size W W3) := hb3
         have HO3 : Hid (OwnLv W3 (n₀ + 1) (.slice av nv cv) (pre.map (·.1))) := HOW.out.next hb3
         have HG3 : Hid (n₀ + 1 ≤ W3.heap.size) := Nat.le_trans HGE.out hb3.size
         clear hu3 hb3)
      | (with_reducible refine wpSeq_appLf (.tmp 11) (.tmp 15) (n₀ + 1) (.slice av nv cv) (pre.map (·.1)) x.1 g3 HO3.out HU3.out H32.out HLN.out HG3.out ?_ ?_ ?_ ?_ ?_
         · rfl
         · rfl
         · rfl
         · rfl
         intro v4 W4 ho4 hg4
         have hne : (Value.slice av nv cv).ownBlock ≠ some n₀ := fun e => by have := (HO3.out.lt n₀ e).1; omega
         have HO4 : Hid (OwnLv W4 (n₀ + 1) v4 (pre.map (·.1) ++ [x.1])) := ho4
         have HB4 : Hid (Blk W4 n₀ [.slice av nv cv] 56) := hg4.mt.blk (HBB.out.below HB3.out HBB.out.lt) hne
         have HF4 : Hid (∃ ad n c, v4 = .slice ad n c) := by obtain ⟨a, c, h⟩ := ho4.form; exact ⟨_, _, _, h⟩
         have HK4 : Hid (KeepsOthers W W4 ∧ Below n₀ W W4) := ⟨(keepsOthers_of_below HB3.out).trans (keeps_mut hg4.mt HO3.out.cells), (HB3.out.mono (Nat.le_of_succ_le HGE.out)).trans (hg4.below (Nat.le_of_succ_le HG3.out) fun k hk => Nat.le_of_succ_le (HO3.out.lt k hk).1)⟩
         clear ho4 hg4 hne)
      | (with_reducible refine wpSeq_cellL (.tmp 2) (.tmp 16) n₀ (.slice av nv cv) v4 HB4.out HF4.out ?_ ?_ ?_ ?_ ?_
         · rfl
         · rfl
         · rfl
         · rfl
         intro W5 hb5 ho5
         have HB5 : Hid (Blk W5 n₀ [v4] 56) := hb5
         have HO5 : Hid (Only n₀ W4 W5) := ho5
         clear hb5 ho5))
    have hlt := HB4.out.lt
    refine ⟨(HK4.out.1.trans (keeps_mut (HO5.out.mut (P := fun k => k = n₀) rfl) fun k e => by subst e; exact ⟨_, _, _, HB4.out⟩)).from _, HK4.out.2.trans (HO5.out.below (Nat.le_refl _) (Nat.le_of_lt hlt)), ?_⟩
    refine ⟨HI.out.bel.trans (HK4.out.2.trans (HO5.out.below (Nat.le_refl _) (Nat.le_of_lt hlt))), Nat.le_trans (Nat.le_of_lt hlt) HO5.out.size, v4, HB5.out, ?_⟩
    rw [List.map_append]
    exact HO4.out.same fun k hk => HO5.out.block k (fun e => by have := (HO4.out.lt k hk).1; omega) (HO4.out.lt k hk).2
  case done =>
    rintro D ys W hD hys hI hK
    have hI' : LoI w n₀ n₀ (ys.map (·.1)) W := hI
    rw [hys] at hI'
    obtain ⟨v, hbb, how⟩ := hI'.row
    have HD : Hid (n₀ ≤ D) := Nat.le_trans HI2.out.1.ge hD
    have HBB : Hid (Blk W n₀ [v] 56) := hbb
    have HOW : Hid (OwnLv W (n₀ + 1) v l) := how
    have HBW : Hid (Below n₀ w W) := hI'.bel
    have HKD : Hid (W.heap[D]? = some (.deferred (some []))) := hK
    have HF : Hid (∃ ad n c, v = .slice ad n c) := by obtain ⟨a, c, h⟩ := how.form; exact ⟨_, _, _, h⟩
    have c0 : W.cell? ⟨n₀, 0, none⟩ = some v := hbb.cell 0
    have HVO : Hid (v.oneCell' = true) := by obtain ⟨a, n, c, h⟩ := HF.out; show _ = _; rw [h]; rfl
    clear hI hI' hys hbb how hK hD
    obtain ⟨av, nv, cv, hv⟩ := HF.out
    subst hv
    gi_wp2
    go_wp2_with (with_reducible refine wpSeq_cellL (.tmp 2) (.tmp 17) n₀ (.slice av nv cv) (.slice av nv cv) HBB.out HF.out ?_ ?_ ?_ ?_ ?_
                 · rfl
                 · rfl
                 · rfl
                 · rfl
                 intro W2 hb2 ho2
                 have HB2 : Hid (Blk W2 n₀ [.slice av nv cv] 56) := hb2
                 have HO2 : Hid (Only n₀ W W2) := ho2
                 clear hb2 ho2)
    all_goals
      have hne : D ≠ n₀ := fun e => by have h1 := HKD.out; rw [e] at h1; have h2 := HBB.out; unfold Blk at h2; rw [h1] at h2; cases h2
      have hlt := (Array.getElem?_eq_some_iff.1 HKD.out).1
      have hK' : W2.heap[D]? = some (.deferred (some [])) := by rw [HO2.out.block D hne hlt]; exact HKD.out
      refine ⟨by simp, .inl ⟨_, _, rfl, run_takeDeferred hK', ?_⟩⟩
      have hc5 := ((HB2.out).put hK' rfl (o' := .deferred none)).cell 0
      have hbl := HBB.out.lt
      refine ⟨.slice av nv cv, ?_, _, rfl, ?_, ?_⟩
      · simp at hc5
        simp [results, Tryd.f24, go_sem, hc5]
      · have h := HOW.out.same (w' := W2) fun k hk => HO2.out.block k (fun e => by have := (HOW.out.lt k hk).1; omega) (HOW.out.lt k hk).2
        have h2 := h.kept (grownBy_putObj' W2 D (.deferred none)) (fun r e => by cases e; exact ⟨_, hK', rfl⟩)
        rw [← HN0.out]
        exact ⟨ownsRow_lower h2.1, h2.2⟩
      · rw [← HN0.out]
        exact (HBW.out.trans (HO2.out.below (Nat.le_refl _) (Nat.le_of_lt hbl))).trans (belowK_b (w := w) (n₀ := n₀) (by rw [HN0.out]; exact Nat.le_refl _) _ D _ _ (by rw [← HN0.out]; exact HD.out) hK' rfl rfl)
  case stop =>
    rintro D c pre W _ _ hX _
    exact hX.elim
theorem PgS.lower {W : World} {base B : Nat} {v : Value} {us : List Value} {ps : List By} {X : Nat → Prop} (h : PgS W base v us ps X) (hB : B ≤ base) : PgS W B v us ps X := by
  refine ⟨?_, h.len, h.good⟩
  obtain ⟨h1, h2 | ⟨g, cap, cur, e, hg, r⟩⟩ := h.own
  · exact ⟨h1, Or.inl h2⟩
  · exact ⟨h1, Or.inr ⟨g, cap, cur, e, Nat.le_trans hB hg, r⟩⟩
theorem save_few {l : List Lf} (h1 : okLf l) (h2 : Up l) (hl : l.length ≤ 100) : (saveL 0 l).length ≤ 25601 := by
  have := save_count 256 0 l rfl (fits_zero h1 h2)
  omega
set_option maxHeartbeats 4000000 in
theorem pgSave_any (g : Nat) (l : List Lf) (w : World) (hK : KOk w) (hT : TT w g l) (hl : l.length ≤ 100) :
    Calls Tryd.prog 11 #[.pointer (some ⟨g, 0, none⟩)] w fun e w' => ∃ v us, e = .returned (.tuple #[.agg (cb (dig (topPg 0 l))).toArray, v]) ∧ PgS w' w.heap.size v us (saveL 0 l) (fun _ => False) ∧ Below w.heap.size w w' := by
  obtain ⟨dg, HDG⟩ : ∃ x, Hid (x = dig (topPg 0 l)) := ⟨_, rfl⟩
  have HDL : Hid (dg.length = 32) := by show _ = _; rw [HDG.out]; exact len_dig' _
  have HT : Hid (TT w g l) := hT
  have HK : Hid (KOk w) := hK
  have HL : Hid (l.length ≤ 100) := hl
  clear hK hT hl
  go_enter Tryd.func11, Tryd.ntmps11
  go_wp2_with (first
    | (with_reducible refine wpSeq_allocD ?_ ?_ ?_
       · rfl
       · rfl
       intro g2 w1 nn
       have HN2 : Hid (Blk w1 g2 (cb zb32) 28 ∧ w.heap.size ≤ g2) := ⟨nn.blk, nn.ge⟩
       have HBW : Hid (Below w.heap.size w w1) := nn.below
       replace HK : Hid (KOk w1) := HK.out.below nn.below HK.out.lt
       replace HT : Hid (TT w1 g l) := HT.out.next nn.below
       clear nn)
    | (go_at_call 24; refine (pgLeavesOf_any g l _ HT.out.1 (Nat.lt_of_le_of_lt HL.out (by decide))).mono ?_; rintro e w2 ⟨vl, rfl, ho, hb⟩
       have HR2 : Hid (RdLb w2.heap.size w2 vl l) := ⟨ho.rd, fun k hk => (ho.lt k hk).2⟩
       have HN3 : Hid (Blk w2 g2 (cb zb32) 28 ∧ w.heap.size ≤ g2) := ⟨HN2.out.1.below hb HN2.out.1.lt, HN2.out.2⟩
       have HF : Hid (Fits l 0) := fits_zero HT.out.2.1 HT.out.2.2
       have HSC : Hid (([] : List By).length + (saveL 0 l).length < 100000) := by have := save_few HT.out.2.1 HT.out.2.2 HL.out; show _ < _; rw [List.length_nil]; omega
       replace HBW : Hid (Below w.heap.size w w2) := HBW.out.trans (hb.mono HBW.out.size)
       replace HK : Hid (KOk w2) := HK.out.below hb HK.out.lt
       clear ho hb HN2 HT)
    | (go_at_call 23; refine (pgPages_any 256 0 rfl w2.heap.size (.slice none 0 0) vl [] [] l (fun k => k = g2) w2 HK.out HK.out.lt HF.out HR2.out (PgS.nil _ _ _) (Nat.le_refl _) (fun k e => by rw [e]; exact HN3.out.1.lt) (Nat.lt_of_le_of_lt HL.out (by decide)) HSC.out).mono ?_; rintro e w3 ⟨v, us, rfl, hp, hg⟩
       rw [← HDG.out]
       have hb : Below w2.heap.size w2 w3 := hg.below (Nat.le_refl _) fun k e => by cases e
       have HP : Hid (PgS w3 w2.heap.size v us (saveL 0 l) (fun k => k = g2)) := hp
       have HN4 : Hid (Blk w3 g2 (cb zb32) 28) := HN3.out.1.below hb HN3.out.1.lt
       have HBW3 : Hid (Below w.heap.size w w3 ∧ w.heap.size ≤ w2.heap.size ∧ w.heap.size ≤ g2) := ⟨HBW.out.trans (hb.mono HBW.out.size), HBW.out.size, HN3.out.2⟩
       clear hp hg hb HK HR2 HN3 HF HSC)
    | (with_reducible refine wpSeq_storeD (.tmp 2) (.tmp 7) g2 zb32 dg zb32_len HDL.out HN4.out ?_ ?_ ?_ ?_ ?_
       · rfl
       · rfl
       · rfl
       · rfl
       intro w4 h9
       have HN5 : Hid (Blk w4 g2 (cb dg) 28 ∧ Only g2 w3 w4) := ⟨h9.blk, h9.only⟩
       clear h9))
  refine bodyPost_ret (results_row_tmp (by rfl) _ _ _ g2 28 (cb dg) _ v rfl rfl HN5.out.1 Tryd.underlying28 rfl (by rw [cb_len, HDL.out]; exact info_digest)) rfl ?_
  refine ⟨v, us, by rw [← HDG.out], ?_, HBW3.out.1.trans (HN5.out.2.below HBW3.out.2.2 HBW3.out.1.size)⟩
  exact ((HP.out.only rfl (HP.out.own.ne_blk HN4.out (by decide)) HN5.out.2).weak fun _ _ e => e.elim).lower HBW3.out.2.1
end Go.Proofs.YtphmmnffgknkcaaDoor
/- The walk of pages.Load, where the pages are a tree's (layer 17). -/
namespace Go.Proofs.YtphmmnffgknkcaaDoor
open Go.RowKit
set_option maxRecDepth 100000
theorem while_all {f : Lf → Bool} : ∀ {l : List Lf}, (∀ q ∈ l, f q = true) → l.takeWhile f = l ∧ l.dropWhile f = []
  | [], _ => ⟨rfl, rfl⟩
  | p :: r, h => by
    have ih := while_all (l := r) fun q hq => h q (List.mem_cons_of_mem _ hq)
    have hp := h p (by simp)
    rw [List.takeWhile_cons_of_pos hp, List.dropWhile_cons_of_pos hp, ih.1, ih.2]
    exact ⟨rfl, rfl⟩
/-- rising leaves put one behind the other are themselves -/
theorem ofL_self {l : List Lf} (hu : Up l) : ofL l = l := by
  have key : ∀ n, n ≤ l.length → ofL (l.take n) = l.take n := by
    intro n
    induction n with
    | zero => intro _; rfl
    | succ n ih =>
      intro hn
      have e : l.take (n + 1) = l.take n ++ [l.getD n ([], [])] := take_map (by omega)
      rw [e, ofL_snoc, ih (by omega)]
      have hlt : ∀ q ∈ l.take n, lessB q.1 (l.getD n ([], [])).1 = true := fun q hq => by
        have hu2 : Up (l.take n ++ [l.getD n ([], [])]) := by rw [← e]; exact hu.sublist (List.take_sublist _ _)
        exact (List.pairwise_append.1 hu2).2.2 q hq _ (by simp)
      unfold putL
      have hw := while_all (f := fun p : Lf => lessB p.1 (l.getD n ([], [])).1) hlt
      rw [hw.1, hw.2]
      rfl
  have := key l.length (Nat.le_refl _)
  rwa [List.take_length] at this
theorem zip_self (l : List Lf) : (l.map (·.1)).zip (l.map (·.2)) = l := by
  induction l with
  | nil => rfl
  | cons p r ih => simp only [List.map_cons, List.zip_cons_cons, ih]
theorem psM_of {w : World} {ap : Option Addr} {cp : Nat} {ps : List By} (hR : ReadsL w (.slice ap ps.length cp) ps) : PsM w w.heap.size ap ps := fun W hW i hi hp => by
  obtain ⟨ad, cap, h1, h2, h3, h4⟩ := hR
  simp only [Value.slice.injEq] at h1
  obtain ⟨rfl, _, rfl⟩ := h1
  obtain ⟨b, off, rfl, h5⟩ := h4 (by omega)
  obtain ⟨vj, h6, h7⟩ := h5 i hi
  refine ⟨b, off, vj, rfl, by rw [hW.cell (p := ⟨b, off + i, none⟩) (block_lt_of_cell h6)]; exact h6, h7.below hW, fun k hk => ?_⟩
  obtain ⟨ad2, cap2, rfl, h8, h9, h10⟩ := h7
  obtain ⟨b2, off2, rfl, h11⟩ := h10 hp
  cases hk
  exact block_lt_of_cell (h11 0 hp)
section
variable {w0 : World} {B gr gm : Nat} {ap : Option Addr} {cp : Nat} {ps : List By}
theorem top_ok (hM : PsM w0 B ap ps) (hn : ps.length < 1000000) (l : List Lf) (hF : Fits l 0) (hf : Free ps (saveL 0 l)) (hk : (saveL 0 l).length ≤ ps.length + 1) (hS : ∀ p ∈ saveL 0 l, p ∈ ps) (hl : l.length < 100000) (ix iv : Value) (W : World) (hi : RrI w0 B gr gm (.slice ap ps.length cp) ps 0 ix iv [] [] W) :
    Calls Tryd.prog 31 #[.pointer (some ⟨gr, 0, none⟩), .agg (cb (dig (topPg 0 l))).toArray, .agg (cb zb32).toArray, .int .i64 0] W fun e w' => e = .returned (.int .i64 0) ∧ ∃ k' ix' iv', RrI w0 B gr gm (.slice ap ps.length cp) ps k' ix' iv' (l.map (·.1)) (l.map (·.2)) w' ∧ RdG gr ix iv W ix' iv' w' := by
  have hst := save_top 0 l
  have hpc := top_pc 256 0 l rfl hF
  have ht := top_short (by omega) hF
  rw [hst] at hf hk hS
  rw [List.length_cons] at hk
  obtain ⟨hin, i, hpl, hil, hit⟩ := (plK_find (hf (topPg 0 l) (by simp))).resolve_right (fun h => h.1 (hS (topPg 0 l) (by simp)))
  obtain ⟨b, off, vj, hap, hrow, hrd⟩ := hM W hi.bel i hil (by rw [hit]; omega)
  rw [hit] at hrd
  obtain ⟨bj, oj, cj, hvj, _⟩ := hrd.at (by omega)
  refine pgPage_ok w0 B gr gm ap ps.length cp ps 0 ix iv [] [] (dig (topPg 0 l)) zb32 0 W hi (len_dig' _) rfl i b off vj _ hpl hil hap hrow ⟨_, _, _, hvj⟩ fun W' hW' => ?_
  refine ((piece_any hM hn hpc 0 ix iv [] [] vj [] zb32 W' (hi.next hW') (WyP.zero l) (by rw [List.append_nil]; exact hrd.nextP hW') (fun p hp => hf p (List.mem_cons_of_mem _ hp)) (by omega) (by rw [List.append_nil]; omega) (by simpa using hl) (by simpa using hl)).1 (fun p hp => hS p (List.mem_cons_of_mem _ hp))).mono (two_mono fun a b w' => ?_)
  rintro ⟨e1, e2, ix', iv', e3, e4⟩
  obtain ⟨ad, c, e5, _⟩ := e2.1
  exact ⟨e1, ⟨ad, c, e5⟩, _, ix', iv', e3, e4.from hW'⟩
theorem top_no (hM : PsM w0 B ap ps) (hn : ps.length < 1000000) (l : List Lf) (hF : Fits l 0) (hf : Free ps (saveL 0 l)) (hk : (saveL 0 l).length ≤ ps.length + 1) (hS : ¬ ∀ p ∈ saveL 0 l, p ∈ ps) (hl : l.length < 100000) (ix iv : Value) (W : World) (hi : RrI w0 B gr gm (.slice ap ps.length cp) ps 0 ix iv [] [] W) :
    Calls Tryd.prog 31 #[.pointer (some ⟨gr, 0, none⟩), .agg (cb (dig (topPg 0 l))).toArray, .agg (cb zb32).toArray, .int .i64 0] W fun e w' => e = .returned (.int .i64 7) ∧ Below B w0 w' := by
  have hst := save_top 0 l
  have hpc := top_pc 256 0 l rfl hF
  have ht := top_short (by omega) hF
  rw [hst] at hf hk hS
  rw [List.length_cons] at hk
  rcases plK_find (hf (topPg 0 l) (by simp)) with ⟨hin, i, hpl, hil, hit⟩ | ⟨hin, hpl⟩
  · have hSS : ¬ ∀ p ∈ (saveL 0 l).tail, p ∈ ps := fun h => hS fun p hp => by
      rcases List.mem_cons.1 hp with e | hp
      · rw [e]; exact hin
      · exact h p hp
    obtain ⟨b, off, vj, hap, hrow, hrd⟩ := hM W hi.bel i hil (by rw [hit]; omega)
    rw [hit] at hrd
    obtain ⟨bj, oj, cj, hvj, _⟩ := hrd.at (by omega)
    refine pgPage_no w0 B gr gm ap ps.length cp ps 0 ix iv [] [] (dig (topPg 0 l)) zb32 0 W hi (len_dig' _) rfl i b off vj (Below B w0) hpl hil hap hrow ⟨_, _, _, hvj⟩ fun W' hW' => ?_
    refine ((piece_any hM hn hpc 0 ix iv [] [] vj [] zb32 W' (hi.next hW') (WyP.zero l) (by rw [List.append_nil]; exact hrd.nextP hW') (fun p hp => hf p (List.mem_cons_of_mem _ hp)) (by omega) (by rw [List.append_nil]; omega) (by simpa using hl) (by simpa using hl)).2 hSS).mono (two_mono fun a b w' => ?_)
    rintro ⟨e1, e2⟩
    exact ⟨e1, trivial, e2⟩
  · refine (pgPage_none w0 B gr gm ap ps.length cp ps 0 ix iv [] [] (dig (topPg 0 l)) zb32 0 W hi (len_dig' _) hpl).mono ?_
    rintro e w' ⟨e1, e2⟩
    exact ⟨e1, hi.bel.trans (e2.mono hi.ge)⟩
end
theorem built_rd (f : Operand → Value) (o : Oper) (x y : Operand) (ap : Option Addr) (np cp gm : Nat) (ho : o.op = .build 66 #[(0, x), (1, y)]) (hx : f x = .slice ap np cp) (hy : f y = .map (some gm)) (w : World) : (execOp f o).run Tryd.prog w = .ok (.value (.agg (rdC (.slice ap np cp) gm 0 nilV nilV).toArray)) w := by
  unfold execOp
  rw [ho]
  simp only [List.map_toArray, List.map_cons, List.map_nil, hx, hy]
  kernel_rfl
theorem wpSeq_buildRd {ops : Array Oper} {Q : Exit → Act → World → Prop} {rest : List Oper} {o : Oper} {a : Act} {w : World} (x y : Operand) (ap : Option Addr) (np cp gm : Nat) (ho : o.op = .build 66 #[(0, x), (1, y)]) (hx : a.eval x = .slice ap np cp) (hy : a.eval y = .map (some gm)) (hw : Region.wanted o (yielded ops a.tmps) = true)
    (h : wpList Tryd.prog ops Q rest (a.put o.dst (.agg (rdC (.slice ap np cp) gm 0 nilV nilV).toArray)) w) : wpList Tryd.prog ops Q (o :: rest) a w := wpSeq_val _ _ hw (built_rd _ o x y ap np cp gm ho hx hy w) h
def rdZ : List Value := [.slice none 0 0, .map none, .int .i64 0, .slice none 0 0, .slice none 0 0]
theorem wpSeq_allocRd {ops : Array Oper} {Q : Exit → Act → World → Prop} {rest : List Oper} {o : Oper} {a : Act} {w : World} (ho : o.op = .alloc 66) (hw : Region.wanted o (yielded ops a.tmps) = true)
    (h : ∀ g w', Blk w' g rdZ 66 → w.heap.size ≤ g → Below w.heap.size w w' → wpList Tryd.prog ops Q rest (a.put o.dst (.pointer (some ⟨g, 0, none⟩))) w') : wpList Tryd.prog ops Q (o :: rest) a w :=
  wpSeq_val _ (w.alloc (.cells rdZ.toArray 66)) hw (by unfold execOp; rw [ho]; kernel_rfl) (h _ _ (Blk.new w _ _) (Nat.le_refl _) (below_alloc w _))
theorem wpSeq_storeRd {ops : Array Oper} {Q : Exit → Act → World → Prop} {rest : List Oper} {o : Oper} {a : Act} {w : World} (x y : Operand) (g : Nat) (ap : Option Addr) (np cp gm : Nat) (hb : Blk w g rdZ 66) (ho : o.op = .store 66 x y) (hx : a.eval x = .pointer (some ⟨g, 0, none⟩)) (hy : a.eval y = .agg (rdC (.slice ap np cp) gm 0 nilV nilV).toArray) (hgd : o.guard = none)
    (h : ∀ w', Blk w' g (rdC (.slice ap np cp) gm 0 nilV nilV) 66 → Only g w w' → wpList Tryd.prog ops Q rest (a.put o.dst undef) w') : wpList Tryd.prog ops Q (o :: rest) a w :=
  wpList_store_mid hgd 66 x y ho g 0 _ hx hy (hb.there 0 _ (by simp [rdC, rdZ])) (by kernel_rfl) (all_oneCell_toArray (by intro v hv; simp only [rdC, List.mem_cons, List.not_mem_nil, or_false] at hv; rcases hv with rfl | rfl | rfl | rfl | rfl <;> rfl))
    (by rw [List.toList_toArray]; exact h _ (hb.whole _ (by simp [rdC, rdZ])) (Only.setCells _ _ _ (Only.refl g w)))
set_option maxHeartbeats 8000000 in
theorem pgLoad_ok (l : List Lf) (pv : Value) (ps : List By) (w : World) (hK : KOk w) (h1 : okLf l) (h2 : Up l) (hl : l.length ≤ 60) (hR : ReadsL w pv ps) (hn : ps.length < 100000) (hb : ∀ p ∈ ps, p.length < 1125899906842624) (hf : Free ps (saveL 0 l)) (hk : (saveL 0 l).length ≤ ps.length + 1) (hS : ∀ p ∈ saveL 0 l, p ∈ ps) :
    Calls Tryd.prog 17 #[.agg (cb (dig (topPg 0 l))).toArray, pv] w fun e w' => ∃ g, e = .returned (.tuple #[.pointer (some ⟨g, 0, none⟩), .int .i64 0]) ∧ TT w' g l ∧ Below w.heap.size w w' := by
  obtain ⟨x, HX⟩ : ∃ z, Hid (z = dig (topPg 0 l)) := ⟨_, rfl⟩
  have HXL : Hid (x.length = 32) := by show _ = _; rw [HX.out]; exact len_dig' _
  obtain ⟨ap, cp, hpv⟩ : ∃ ap cp, pv = .slice ap ps.length cp := by obtain ⟨ad, cap, h, _⟩ := hR; exact ⟨ad, cap, h⟩
  subst hpv
  have hM := psM_of hR
  have HRL : Hid (ReadsL w (.slice ap ps.length cp) ps) := hR
  obtain ⟨np, HNP⟩ : ∃ z, Hid (z = ps.length) := ⟨_, rfl⟩
  have HPG : Hid (∀ gr gm W, RrI w w.heap.size gr gm (.slice ap np cp) ps 0 nilV nilV [] [] W → Calls Tryd.prog 31 #[.pointer (some ⟨gr, 0, none⟩), .agg (cb x).toArray, .agg (cb zb32).toArray, .int .i64 0] W fun e w' => e = .returned (.int .i64 0) ∧ ∃ k' ix' iv', RrI w w.heap.size gr gm (.slice ap np cp) ps k' ix' iv' (l.map (·.1)) (l.map (·.2)) w' ∧ RdG gr nilV nilV W ix' iv' w') := by
    rw [HX.out, HNP.out]
    intro gr gm W hi
    exact top_ok hM (by omega) l (fits_zero h1 h2) hf hk hS (by omega) nilV nilV W hi
  rw [← HNP.out] at HRL ⊢
  rw [← HX.out]
  have HK : Hid (KOk w) := hK
  have HK0 : Hid (KOk w) := hK
  have HL : Hid (okLf l ∧ Up l ∧ l.length ≤ 60) := ⟨h1, h2, hl⟩
  have HPB : Hid (ps.length < 100000 ∧ ∀ p ∈ ps, p.length < 1125899906842624) := ⟨hn, hb⟩
  have hq : ∀ wx : World, (Op.equalIn 10000 28 (.agg (cb x).toArray) (.agg (cb x).toArray)).run Tryd.prog wx = .ok true wx := fun wx => eq_dig_same x HXL.out wx
  clear hK h1 h2 hl hR hn hb hf hk hS hM
  go_enter Tryd.func17, Tryd.ntmps17
  have tk0 : Hid True := trivial
  have tk1 : Hid True := trivial
  have tk2 : Hid True := trivial
  have tk3 : Hid True := trivial
  have tk4 : Hid True := trivial
  have tk5 : Hid True := trivial
  have tk6 : Hid True := trivial
  have tk7 : Hid True := trivial
  have tk8 : Hid True := trivial
  have tk9 : Hid True := trivial
  have tk10 : Hid True := trivial
  have tk11 : Hid True := trivial
  have tk12 : Hid True := trivial
  have tk13 : Hid True := trivial
  go_wp2_with (first
    | (clear tk0; with_reducible refine wpSeq_boxD (.tmp 0) x ?_ ?_ ?_ ?_
       · rfl
       · rfl
       · rfl
       intro g2 w1 nn
       have HB1 : Hid (Below w.heap.size w w1) := nn.below
       have HG2 : Hid (Blk w1 g2 (cb x) 28 ∧ w.heap.size ≤ g2) := ⟨nn.blk, nn.ge⟩
       replace HK : Hid (KOk w1) := HK.out.below nn.below HK.out.lt
       replace HRL : Hid (ReadsL w1 (.slice ap np cp) ps) := HRL.out.below nn.below
       clear nn)
    | (clear tk1; go_at_call 30; refine (pgPlaces_any (.slice ap np cp) ps _ HK.out HRL.out HPB.out.1 HPB.out.2).mono ?_; rintro e w2 ⟨gm, rfl, hgm, hmp, hb⟩
       have HMP : Hid (MapP w2 gm ps.length (plK ps ps.length)) := hmp
       replace HG2 : Hid (Blk w2 g2 (cb x) 28 ∧ w.heap.size ≤ g2) := ⟨HG2.out.1.below hb HG2.out.1.lt, HG2.out.2⟩
       replace HB1 : Hid (Below w.heap.size w w2) := HB1.out.trans (hb.mono HB1.out.size)
       replace HK : Hid (KOk w2) := HK.out.below hb HK.out.lt
       clear hgm hmp hb)
    | (clear tk2; with_reducible refine wpSeq_buildRd (.tmp 11) (.tmp 13) ap np cp gm ?_ ?_ ?_ ?_ ?_
       · rfl
       · rfl
       · rfl
       · rfl
       have HQ0 : Hid True := trivial)
    | (clear tk3; with_reducible refine wpSeq_allocRd ?_ ?_ ?_
       · rfl
       · rfl
       intro gr w3 hb3 hge3 hbl3
       have HG3 : Hid (Blk w3 gr rdZ 66 ∧ w2.heap.size ≤ gr ∧ Below w2.heap.size w2 w3) := ⟨hb3, hge3, hbl3⟩
       clear hb3 hge3 hbl3)
    | (clear tk4; with_reducible refine wpSeq_storeRd (.tmp 6) (.tmp 14) gr ap np cp gm HG3.out.1 ?_ ?_ ?_ ?_ ?_
       · rfl
       · rfl
       · rfl
       · rfl
       intro w4 hb4 ho4
       have hbl : Below w2.heap.size w2 w4 := HG3.out.2.2.trans (ho4.below HG3.out.2.1 HG3.out.2.2.size)
       have HI4 : Hid (RrI w w.heap.size gr gm (.slice ap np cp) ps 0 nilV nilV [] [] w4) := ⟨HB1.out.trans (hbl.mono HB1.out.size), Nat.le_trans HB1.out.size hbl.size, hb4, Nat.le_trans HB1.out.size HG3.out.2.1, HMP.out.next hbl, OwnD.nil _ _, OwnD.nil _ _, fun j hj => by cases hj⟩
       replace HG2 : Hid (Blk w4 g2 (cb x) 28 ∧ w.heap.size ≤ g2) := ⟨HG2.out.1.below hbl HG2.out.1.lt, HG2.out.2⟩
       have HNE : Hid (g2 ≠ gr) := fun e => by have h1 := HG2.out.1; have h2 := hb4; rw [e] at h1; unfold Blk at h1 h2; rw [h1] at h2; simp only [Option.some.injEq, Obj.cells.injEq] at h2; exact absurd h2.2.1 (by decide)
       clear hb4 ho4 hbl HG3)
    | (clear tk5; with_reducible refine wpSeq_loadD (.tmp 2) g2 x HXL.out HG2.out.1 ?_ ?_ ?_ ?_
       · rfl
       · rfl
       · rfl
       have HQ1 : Hid True := trivial)
    | (clear tk6; with_reducible refine wpSeq_buildZ0 ?_ ?_ ?_
       · rfl
       · rfl
       have HQ2 : Hid True := trivial)
    | (clear tk7; go_at_call 31; refine (HPG.out gr gm _ HI4.out).mono ?_; rintro e w5 ⟨rfl, k', ix', iv', hi5, hg5⟩
       have HI5 : Hid (RrI w w.heap.size gr gm (.slice ap np cp) ps k' ix' iv' (l.map (·.1)) (l.map (·.2)) w5) := hi5
       have HG5 : Hid (Blk w5 g2 (cb x) 28 ∧ w.heap.size ≤ g2) := ⟨hg5.blk HG2.out.1 HNE.out (fun e => by cases e) (fun e => by cases e), HG2.out.2⟩
       have HK5 : Hid (KOk w5) := HK0.out.below hi5.bel HK0.out.lt
       obtain ⟨a5, c5, hix⟩ := hi5.oi.slice
       obtain ⟨b5, d5, hiv⟩ := hi5.ov.slice
       have hc3 : w5.cell? ⟨gr, 3, none⟩ = some ix' := hi5.blk.cell 3
       have hc4 : w5.cell? ⟨gr, 4, none⟩ = some iv' := hi5.blk.cell 4
       obtain ⟨n5, HN5⟩ : ∃ z : Nat, Hid (z = (l.map (·.1)).length) := ⟨_, rfl⟩
       obtain ⟨m5, HM5⟩ : ∃ z : Nat, Hid (z = (l.map (·.2)).length) := ⟨_, rfl⟩
       rw [← HN5.out] at hix
       rw [← HM5.out] at hiv
       subst hix
       subst hiv
       clear hi5 hg5)
    | (clear tk8; go_at_call 10; refine (trOf_any _ _ _ (l.map (·.1)) (l.map (·.2)) HK5.out HI5.out.oi.readsD HI5.out.ov.readsD (by rw [List.length_map]; have := HL.out.2.2; omega)).mono ?_; rintro e w6 ⟨gt, rfl, ht, hb⟩
       rw [zip_self, ofL_self HL.out.2.1] at ht
       have HT6 : Hid (TT w6 gt l) := ht
       have HB6 : Hid (Below w.heap.size w w6) := HI5.out.bel.trans (hb.mono HI5.out.ge)
       replace HK5 : Hid (KOk w6) := HK5.out.below hb HK5.out.lt
       replace HG5 : Hid (Blk w6 g2 (cb x) 28 ∧ w.heap.size ≤ g2) := ⟨HG5.out.1.below hb HG5.out.1.lt, HG5.out.2⟩
       clear ht hb HI5)
    | (clear tk9; go_at_call 11; refine (pgSave_any gt l _ HK5.out HT6.out (Nat.le_trans HL.out.2.2 (by decide))).mono ?_; rintro e w7 ⟨v7, us7, rfl, _, hb⟩
       rw [← HX.out]
       have HT7 : Hid (TT w7 gt l) := HT6.out.next hb
       have HB7 : Hid (Below w.heap.size w w7) := HB6.out.trans (hb.mono HB6.out.size)
       replace HG5 : Hid (Blk w7 g2 (cb x) 28 ∧ w.heap.size ≤ g2) := ⟨HG5.out.1.below hb HG5.out.1.lt, HG5.out.2⟩
       clear hb)
    | (clear tk10; with_reducible refine wpSeq_allocD ?_ ?_ ?_
       · rfl
       · rfl
       intro g9 w8 nn
       have HN8 : Hid (Blk w8 g9 (cb zb32) 28 ∧ w7.heap.size ≤ g9 ∧ Below w7.heap.size w7 w8) := ⟨nn.blk, nn.ge, nn.below⟩
       clear nn)
    | (clear tk11; with_reducible refine wpSeq_storeD (.tmp 9) (.tmp 29) g9 zb32 x zb32_len HXL.out HN8.out.1 ?_ ?_ ?_ ?_ ?_
       · rfl
       · rfl
       · rfl
       · rfl
       intro w9 h9
       have hb : Below w7.heap.size w7 w9 := HN8.out.2.2.trans (h9.only.below HN8.out.2.1 HN8.out.2.2.size)
       have HG9 : Hid (Blk w9 g9 (cb x) 28) := h9.blk
       replace HG5 : Hid (Blk w9 g2 (cb x) 28 ∧ w.heap.size ≤ g2) := ⟨HG5.out.1.below hb HG5.out.1.lt, HG5.out.2⟩
       have HF9 : Hid (TT w9 gt l ∧ Below w.heap.size w w9) := ⟨HT7.out.next hb, HB7.out.trans (hb.mono HB7.out.size)⟩
       clear h9 hb HN8)
    | (clear tk12; with_reducible refine wpSeq_loadD (.tmp 9) g9 x HXL.out HG9.out ?_ ?_ ?_ ?_
       · rfl
       · rfl
       · rfl
       have HQ3 : Hid True := trivial)
    | (clear tk13; with_reducible refine wpSeq_loadD (.tmp 2) g2 x HXL.out HG5.out.1 ?_ ?_ ?_ ?_
       · rfl
       · rfl
       · rfl
       have HQ4 : Hid True := trivial))
  refine bodyPost_ret (results_tmp2 rfl _ _ _) rfl ?_
  exact ⟨gt, rfl, HF9.out.1, HF9.out.2⟩
set_option maxHeartbeats 8000000 in
theorem pgLoad_fail (x : By) (pv : Value) (ps : List By) (w : World) (hK : KOk w) (hx : x.length = 32) (hR : ReadsL w pv ps) (hn : ps.length < 100000) (hb : ∀ p ∈ ps, p.length < 1125899906842624)
    (hpg : ∀ ap cp gr gm W, pv = .slice ap ps.length cp → RrI w w.heap.size gr gm (.slice ap ps.length cp) ps 0 nilV nilV [] [] W → Calls Tryd.prog 31 #[.pointer (some ⟨gr, 0, none⟩), .agg (cb x).toArray, .agg (cb zb32).toArray, .int .i64 0] W fun e w' => e = .returned (.int .i64 7) ∧ Below w.heap.size w w') :
    Calls Tryd.prog 17 #[.agg (cb x).toArray, pv] w fun e w' => e = .returned (.tuple #[.pointer none, .int .i64 7]) ∧ Below w.heap.size w w' := by
  have HXL : Hid (x.length = 32) := hx
  obtain ⟨ap, cp, hpv⟩ : ∃ ap cp, pv = .slice ap ps.length cp := by obtain ⟨ad, cap, h, _⟩ := hR; exact ⟨ad, cap, h⟩
  subst hpv
  have HRL : Hid (ReadsL w (.slice ap ps.length cp) ps) := hR
  obtain ⟨np, HNP⟩ : ∃ z, Hid (z = ps.length) := ⟨_, rfl⟩
  have HPG : Hid (∀ gr gm W, RrI w w.heap.size gr gm (.slice ap np cp) ps 0 nilV nilV [] [] W → Calls Tryd.prog 31 #[.pointer (some ⟨gr, 0, none⟩), .agg (cb x).toArray, .agg (cb zb32).toArray, .int .i64 0] W fun e w' => e = .returned (.int .i64 7) ∧ Below w.heap.size w w') := by
    rw [HNP.out]
    exact fun gr gm W hi => hpg ap cp gr gm W rfl hi
  rw [← HNP.out] at HRL ⊢
  have HK : Hid (KOk w) := hK
  have HK0 : Hid (KOk w) := hK
  have HPB : Hid (ps.length < 100000 ∧ ∀ p ∈ ps, p.length < 1125899906842624) := ⟨hn, hb⟩
  have hq : ∀ wx : World, (Op.equalIn 10000 28 (.agg (cb x).toArray) (.agg (cb x).toArray)).run Tryd.prog wx = .ok true wx := fun wx => eq_dig_same x HXL.out wx
  clear hK hR hn hb hpg hx
  go_enter Tryd.func17, Tryd.ntmps17
  have tk0 : Hid True := trivial
  have tk1 : Hid True := trivial
  have tk2 : Hid True := trivial
  have tk3 : Hid True := trivial
  have tk4 : Hid True := trivial
  have tk5 : Hid True := trivial
  have tk6 : Hid True := trivial
  have tk7 : Hid True := trivial
  go_wp2_with (first
    | (clear tk0; with_reducible refine wpSeq_boxD (.tmp 0) x ?_ ?_ ?_ ?_
       · rfl
       · rfl
       · rfl
       intro g2 w1 nn
       have HB1 : Hid (Below w.heap.size w w1) := nn.below
       have HG2 : Hid (Blk w1 g2 (cb x) 28 ∧ w.heap.size ≤ g2) := ⟨nn.blk, nn.ge⟩
       replace HK : Hid (KOk w1) := HK.out.below nn.below HK.out.lt
       replace HRL : Hid (ReadsL w1 (.slice ap np cp) ps) := HRL.out.below nn.below
       clear nn)
    | (clear tk1; go_at_call 30; refine (pgPlaces_any (.slice ap np cp) ps _ HK.out HRL.out HPB.out.1 HPB.out.2).mono ?_; rintro e w2 ⟨gm, rfl, hgm, hmp, hb⟩
       have HMP : Hid (MapP w2 gm ps.length (plK ps ps.length)) := hmp
       replace HG2 : Hid (Blk w2 g2 (cb x) 28 ∧ w.heap.size ≤ g2) := ⟨HG2.out.1.below hb HG2.out.1.lt, HG2.out.2⟩
       replace HB1 : Hid (Below w.heap.size w w2) := HB1.out.trans (hb.mono HB1.out.size)
       replace HK : Hid (KOk w2) := HK.out.below hb HK.out.lt
       clear hgm hmp hb)
    | (clear tk2; with_reducible refine wpSeq_buildRd (.tmp 11) (.tmp 13) ap np cp gm ?_ ?_ ?_ ?_ ?_
       · rfl
       · rfl
       · rfl
       · rfl
       have HQ0 : Hid True := trivial)
    | (clear tk3; with_reducible refine wpSeq_allocRd ?_ ?_ ?_
       · rfl
       · rfl
       intro gr w3 hb3 hge3 hbl3
       have HG3 : Hid (Blk w3 gr rdZ 66 ∧ w2.heap.size ≤ gr ∧ Below w2.heap.size w2 w3) := ⟨hb3, hge3, hbl3⟩
       clear hb3 hge3 hbl3)
    | (clear tk4; with_reducible refine wpSeq_storeRd (.tmp 6) (.tmp 14) gr ap np cp gm HG3.out.1 ?_ ?_ ?_ ?_ ?_
       · rfl
       · rfl
       · rfl
       · rfl
       intro w4 hb4 ho4
       have hbl : Below w2.heap.size w2 w4 := HG3.out.2.2.trans (ho4.below HG3.out.2.1 HG3.out.2.2.size)
       have HI4 : Hid (RrI w w.heap.size gr gm (.slice ap np cp) ps 0 nilV nilV [] [] w4) := ⟨HB1.out.trans (hbl.mono HB1.out.size), Nat.le_trans HB1.out.size hbl.size, hb4, Nat.le_trans HB1.out.size HG3.out.2.1, HMP.out.next hbl, OwnD.nil _ _, OwnD.nil _ _, fun j hj => by cases hj⟩
       replace HG2 : Hid (Blk w4 g2 (cb x) 28 ∧ w.heap.size ≤ g2) := ⟨HG2.out.1.below hbl HG2.out.1.lt, HG2.out.2⟩
       have HNE : Hid (g2 ≠ gr) := fun e => by have h1 := HG2.out.1; have h2 := hb4; rw [e] at h1; unfold Blk at h1 h2; rw [h1] at h2; simp only [Option.some.injEq, Obj.cells.injEq] at h2; exact absurd h2.2.1 (by decide)
       clear hb4 ho4 hbl HG3)
    | (clear tk5; with_reducible refine wpSeq_loadD (.tmp 2) g2 x HXL.out HG2.out.1 ?_ ?_ ?_ ?_
       · rfl
       · rfl
       · rfl
       have HQ1 : Hid True := trivial)
    | (clear tk6; with_reducible refine wpSeq_buildZ0 ?_ ?_ ?_
       · rfl
       · rfl
       have HQ2 : Hid True := trivial)
    | (clear tk7; go_at_call 31; refine (HPG.out gr gm _ HI4.out).mono ?_; rintro e w5 ⟨rfl, hb5⟩
       have HB5 : Hid (Below w.heap.size w w5) := hb5
       clear hb5))
  refine bodyPost_ret (results_tmp2 rfl _ _ _) rfl ?_
  exact ⟨rfl, HB5.out⟩
theorem pgLoad_no (l : List Lf) (pv : Value) (ps : List By) (w : World) (hK : KOk w) (h1 : okLf l) (h2 : Up l) (hl : l.length ≤ 60) (hR : ReadsL w pv ps) (hn : ps.length < 100000) (hb : ∀ p ∈ ps, p.length < 1125899906842624) (hf : Free ps (saveL 0 l)) (hk : (saveL 0 l).length ≤ ps.length + 1) (hS : ¬ ∀ p ∈ saveL 0 l, p ∈ ps) :
    Calls Tryd.prog 17 #[.agg (cb (dig (topPg 0 l))).toArray, pv] w fun e w' => e = .returned (.tuple #[.pointer none, .int .i64 7]) ∧ Below w.heap.size w w' :=
  pgLoad_fail _ pv ps w hK (len_dig' _) hR hn hb fun ap cp gr gm W hpv hi => top_no (psM_of (by rw [← hpv]; exact hR)) (by omega) l (fits_zero h1 h2) hf hk hS (by omega) nilV nilV W hi
/-- of a digest that no page has -/
theorem pgLoad_none (x : By) (pv : Value) (ps : List By) (w : World) (hK : KOk w) (hx : x.length = 32) (hR : ReadsL w pv ps) (hn : ps.length < 100000) (hb : ∀ p ∈ ps, p.length < 1125899906842624) (hp : ∀ p ∈ ps, dig p ≠ x) :
    Calls Tryd.prog 17 #[.agg (cb x).toArray, pv] w fun e w' => e = .returned (.tuple #[.pointer none, .int .i64 7]) ∧ Below w.heap.size w w' :=
  pgLoad_fail x pv ps w hK hx hR hn hb fun ap cp gr gm W _ hi => by
    have hpl : plK ps ps.length x = none := by
      cases h : plK ps ps.length x with
      | none => rfl
      | some i =>
        obtain ⟨h1, h2⟩ := plK_some h
        exact absurd h2 (hp _ (by rw [List.getD_eq_getElem?_getD, List.getElem?_eq_getElem h1]; exact List.getElem_mem h1))
    refine (pgPage_none w w.heap.size gr gm ap ps.length cp ps 0 nilV nilV [] [] x zb32 0 W hi hx hpl).mono ?_
    rintro e w' ⟨e1, e2⟩
    exact ⟨e1, hi.bel.trans (e2.mono hi.ge)⟩
end Go.Proofs.YtphmmnffgknkcaaDoor
/- Pages, plainly: the tree of the statements' works (layer 17). -/
namespace Go.Proofs.YtphmmnffgknkcaaDoor
open Go.RowKit
set_option maxRecDepth 100000
def dgt17 (b : BitVec 8) : By := b :: List.replicate 31 0
def lfW : List Lf := [(dgt17 1, dgt17 7), (dgt17 2, dgt17 8)]
theorem whole_w : (wholeL 0 lfW).length = 143 := by decide +kernel
theorem dig_w : dig (wholeL 0 lfW) ≠ zb32 := by decide +kernel
theorem head_w : (wholeL 0 lfW).head? = some 2 := by decide +kernel
end Go.Proofs.YtphmmnffgknkcaaDoor
/- The walk of the statements' works (layer 17). -/
namespace Go.Proofs.YtphmmnffgknkcaaDoor
open Go.RowKit
set_option maxRecDepth 100000
theorem reads_some {w : World} {v : Value} {l : By} (h : Reads w v l) (hp : 0 < l.length) : ∃ b off n c, v = .slice (some ⟨b, off, none⟩) n c := by
  obtain ⟨ad, c, rfl, h2, h3, h4⟩ := h
  obtain ⟨b, off, rfl, _⟩ := h4 hp
  exact ⟨b, off, _, c, rfl⟩
theorem build_dd (f : Operand → Value) (o : Oper) (x y : Operand) (ho : o.op = .buildSlice 22 2 #[(0, x), (1, y)]) (p q : By) (hp : p.length = 32) (hq : q.length = 32) (hx : f x = .agg (cb p).toArray) (hy : f y = .agg (cb q).toArray) (w : World) :
    (execOp f o).run Tryd.prog w = .ok (.value (.slice (some ⟨w.heap.size, 0, none⟩) 2 2)) (w.alloc (.cells (cb p ++ cb q).toArray 28)) := by
  unfold execOp
  rw [ho]
  simp only [List.map_toArray, List.map_cons, List.map_nil, hx, hy]
  match p, hp, q, hq with
  | [x0, x1, x2, x3, x4, x5, x6, x7, x8, x9, x10, x11, x12, x13, x14, x15, x16, x17, x18, x19, x20, x21, x22, x23, x24, x25, x26, x27, x28, x29, x30, x31], _, [y0, y1, y2, y3, y4, y5, y6, y7, y8, y9, y10, y11, y12, y13, y14, y15, y16, y17, y18, y19, y20, y21, y22, y23, y24, y25, y26, y27, y28, y29, y30, y31], _ =>
    refine id ?_
    show _ = _
    kernel_rfl
theorem readsD_two {w : World} {g : Nat} {p q : By} (hp : p.length = 32) (hq : q.length = 32) (h : Blk w g (cb p ++ cb q) 28) : ReadsD w (.slice (some ⟨g, 0, none⟩) 2 2) [p, q] :=
  ⟨⟨_, 2, rfl, Nat.le_refl _, (fun e => by cases e), fun _ => ⟨g, 0, rfl, fun j hj => by
    have hr := h.range
    match j, hj with
    | 0, _ => exact range_left hr
    | 1, _ => have := range_right hr (n := 32) (by rw [cb_len, hp]); exact this⟩⟩, fun d hd => by
    simp only [List.mem_cons, List.not_mem_nil, or_false] at hd
    rcases hd with rfl | rfl
    · exact hp
    · exact hq⟩
theorem wpSeq_buildDD {ops : Array Oper} {Q : Exit → Act → World → Prop} {rest : List Oper} {o : Oper} {a : Act} {w : World} (x y : Operand) (p q : By) (hp : p.length = 32) (hq : q.length = 32) (ho : o.op = .buildSlice 22 2 #[(0, x), (1, y)]) (hx : a.eval x = .agg (cb p).toArray) (hy : a.eval y = .agg (cb q).toArray) (hw : Region.wanted o (yielded ops a.tmps) = true)
    (h : ∀ g w', ReadsD w' (.slice (some ⟨g, 0, none⟩) 2 2) [p, q] → Below w.heap.size w w' → wpList Tryd.prog ops Q rest (a.put o.dst (.slice (some ⟨g, 0, none⟩) 2 2)) w') : wpList Tryd.prog ops Q (o :: rest) a w :=
  wpSeq_val _ _ hw (build_dd _ o x y ho p q hp hq hx hy w) (h _ _ (readsD_two hp hq (Blk.new w _ _)) (below_alloc w _))
theorem wpSeq_dgt {ops : Array Oper} {Q : Exit → Act → World → Prop} {rest : List Oper} {o : Oper} {a : Act} {w : World} (b : BitVec 8) (ho : o.op = .build 28 #[(0, .const (.int .u8 (b.toNat : Int)))]) (hw : Region.wanted o (yielded ops a.tmps) = true)
    (h : wpList Tryd.prog ops Q rest (a.put o.dst (.agg (cb (dgt17 b)).toArray)) w) : wpList Tryd.prog ops Q (o :: rest) a w := by
  refine wpSeq_val _ _ hw ?_ h
  unfold execOp
  rw [ho]
  simp only [Act.eval, List.map_toArray, List.map_cons, List.map_nil]
  kernel_rfl
theorem lfW_ok : okLf lfW ∧ Up lfW ∧ ofL ([dgt17 1, dgt17 2].zip [dgt17 7, dgt17 8]) = lfW := by
  have h1 : okLf lfW := fun p hp => by
    unfold lfW at hp
    simp only [List.mem_cons, List.not_mem_nil, or_false] at hp
    rcases hp with rfl | rfl <;> exact ⟨rfl, rfl⟩
  have h2 : Up lfW := by
    unfold Up lfW
    refine List.pairwise_cons.2 ⟨fun q hq => ?_, List.pairwise_cons.2 ⟨(fun q hq => by cases hq), List.Pairwise.nil⟩⟩
    rw [List.mem_singleton.1 hq]
    decide +kernel
  exact ⟨h1, h2, ofL_self h2⟩
theorem save_w : saveL 0 lfW = [wholeL 0 lfW] ∧ topPg 0 lfW = wholeL 0 lfW := ⟨save_one (by rw [whole_w]; decide), top_one (by rw [whole_w]; decide)⟩
set_option maxHeartbeats 16000000 in
theorem works17_any (w : World) (hK : KOk w) : Calls Tryd.prog 9 #[] w fun e w' => e = .returned (.bool true) ∧ Below w.heap.size w w' := by
  have HK : Hid (KOk w) := hK
  have HBW : Hid (Below w.heap.size w w) := Below.refl _ _
  obtain ⟨x1, H1⟩ : ∃ x, Hid (x = dgt17 1) := ⟨_, rfl⟩
  obtain ⟨x2, H2⟩ : ∃ x, Hid (x = dgt17 2) := ⟨_, rfl⟩
  obtain ⟨x7, H7⟩ : ∃ x, Hid (x = dgt17 7) := ⟨_, rfl⟩
  obtain ⟨x8, H8⟩ : ∃ x, Hid (x = dgt17 8) := ⟨_, rfl⟩
  have HL : Hid (x1.length = 32 ∧ x2.length = 32 ∧ x7.length = 32 ∧ x8.length = 32) := by rw [H1.out, H2.out, H7.out, H8.out]; exact ⟨rfl, rfl, rfl, rfl⟩
  obtain ⟨l, HLF⟩ : ∃ l, Hid (l = lfW) := ⟨_, rfl⟩
  have HOF : Hid (ofL ([x1, x2].zip [x7, x8]) = l ∧ okLf l ∧ Up l ∧ l.length ≤ 60) := by
    rw [H1.out, H2.out, H7.out, H8.out, HLF.out]
    exact ⟨lfW_ok.2.2, lfW_ok.1, lfW_ok.2.1, by decide⟩
  obtain ⟨t, HT⟩ : ∃ t, Hid (t = wholeL 0 lfW) := ⟨_, rfl⟩
  have HS : Hid (saveL 0 l = [t] ∧ topPg 0 l = t) := by rw [HLF.out, HT.out]; exact save_w
  have HTL : Hid (t.length = 143) := by show _ = _; rw [HT.out]; exact whole_w
  have HTH : Hid (t.head? = some 2) := by show _ = _; rw [HT.out]; exact head_w
  obtain ⟨dg, HDG⟩ : ∃ x, Hid (x = dig t) := ⟨_, rfl⟩
  have HDL : Hid (dg.length = 32) := by show _ = _; rw [HDG.out]; exact len_dig' _
  have HDN : Hid (dg ≠ zb32) := by show _ ≠ _; rw [HDG.out, HT.out]; exact dig_w
  have HFZ : Hid (Fits l 0) := fits_zero HOF.out.2.1 HOF.out.2.2.1
  obtain ⟨rt, HRT⟩ : ∃ x, Hid (x = rootL l 0) := ⟨_, rfl⟩
  have HRL : Hid (rt.length = 32) := by show _ = _; rw [HRT.out]; exact rootL_len (fits_zero HOF.out.2.1 HOF.out.2.2.1)
  have hq : ∀ wx : World, (Op.equalIn 10000 28 (.agg (cb rt).toArray) (.agg (cb rt).toArray)).run Tryd.prog wx = .ok true wx := fun wx => eq_dig_same rt HRL.out wx
  obtain ⟨z, HZ⟩ : ∃ x, Hid (x = zb32) := ⟨_, rfl⟩
  have HLD1 : Hid (∀ (gv cv : Nat) (W : World), KOk W → ReadsL W (.slice (some ⟨gv, 0, none⟩) 1 cv) [t] → Calls Tryd.prog 17 #[.agg (cb dg).toArray, .slice (some ⟨gv, 0, none⟩) 1 cv] W fun e w' => ∃ g, e = .returned (.tuple #[.pointer (some ⟨g, 0, none⟩), .int .i64 0]) ∧ TT w' g l ∧ Below W.heap.size W w') := by
    show ∀ (gv cv : Nat) (W : World), _
    intro gv cv W hKW hRW
    rw [HDG.out, ← HS.out.2]
    exact pgLoad_ok l _ [t] W hKW HOF.out.2.1 HOF.out.2.2.1 HOF.out.2.2.2 hRW (by simp) (by intro p hp; rw [List.mem_singleton.1 hp, HTL.out]; decide) (by intro p hp q hq _; rw [HS.out.1] at hp; rw [List.mem_singleton.1 hp, List.mem_singleton.1 hq]) (by rw [HS.out.1]; exact Nat.le_succ _) (by rw [HS.out.1]; exact fun p hp => hp)
  have HLD2 : Hid (∀ (gv cv : Nat) (W : World), KOk W → ReadsL W (.slice (some ⟨gv, 0, none⟩) 1 cv) [t] → Calls Tryd.prog 17 #[.agg (cb z).toArray, .slice (some ⟨gv, 0, none⟩) 1 cv] W fun e w' => e = .returned (.tuple #[.pointer none, .int .i64 7]) ∧ Below W.heap.size W w') := by
    show ∀ (gv cv : Nat) (W : World), _
    intro gv cv W hKW hRW
    exact pgLoad_none z _ [t] W hKW (by rw [HZ.out]; exact zb32_len) hRW (by simp) (by intro p hp; rw [List.mem_singleton.1 hp, HTL.out]; decide) (by intro p hp; rw [List.mem_singleton.1 hp, ← HDG.out, HZ.out]; exact HDN.out)
  clear hK
  go_enter Tryd.func9, Tryd.ntmps9
  have tk0 : Hid True := trivial
  have tk1 : Hid True := trivial
  have tk2 : Hid True := trivial
  have tk3 : Hid True := trivial
  have tk4 : Hid True := trivial
  have tk5 : Hid True := trivial
  have tk6 : Hid True := trivial
  have tk7 : Hid True := trivial
  have tk8 : Hid True := trivial
  have tk9 : Hid True := trivial
  have tk10 : Hid True := trivial
  have tk11 : Hid True := trivial
  have tk12 : Hid True := trivial
  have tk13 : Hid True := trivial
  have tk14 : Hid True := trivial
  have tk15 : Hid True := trivial
  go_wp2_with (first
    | (clear tk0; with_reducible refine wpSeq_dgt 1 ?_ ?_ ?_
       · rfl
       · rfl
       rw [← H1.out])
    | (clear tk1; with_reducible refine wpSeq_dgt 2 ?_ ?_ ?_
       · rfl
       · rfl
       rw [← H2.out])
    | (clear tk2; with_reducible refine wpSeq_buildDD (.tmp 8) (.tmp 9) x1 x2 HL.out.1 HL.out.2.1 ?_ ?_ ?_ ?_ ?_
       · rfl
       · rfl
       · rfl
       · rfl
       intro g1 w1 hr hb
       have HRA : Hid (ReadsD w1 (.slice (some ⟨g1, 0, none⟩) 2 2) [x1, x2]) := hr
       clear hr
       replace HK : Hid (KOk w1) := HK.out.below hb HK.out.lt
       replace HBW : Hid (Below w.heap.size w w1) := HBW.out.trans (hb.mono HBW.out.size)
       clear hb)
    | (clear tk3; with_reducible refine wpSeq_dgt 7 ?_ ?_ ?_
       · rfl
       · rfl
       rw [← H7.out])
    | (clear tk4; with_reducible refine wpSeq_dgt 8 ?_ ?_ ?_
       · rfl
       · rfl
       rw [← H8.out])
    | (clear tk5; with_reducible refine wpSeq_buildDD (.tmp 11) (.tmp 12) x7 x8 HL.out.2.2.1 HL.out.2.2.2 ?_ ?_ ?_ ?_ ?_
       · rfl
       · rfl
       · rfl
       · rfl
       intro g2 w2 hr hb
       have HRB : Hid (ReadsD w2 (.slice (some ⟨g2, 0, none⟩) 2 2) [x7, x8]) := hr
       replace HRA : Hid (ReadsD w2 (.slice (some ⟨g1, 0, none⟩) 2 2) [x1, x2]) := HRA.out.below hb
       clear hr
       replace HK : Hid (KOk w2) := HK.out.below hb HK.out.lt
       replace HBW : Hid (Below w.heap.size w w2) := HBW.out.trans (hb.mono HBW.out.size)
       clear hb)
    | (clear tk6; go_at_call 10; refine (trOf_any _ _ _ [x1, x2] [x7, x8] HK.out HRA.out HRB.out (by simp)).mono ?_; rintro e w3 ⟨gt, rfl, ht, hb⟩
       rw [HOF.out.1] at ht
       have HT3 : Hid (TT w3 gt l) := ht
       clear ht HRA HRB
       replace HK : Hid (KOk w3) := HK.out.below hb HK.out.lt
       replace HBW : Hid (Below w.heap.size w w3) := HBW.out.trans (hb.mono HBW.out.size)
       clear hb)
    | (clear tk7; go_at_call 11; refine (pgSave_any gt l _ HK.out HT3.out (Nat.le_trans HOF.out.2.2.2 (by decide))).mono ?_; rintro e w4 ⟨v, us, rfl, hp, hb⟩
       rw [HS.out.1] at hp
       rw [HS.out.2, ← HDG.out]
       have hlen : us.length = 1 := hp.len
       obtain ⟨u, hu⟩ := List.length_eq_one_iff.1 hlen
       subst hu
       obtain ⟨gv, cv, hv, hcell, _⟩ := hp.own.at (j := 0) (u := u) rfl
       have hv : v = .slice (some ⟨gv, 0, none⟩) 1 cv := hv
       subst hv
       have hrd := (hp.good 0 u rfl).1
       rw [List.getD_cons_zero] at hrd
       obtain ⟨ub, uo, un, uc, hu⟩ := reads_some hrd (by rw [HTL.out]; decide)
       subst hu
       have HPR : Hid (ReadsL w4 (.slice (some ⟨gv, 0, none⟩) 1 cv) [t] ∧ w4.cell? ⟨gv, 0, none⟩ = some (.slice (some ⟨ub, uo, none⟩) un uc) ∧ Reads w4 (.slice (some ⟨ub, uo, none⟩) un uc) t) := ⟨hp.readsL, hcell, hrd⟩
       have HUN : Hid (un = 143) := by obtain ⟨_, _, h1, _⟩ := hrd; simp only [Value.slice.injEq] at h1; show _ = _; rw [h1.2.1, HTL.out]
       replace HT3 : Hid (TT w4 gt l) := HT3.out.next hb
       clear hp hcell hrd hlen
       replace HK : Hid (KOk w4) := HK.out.below hb HK.out.lt
       replace HBW : Hid (Below w.heap.size w w4) := HBW.out.trans (hb.mono HBW.out.size)
       clear hb)
    | (clear tk8; with_reducible refine wpSeq_allocD ?_ ?_ ?_
       · rfl
       · rfl
       intro g5 w5 nn
       have HN5 : Hid (Blk w5 g5 (cb zb32) 28 ∧ w4.heap.size ≤ g5 ∧ Below w4.heap.size w4 w5) := ⟨nn.blk, nn.ge, nn.below⟩
       clear nn)
    | (clear tk9; with_reducible refine wpSeq_storeD (.tmp 2) (.tmp 20) g5 zb32 dg zb32_len HDL.out HN5.out.1 ?_ ?_ ?_ ?_ ?_
       · rfl
       · rfl
       · rfl
       · rfl
       intro w6 h9
       have hb : Below w4.heap.size w4 w6 := HN5.out.2.2.trans (h9.only.below HN5.out.2.1 HN5.out.2.2.size)
       have HG5 : Hid (Blk w6 g5 (cb dg) 28) := h9.blk
       replace HPR : Hid (ReadsL w6 (.slice (some ⟨gv, 0, none⟩) 1 cv) [t] ∧ w6.cell? ⟨gv, 0, none⟩ = some (.slice (some ⟨ub, uo, none⟩) un uc) ∧ Reads w6 (.slice (some ⟨ub, uo, none⟩) un uc) t) := ⟨HPR.out.1.below hb, by rw [hb.cell (p := ⟨gv, 0, none⟩) (block_lt_of_cell HPR.out.2.1)]; exact HPR.out.2.1, HPR.out.2.2.below hb⟩
       replace HT3 : Hid (TT w6 gt l) := HT3.out.next hb
       clear h9 HN5
       replace HK : Hid (KOk w6) := HK.out.below hb HK.out.lt
       replace HBW : Hid (Below w.heap.size w w6) := HBW.out.trans (hb.mono HBW.out.size)
       clear hb)
    | (clear tk10; with_reducible refine wpSeq_loadD (.tmp 2) g5 dg HDL.out HG5.out ?_ ?_ ?_ ?_
       · rfl
       · rfl
       · rfl
       have HQ1 : Hid True := trivial)
    | (clear tk11; go_at_call 17; refine (HLD1.out gv cv _ HK.out HPR.out.1).mono ?_; rintro e w7 ⟨gu, rfl, ht, hb⟩
       have HT7 : Hid (TT w7 gu l) := ht
       clear ht
       replace HPR : Hid (ReadsL w7 (.slice (some ⟨gv, 0, none⟩) 1 cv) [t] ∧ w7.cell? ⟨gv, 0, none⟩ = some (.slice (some ⟨ub, uo, none⟩) un uc) ∧ Reads w7 (.slice (some ⟨ub, uo, none⟩) un uc) t) := ⟨HPR.out.1.below hb, by rw [hb.cell (p := ⟨gv, 0, none⟩) (block_lt_of_cell HPR.out.2.1)]; exact HPR.out.2.1, HPR.out.2.2.below hb⟩
       replace HT3 : Hid (TT w7 gt l) := HT3.out.next hb
       replace HK : Hid (KOk w7) := HK.out.below hb HK.out.lt
       replace HBW : Hid (Below w.heap.size w w7) := HBW.out.trans (hb.mono HBW.out.size)
       clear hb)
    | (clear tk12; with_reducible refine wpSeq_buildZ0 ?_ ?_ ?_
       · rfl
       · rfl
       rw [← HZ.out])
    | (clear tk13; go_at_call 17; refine (HLD2.out gv cv _ HK.out HPR.out.1).mono ?_; rintro e w8 ⟨rfl, hb⟩
       replace HT7 : Hid (TT w8 gu l) := HT7.out.next hb
       replace HPR : Hid (ReadsL w8 (.slice (some ⟨gv, 0, none⟩) 1 cv) [t] ∧ w8.cell? ⟨gv, 0, none⟩ = some (.slice (some ⟨ub, uo, none⟩) un uc) ∧ Reads w8 (.slice (some ⟨ub, uo, none⟩) un uc) t) := ⟨HPR.out.1.below hb, by rw [hb.cell (p := ⟨gv, 0, none⟩) (block_lt_of_cell HPR.out.2.1)]; exact HPR.out.2.1, HPR.out.2.2.below hb⟩
       replace HT3 : Hid (TT w8 gt l) := HT3.out.next hb
       have c1 : w8.cell? ⟨gv, 0, none⟩ = some (.slice (some ⟨ub, uo, none⟩) un uc) := HPR.out.2.1
       have c2 : w8.cell? ⟨ub, uo, none⟩ = some (.int .u8 2) := by
         obtain ⟨b0, o0, n0, k0, h1, h2⟩ : ∃ b0 o0 n0 k0, (Value.slice (some ⟨ub, uo, none⟩) un uc) = .slice (some ⟨b0, o0, none⟩) n0 k0 ∧ w8.cell? ⟨b0, o0, none⟩ = some (.int .u8 ((t.getD 0 0).toNat : Int)) := by
           obtain ⟨ad, cc, h3, h4, h5, h6⟩ := HPR.out.2.2
           obtain ⟨b0, o0, rfl, h7⟩ := h6 (by rw [HTL.out]; decide)
           exact ⟨b0, o0, _, _, h3, by have := h7 0 (by rw [HTL.out]; decide); exact this⟩
         simp only [Value.slice.injEq, Option.some.injEq, Addr.mk.injEq, and_true] at h1
         obtain ⟨⟨rfl, rfl⟩, _⟩ := h1
         rw [h2]
         have h8 := HTH.out
         rw [List.head?_eq_getElem?] at h8
         rw [List.getD_eq_getElem?_getD, h8]
         rfl
       have u0 : (0 : Int) < (un : Int) := by have := HUN.out; omega
       replace HK : Hid (KOk w8) := HK.out.below hb HK.out.lt
       replace HBW : Hid (Below w.heap.size w w8) := HBW.out.trans (hb.mono HBW.out.size)
       clear hb)
    | (clear tk14; go_at_call 20; refine (trRoot_any _ 0 gu l HK.out HT7.out.1 HFZ.out).mono ?_; rintro e w9 ⟨rfl, hb⟩
       rw [← HRT.out]
       replace HT3 : Hid (TT w9 gt l) := HT3.out.next hb
       replace HK : Hid (KOk w9) := HK.out.below hb HK.out.lt
       replace HBW : Hid (Below w.heap.size w w9) := HBW.out.trans (hb.mono HBW.out.size)
       clear hb)
    | (clear tk15; go_at_call 20; refine (trRoot_any _ 0 gt l HK.out HT3.out.1 HFZ.out).mono ?_; rintro e w10 ⟨rfl, hb⟩
       rw [← HRT.out]
       replace HK : Hid (KOk w10) := HK.out.below hb HK.out.lt
       replace HBW : Hid (Below w.heap.size w w10) := HBW.out.trans (hb.mono HBW.out.size)
       clear hb))
  go_ret
  exact ⟨rfl, HBW.out⟩
end Go.Proofs.YtphmmnffgknkcaaDoor
/- Pages, plainly: what a tree with one leaf more does not share with the one ahead (layer 17). -/
namespace Go.Proofs.YtphmmnffgknkcaaDoor
open Go.RowKit
set_option maxRecDepth 100000
end Go.Proofs.YtphmmnffgknkcaaDoor
/- The walk of the statement PagesShared (layer 17). -/
namespace Go.Proofs.YtphmmnffgknkcaaDoor
open Go.RowKit
set_option maxRecDepth 100000
theorem few17_any (v : Value) (ds : List By) (w : World) (hR : ReadsD w v ds) : Calls Tryd.prog 8 #[v] w fun e w' => e = .returned (.bool (decide (ds.length ≤ 40))) ∧ w' = w := by
  obtain ⟨ad, cp, hv⟩ := hR.slice
  obtain ⟨n, HN⟩ : ∃ n, Hid (n = ds.length) := ⟨_, rfl⟩
  rw [← HN.out] at hv ⊢
  subst hv
  have HB : Hid (decide (n ≤ 40) = decide ((n : Int) ≤ 40)) := decide_eq_decide.2 ⟨fun h => by omega, fun h => by omega⟩
  clear hR
  go_enter Tryd.func8, Tryd.ntmps8
  go_wp2
  go_ret
  exact ⟨by rw [HB.out]; rfl, rfl⟩
/-- a row of pages: where each stands, and what it reads as -/
structure Row17 (w : World) (g n c : Nat) (ps : List By) : Prop where
  len : n = ps.length
  at_ : ∀ j, j < n → ∃ u, w.cell? ⟨g, j, none⟩ = some u ∧ Reads w u (ps.getD j [])
  rd : ReadsL w (.slice (some ⟨g, 0, none⟩) n c) ps
theorem Row17.next {w w' : World} {g n c : Nat} {ps : List By} (h : Row17 w g n c ps) (hb : Below w.heap.size w w') : Row17 w' g n c ps :=
  ⟨h.len, fun j hj => by obtain ⟨u, h1, h2⟩ := h.at_ j hj; exact ⟨u, by rw [hb.cell (p := ⟨g, j, none⟩) (block_lt_of_cell h1)]; exact h1, h2.below hb⟩, h.rd.below hb⟩
theorem row17_of {w : World} {base : Nat} {v : Value} {us : List Value} {ps : List By} {X : Nat → Prop} (h : PgS w base v us ps X) (hp : 0 < ps.length) : ∃ g n c, v = .slice (some ⟨g, 0, none⟩) n c ∧ Row17 w g n c ps := by
  have hl := h.len
  obtain ⟨g, c, hv, _, _⟩ := h.own.at (j := 0) (u := us[0]) (List.getElem?_eq_getElem (by omega))
  refine ⟨g, us.length, c, hv, hl, fun j hj => ?_, ?_⟩
  · obtain ⟨g2, c2, hv2, h3, _⟩ := h.own.at (j := j) (u := us[j]) (List.getElem?_eq_getElem hj)
    rw [hv] at hv2
    cases hv2
    exact ⟨us[j], h3, (h.good j us[j] (List.getElem?_eq_getElem hj)).1⟩
  · rw [← hv]; exact h.readsL
theorem save_pos (d : Nat) (l : List Lf) : 0 < (saveL d l).length := by rw [save_top]; simp
end Go.Proofs.YtphmmnffgknkcaaDoor
/- The reference's half and Whole (layer 17). -/
namespace Go.Proofs.YtphmmnffgknkcaaDoor
open Go.RowKit
set_option maxRecDepth 100000
set_option maxRecDepth 100000 in
set_option maxHeartbeats 4000000 in
theorem eHalf_any (va vv : Value) (l : List Lf) (i : Int) (on : Bool) (w : World) (hR : ReadsLf w va vv l) (hl : l.length < 2000000) :
    Calls Tryd.prog 27 #[.agg #[va, vv], .int .i64 i, .bool on] w fun e w' => ∃ xa xv, e = .returned (.agg #[xa, xv]) ∧ OwnLf w' w.heap.size xa xv ((l.filter fun p => bitI p.1 i == on).map (·.1)) ((l.filter fun p => bitI p.1 i == on).map (·.2)) ∧ Below w.heap.size w w' := by
  have HR : Hid (ReadsLf w va vv l) := hR
  have HL : Hid (l.length < 2000000) := hl
  obtain ⟨n, HN⟩ : ∃ n, Hid (n = l.length) := ⟨_, rfl⟩
  obtain ⟨ada, cpa, hva⟩ := hR.1.slice
  obtain ⟨adv, cpv, hvv⟩ := hR.2.slice
  rw [List.length_map, ← HN.out] at hva hvv
  subst hva hvv
  clear hR hl
  obtain ⟨gl, HGL⟩ : ∃ g, Hid (g = w.heap.size) := ⟨_, rfl⟩
  obtain ⟨wG, HWG⟩ : ∃ z, Hid (z = (w.alloc (.cells [Value.slice ada n cpa, .slice adv n cpv].toArray 34)).alloc (.cells [nilV, nilV].toArray 34)) := ⟨_, rfl⟩
  have HLB : Hid (Blk wG gl [Value.slice ada n cpa, .slice adv n cpv] 34) := by rw [HWG.out, HGL.out]; exact (Blk.new w _ _).below (below_alloc _ _) (by simp)
  have HRB : Hid (Blk wG (gl + 1) [nilV, nilV] 34) := by rw [HWG.out, HGL.out]; exact Blk.new_at (by simp) _ _
  have HBW : Hid (Below w.heap.size w wG) := by rw [HWG.out]; exact (below_alloc w _).trans ((below_alloc _ _).mono (by simp))
  obtain ⟨go, HGO⟩ : ∃ g, Hid (g = wG.heap.size) := ⟨_, rfl⟩
  have HSZ : Hid (go = gl + 2) := by show _ = _; rw [HGO.out, HWG.out, HGL.out]; simp
  have HCA : Hid (∀ wx, Below go wG wx → wx.cell? ⟨gl, 0, none⟩ = some (.slice ada n cpa)) := fun wx hx => (HLB.out.below hx (by have := HSZ.out; omega)).cell 0
  have HCV : Hid (∀ wx, Below go wG wx → wx.cell? ⟨gl, 1, none⟩ = some (.slice adv n cpv)) := fun wx hx => (HLB.out.below hx (by have := HSZ.out; omega)).cell 1
  have HI : Hid (Lv wG go nilV nilV [] [] (wG.alloc (.cells [nilV, nilV].toArray 34))) := by rw [HGO.out]; exact Lv.start wG
  go_enter Tryd.func27, Tryd.ntmps27
  go_wp2
  have e0 : (some ⟨w.heap.size, 0, none⟩ : Option Addr) = some ⟨gl, 0, none⟩ := by rw [HGL.out]
  have e1 : (some ⟨w.heap.size + 1, 0, none⟩ : Option Addr) = some ⟨gl + 1, 0, none⟩ := by rw [HGL.out]
  have e2 : (some ⟨w.heap.size + 1 + 1, 0, none⟩ : Option Addr) = some ⟨go, 0, none⟩ := by rw [HSZ.out, HGL.out]
  simp only [e0, e1, e2]
  clear e0 e1 e2
  change Code.wp _ _ _ _ (((w.alloc (.cells [Value.slice ada n cpa, .slice adv n cpv].toArray 34)).alloc (.cells [nilV, nilV].toArray 34)).alloc (.cells [nilV, nilV].toArray 34))
  rw [← HWG.out]
  generalize wG.alloc (.cells [nilV, nilV].toArray 34) = w0 at *
  clear HWG HGO
  go_loopw [8] (fun j wr => ∃ (k : Nat) (xa xv : Value), k ≤ n ∧ j = .int .i64 (k : Int) ∧ Lv wG go xa xv (((l.take k).filter fun p => bitI p.1 i == on).map (·.1)) (((l.take k).filter fun p => bitI p.1 i == on).map (·.2)) wr) (fun j _ => n - (intOf j).toNat)
  case atStart => exact ⟨0, nilV, nilV, by omega, rfl, by simpa using HI.out⟩
  case round =>
    clear HI
    obtain ⟨k, xa, xv, hk, rfl, hI⟩ := hrel
    have HI : Hid (Lv wG go xa xv (((l.take k).filter fun p => bitI p.1 i == on).map (·.1)) (((l.take k).filter fun p => bitI p.1 i == on).map (·.2)) wr) := hI
    clear hI
    have ca : wr.cell? ⟨gl, 0, none⟩ = some (.slice ada n cpa) := HCA.out wr HI.out.bel
    by_cases hlt : k < n
    · have hlti : (k : Int) < (n : Int) := by omega
      have k0 : (0 : Int) ≤ (k : Int) := by omega
      have hn6 : n < 2000000 := by rw [HN.out]; exact HL.out
      have f5 : IntKind.i64.wrap ((k : Int) + 1) = (k : Int) + 1 := wrap_small2 _ (by omega) (by omega)
      have HKL : Hid (k < l.length) := by show _ < _; rw [← HN.out]; exact hlt
      obtain ⟨ba, offa, cpa', hva, hya⟩ := HR.out.1.at (by rw [List.length_map]; have := HKL.out; omega)
      obtain ⟨bv, offv, cpv', hvv, hyv⟩ := HR.out.2.at (by rw [List.length_map]; have := HKL.out; omega)
      rw [List.length_map, ← HN.out] at hva hvv hya hyv
      simp only [Value.slice.injEq, true_and] at hva hvv
      obtain ⟨rfl, rfl⟩ := hva
      obtain ⟨rfl, rfl⟩ := hvv
      obtain ⟨da, HDA⟩ : ∃ d, Hid (d = (l.getD k ([], [])).1) := ⟨_, rfl⟩
      obtain ⟨dv, HDV⟩ : ∃ d, Hid (d = (l.getD k ([], [])).2) := ⟨_, rfl⟩
      have HA32 : Hid (da.length = 32) := by show _ = _; rw [HDA.out]; exact (HR.out.ok _ (getD_mem HKL.out)).1
      have HV32 : Hid (dv.length = 32) := by show _ = _; rw [HDV.out]; exact (HR.out.ok _ (getD_mem HKL.out)).2
      have HRA : Hid (∀ wx, Below go wG wx → wx.rangeAt ba (offa + k * 32) (cb da)) := fun wx hx => by
        have h := hya k hlt
        rw [map_getD1 HKL.out, ← HDA.out] at h
        have hb := rangeAt_lt h HA32.out
        exact rangeAt_below (rangeAt_below h HBW.out hb) hx (by have h1 := HSZ.out; have h2 := HGL.out; omega)
      have HRV : Hid (∀ wx, Below go wG wx → wx.rangeAt bv (offv + k * 32) (cb dv)) := fun wx hx => by
        have h := hyv k hlt
        rw [map_getD2 HKL.out, ← HDV.out] at h
        have hb := rangeAt_lt h HV32.out
        exact rangeAt_below (rangeAt_below h HBW.out hb) hx (by have h1 := HSZ.out; have h2 := HGL.out; omega)
      clear hya hyv
      obtain ⟨p, HP⟩ : ∃ p, Hid (bitI da i = p) := ⟨_, rfl⟩
      have HFL : Hid ((((l.take k).filter fun p => bitI p.1 i == on)).length < 2000000) := Nat.lt_of_le_of_lt (Nat.le_trans (List.length_filter_le _ _) (by rw [List.length_take]; omega)) HL.out
      have HTK : Hid (((l.take (k + 1)).filter fun p => bitI p.1 i == on) = ((l.take k).filter fun p => bitI p.1 i == on) ++ if p == on then [(da, dv)] else []) := by
        show _ = _
        rw [take_map HKL.out, List.filter_append, List.filter_cons, List.filter_nil, ← HDA.out, HP.out, HDA.out, HDV.out]
      have HRW : Hid (wr.rangeAt ba (offa + k * 32) (cb da)) := HRA.out wr HI.out.bel
      by_cases hpo : p = on
      · subst hpo
        go_wp2_with (first
          | (with_reducible refine wpSeq_loadAt (.tmp 20) ba (offa + k * 32) da ?_ ?_ ?_ ?_ ?_ ?_
             · exact HA32.out
             · exact HRW.out
             · with_reducible rfl
             · rfl
             · rfl)
          | (go_at_call 54; refine (sBit_any da HA32.out _ _).mono ?_; rintro e w7 ⟨rfl, hb7⟩; rw [HP.out]
             replace HI := HI.out.next hb7
             clear hb7 ca HRW))
        replace HI : Hid (Lv wG go xa xv (((l.take k).filter fun q => bitI q.1 i == p).map (·.1)) (((l.take k).filter fun q => bitI q.1 i == p).map (·.2)) w7) := HI
        refine wp_region_held_drew (S := Below go wG) (by kernel_rfl) HI.out.drew.bel ?_
        intro hS
        have hI := HI.out.drew
        clear HI
        change wpAnyH _ _ _ _ _ _ _ _ (World.drew w7)
        generalize World.drew w7 = yA at *
        refine wpAnyH_take (i := 0) (v := .pointer (some ⟨go, 0, none⟩)) rfl (by kernel_rfl) (by kernel_rfl) (by kernel_rfl) (fun _ _ _ h => h) (Or.inl ⟨by rfl, fun wx hx => by simp [go_sem]⟩) hS ?_
        simp only [Act.put, List.getElem_toArray, List.getElem_cons_zero, List.setIfInBounds_toArray, List.set_cons_zero, List.set_cons_succ]
        refine wpAnyH_take (i := 2) (v := .pointer (some ⟨gl, 0, none⟩)) rfl (by kernel_rfl) (by kernel_rfl) (by kernel_rfl) (fun _ _ _ h => h) (Or.inl ⟨by rfl, fun wx hx => by simp [go_sem]⟩) hS ?_
        simp only [Act.put, List.getElem_toArray, List.getElem_cons_succ, List.getElem_cons_zero, List.setIfInBounds_toArray, List.set_cons_zero, List.set_cons_succ]
        refine wpAnyH_take (i := 4) (v := .int .i64 (k : Int)) rfl (by kernel_rfl) (by kernel_rfl) (by kernel_rfl) (fun _ _ _ h => h) (Or.inl ⟨by rfl, fun wx hx => by simp [go_sem]⟩) hS ?_
        simp only [Act.put, List.getElem_toArray, List.getElem_cons_succ, List.getElem_cons_zero, List.setIfInBounds_toArray, List.set_cons_zero, List.set_cons_succ]
        refine wpAnyH_take (i := 3) (v := .slice (some ⟨ba, offa, none⟩) n cpa) rfl (by kernel_rfl) (by kernel_rfl) (by kernel_rfl) (fun _ _ _ h => h) (Or.inl ⟨by rfl, fun wx hx => by (have hc := HCA.out wx hx; simp [go_sem, hc])⟩) hS ?_
        simp only [Act.put, List.getElem_toArray, List.getElem_cons_succ, List.getElem_cons_zero, List.setIfInBounds_toArray, List.set_cons_zero, List.set_cons_succ]
        refine wpAnyH_take (i := 5) (v := .pointer (some ⟨ba, offa + k * 32, none⟩)) rfl (by kernel_rfl) (by kernel_rfl) (by kernel_rfl) (fun _ _ _ h => h) (Or.inl ⟨by rfl, fun wx hx => by (simp [go_sem, hlti, k0])⟩) hS ?_
        simp only [Act.put, List.getElem_toArray, List.getElem_cons_succ, List.getElem_cons_zero, List.setIfInBounds_toArray, List.set_cons_zero, List.set_cons_succ]
        refine wpAnyH_take (i := 6) (v := .agg (cb da).toArray) rfl (by kernel_rfl) (by kernel_rfl) (by kernel_rfl) (fun _ _ _ h => h) (Or.inl ⟨by rfl, fun wx hx => by exact load_run 28 _ rfl _ _ rfl (cb da) _ (HRA.out wx hx) Tryd.underlying28 rfl (by rw [cb_len, HA32.out]; exact info_digest)⟩) hS ?_
        simp only [Act.put, List.getElem_toArray, List.getElem_cons_succ, List.getElem_cons_zero, List.setIfInBounds_toArray, List.set_cons_zero, List.set_cons_succ]
        have hnb := NewB.of da yA
        have hn1 := hI.next hnb.below
        obtain ⟨aA, cA, hxA⟩ := hI.own.a.slice
        obtain ⟨nA, HNA⟩ : ∃ z : Nat, Hid (z = (((l.take k).filter fun q => bitI q.1 i == p).map (·.1)).length) := ⟨_, rfl⟩
        rw [← HNA.out] at hxA
        have hce : yA.cell? ⟨go, 0, none⟩ = some xa := hI.out.cell 0
        have hce2 : (yA.alloc (.cells (cb da).toArray 28)).cell? ⟨go, 0, none⟩ = some xa := hn1.out.cell 0
        subst hxA
        refine wpAnyH_comm 1 7 (.slice aA nA cA) (.slice (some ⟨yA.heap.size, 0, none⟩) 1 1) (yA.alloc (.cells (cb da).toArray 28)) (by kernel_rfl) rfl rfl (by rfl) (by rfl) (by rfl) (by rfl) (by simp [go_sem, hce]) (buildD _ _ _ rfl da HA32.out rfl _) (by simp [go_sem, hce2]) (buildD _ _ _ rfl da HA32.out rfl _) (by kernel_rfl) (by kernel_rfl) (by rfl) (by rfl) hS hn1.bel ?_
        simp only [Act.put, List.getElem_toArray, List.getElem_cons_succ, List.getElem_cons_zero, List.setIfInBounds_toArray, List.set_cons_zero, List.set_cons_succ]
        have hI2 := hn1
        have HU : Hid (Blk (yA.alloc (.cells (cb da).toArray 28)) yA.heap.size (cb da) 28) := hnb.blk
        clear hn1 hnb hce hce2 hS hI
        refine wpAnyH_law 8 (by kernel_rfl) rfl (by rfl) (wp_appendG (.tmp 27) (.tmp 33) (go + 1) (.slice aA nA cA) _ da yA.heap.size hI2.own.a HU.out HA32.out (by rw [List.length_map]; exact HFL.out) hI2.out.lt rfl rfl rfl ?_)
        intro zA qA hoA hgA
        have hI := hI2.addA hoA hgA
        have hsq : Below go wG qA := hI2.bel.trans (hgA.below.mono (Nat.le_succ _))
        have hbq := hI2.out.grow hgA (fun j hj => (hI2.own.a.lt j hj).1) (Nat.lt_succ_self _)
        have hcq := hbq.cell 0
        have hfq := hbq.frozen 0
        obtain ⟨aA2, cA2, hxA⟩ := hoA.slice
        obtain ⟨nA2, HNA2⟩ : ∃ z : Nat, Hid (z = (((l.take k).filter fun q => bitI q.1 i == p).map (·.1) ++ [da]).length) := ⟨_, rfl⟩
        rw [← HNA2.out] at hxA
        subst hxA
        refine ⟨hsq, ?_⟩
        simp only [Act.put, List.getElem_toArray, List.getElem_cons_succ, List.getElem_cons_zero, List.setIfInBounds_toArray, List.set_cons_zero, List.set_cons_succ]
        refine wpAnyH_take (i := 9) (v := .pointer (some ⟨go, 0, none⟩)) rfl (by kernel_rfl) (by kernel_rfl) (by kernel_rfl) (fun _ _ _ h => h) (Or.inl ⟨by rfl, fun wx hx => by simp [go_sem]⟩) hsq ?_
        simp only [Act.put, List.getElem_toArray, List.getElem_cons_succ, List.getElem_cons_zero, List.setIfInBounds_toArray, List.set_cons_zero, List.set_cons_succ]
        refine wpAnyH_skip 10 (qA.setCell ⟨go, 0, none⟩ (.slice aA2 nA2 cA2)) (by kernel_rfl) rfl (by rfl) (by simp [go_sem, hcq, hfq]) hI.bel ?_
        simp only [Act.put, List.getElem_toArray, List.getElem_cons_succ, List.getElem_cons_zero]
        refine wpAnyH_done (by kernel_rfl) ?_ _
        clear hoA hgA hsq hbq hcq hfq hI2 HU
        generalize qA.setCell ⟨go, 0, none⟩ (.slice aA2 nA2 cA2) = WA at *
        have HI : Hid (Lv wG go (.slice aA2 nA2 cA2) xv (((l.take k).filter fun q => bitI q.1 i == p).map (·.1) ++ [da]) (((l.take k).filter fun q => bitI q.1 i == p).map (·.2)) WA) := hI
        clear hI HRA HCA
        generalize Value.slice aA2 nA2 cA2 = xa2 at *
        go_wp2_with fail
        refine wp_region_held_drew (S := Below go wG) (by kernel_rfl) HI.out.drew.bel ?_
        intro hS
        have hI := HI.out.drew
        clear HI
        change wpAnyH _ _ _ _ _ _ _ _ (World.drew WA)
        generalize World.drew WA = yV at *
        refine wpAnyH_take (i := 0) (v := .pointer (some ⟨go, 1, none⟩)) rfl (by kernel_rfl) (by kernel_rfl) (by kernel_rfl) (fun _ _ _ h => h) (Or.inl ⟨by rfl, fun wx hx => by simp [go_sem]⟩) hS ?_
        simp only [Act.put, List.getElem_toArray, List.getElem_cons_zero, List.setIfInBounds_toArray, List.set_cons_zero, List.set_cons_succ]
        refine wpAnyH_take (i := 2) (v := .pointer (some ⟨gl, 1, none⟩)) rfl (by kernel_rfl) (by kernel_rfl) (by kernel_rfl) (fun _ _ _ h => h) (Or.inl ⟨by rfl, fun wx hx => by simp [go_sem]⟩) hS ?_
        simp only [Act.put, List.getElem_toArray, List.getElem_cons_succ, List.getElem_cons_zero, List.setIfInBounds_toArray, List.set_cons_zero, List.set_cons_succ]
        refine wpAnyH_take (i := 4) (v := .int .i64 (k : Int)) rfl (by kernel_rfl) (by kernel_rfl) (by kernel_rfl) (fun _ _ _ h => h) (Or.inl ⟨by rfl, fun wx hx => by simp [go_sem]⟩) hS ?_
        simp only [Act.put, List.getElem_toArray, List.getElem_cons_succ, List.getElem_cons_zero, List.setIfInBounds_toArray, List.set_cons_zero, List.set_cons_succ]
        refine wpAnyH_take (i := 3) (v := .slice (some ⟨bv, offv, none⟩) n cpv) rfl (by kernel_rfl) (by kernel_rfl) (by kernel_rfl) (fun _ _ _ h => h) (Or.inl ⟨by rfl, fun wx hx => by (have hc := HCV.out wx hx; simp [go_sem, hc])⟩) hS ?_
        simp only [Act.put, List.getElem_toArray, List.getElem_cons_succ, List.getElem_cons_zero, List.setIfInBounds_toArray, List.set_cons_zero, List.set_cons_succ]
        refine wpAnyH_take (i := 5) (v := .pointer (some ⟨bv, offv + k * 32, none⟩)) rfl (by kernel_rfl) (by kernel_rfl) (by kernel_rfl) (fun _ _ _ h => h) (Or.inl ⟨by rfl, fun wx hx => by (simp [go_sem, hlti, k0])⟩) hS ?_
        simp only [Act.put, List.getElem_toArray, List.getElem_cons_succ, List.getElem_cons_zero, List.setIfInBounds_toArray, List.set_cons_zero, List.set_cons_succ]
        refine wpAnyH_take (i := 6) (v := .agg (cb dv).toArray) rfl (by kernel_rfl) (by kernel_rfl) (by kernel_rfl) (fun _ _ _ h => h) (Or.inl ⟨by rfl, fun wx hx => by exact load_run 28 _ rfl _ _ rfl (cb dv) _ (HRV.out wx hx) Tryd.underlying28 rfl (by rw [cb_len, HV32.out]; exact info_digest)⟩) hS ?_
        simp only [Act.put, List.getElem_toArray, List.getElem_cons_succ, List.getElem_cons_zero, List.setIfInBounds_toArray, List.set_cons_zero, List.set_cons_succ]
        have hnb := NewB.of dv yV
        have hn1 := hI.next hnb.below
        obtain ⟨aV, cV, hxV⟩ := hI.own.v.slice
        obtain ⟨nV, HNV⟩ : ∃ z : Nat, Hid (z = (((l.take k).filter fun q => bitI q.1 i == p).map (·.2)).length) := ⟨_, rfl⟩
        rw [← HNV.out] at hxV
        have hce : yV.cell? ⟨go, 1, none⟩ = some xv := hI.out.cell 1
        have hce2 : (yV.alloc (.cells (cb dv).toArray 28)).cell? ⟨go, 1, none⟩ = some xv := hn1.out.cell 1
        subst hxV
        refine wpAnyH_comm 1 7 (.slice aV nV cV) (.slice (some ⟨yV.heap.size, 0, none⟩) 1 1) (yV.alloc (.cells (cb dv).toArray 28)) (by kernel_rfl) rfl rfl (by rfl) (by rfl) (by rfl) (by rfl) (by simp [go_sem, hce]) (buildD _ _ _ rfl dv HV32.out rfl _) (by simp [go_sem, hce2]) (buildD _ _ _ rfl dv HV32.out rfl _) (by kernel_rfl) (by kernel_rfl) (by rfl) (by rfl) hS hn1.bel ?_
        simp only [Act.put, List.getElem_toArray, List.getElem_cons_succ, List.getElem_cons_zero, List.setIfInBounds_toArray, List.set_cons_zero, List.set_cons_succ]
        have hI2 := hn1
        have HU : Hid (Blk (yV.alloc (.cells (cb dv).toArray 28)) yV.heap.size (cb dv) 28) := hnb.blk
        clear hn1 hnb hce hce2 hS hI
        refine wpAnyH_law 8 (by kernel_rfl) rfl (by rfl) (wp_appendG (.tmp 37) (.tmp 43) (go + 1) (.slice aV nV cV) _ dv yV.heap.size hI2.own.v HU.out HV32.out (by rw [List.length_map]; exact HFL.out) hI2.out.lt rfl rfl rfl ?_)
        intro zV qV hoV hgV
        have hI := hI2.addV hoV hgV
        have hsq : Below go wG qV := hI2.bel.trans (hgV.below.mono (Nat.le_succ _))
        have hbq := hI2.out.grow hgV (fun j hj => (hI2.own.v.lt j hj).1) (Nat.lt_succ_self _)
        have hcq := hbq.cell 1
        have hfq := hbq.frozen 1
        obtain ⟨aV2, cV2, hxV⟩ := hoV.slice
        obtain ⟨nV2, HNV2⟩ : ∃ z : Nat, Hid (z = (((l.take k).filter fun q => bitI q.1 i == p).map (·.2) ++ [dv]).length) := ⟨_, rfl⟩
        rw [← HNV2.out] at hxV
        subst hxV
        refine ⟨hsq, ?_⟩
        simp only [Act.put, List.getElem_toArray, List.getElem_cons_succ, List.getElem_cons_zero, List.setIfInBounds_toArray, List.set_cons_zero, List.set_cons_succ]
        refine wpAnyH_take (i := 9) (v := .pointer (some ⟨go, 1, none⟩)) rfl (by kernel_rfl) (by kernel_rfl) (by kernel_rfl) (fun _ _ _ h => h) (Or.inl ⟨by rfl, fun wx hx => by simp [go_sem]⟩) hsq ?_
        simp only [Act.put, List.getElem_toArray, List.getElem_cons_succ, List.getElem_cons_zero, List.setIfInBounds_toArray, List.set_cons_zero, List.set_cons_succ]
        refine wpAnyH_skip 10 (qV.setCell ⟨go, 1, none⟩ (.slice aV2 nV2 cV2)) (by kernel_rfl) rfl (by rfl) (by simp [go_sem, hcq, hfq]) hI.bel ?_
        simp only [Act.put, List.getElem_toArray, List.getElem_cons_succ, List.getElem_cons_zero]
        refine wpAnyH_done (by kernel_rfl) ?_ _
        clear hoV hgV hsq hbq hcq hfq hI2 HU
        generalize qV.setCell ⟨go, 1, none⟩ (.slice aV2 nV2 cV2) = WV at *
        have HJ : Hid (Lv wG go xa2 (.slice aV2 nV2 cV2) (((l.take (k + 1)).filter fun q => bitI q.1 i == p).map (·.1)) (((l.take (k + 1)).filter fun q => bitI q.1 i == p).map (·.2)) WV) := by
          show Lv _ _ _ _ _ _ _
          rw [HTK.out]
          simpa using hI
        clear hI
        go_wp2
        go_roundw
        case rel => exact ⟨k + 1, _, _, by omega, by simp, HJ.out⟩
        case measure => simp [intOf]; omega
      · have hpo2 : (p == on) = false := by simpa using hpo
        have HPO : Hid ((p == on) = false) := hpo2
        go_wp2_with (first
          | (with_reducible refine wpSeq_loadAt (.tmp 20) ba (offa + k * 32) da ?_ ?_ ?_ ?_ ?_ ?_
             · exact HA32.out
             · exact HRW.out
             · with_reducible rfl
             · rfl
             · rfl)
          | (go_at_call 54; refine (sBit_any da HA32.out _ _).mono ?_; rintro e w7 ⟨rfl, hb7⟩; rw [HP.out]
             have HJ : Hid (Lv wG go xa xv (((l.take k).filter fun p => bitI p.1 i == on).map (·.1)) (((l.take k).filter fun p => bitI p.1 i == on).map (·.2)) w7) := HI.out.next hb7
             clear hb7 ca HRW HI))
        have HJ2 : Hid (Lv wG go xa xv (((l.take (k + 1)).filter fun p => bitI p.1 i == on).map (·.1)) (((l.take (k + 1)).filter fun p => bitI p.1 i == on).map (·.2)) w7) := by
          show Lv _ _ _ _ _ _ _
          rw [HTK.out, HPO.out]
          simpa using HJ.out
        go_roundw
        case rel => exact ⟨k + 1, _, _, by omega, by simp, HJ2.out⟩
        case measure => simp [intOf]; omega
    · have hkn : k = n := by omega
      subst hkn
      have ht : l.take k = l := by rw [HN.out]; exact List.take_length
      have hI2 := HI.out
      rw [ht] at hI2
      obtain ⟨adx, cpx, hxa⟩ := hI2.own.a.slice
      obtain ⟨adw, cpw, hxv⟩ := hI2.own.v.slice
      obtain ⟨nx, HNX⟩ : ∃ z : Nat, Hid (z = ((l.filter fun p => bitI p.1 i == on).map (·.1)).length) := ⟨_, rfl⟩
      obtain ⟨nw, HNW⟩ : ∃ z : Nat, Hid (z = ((l.filter fun p => bitI p.1 i == on).map (·.2)).length) := ⟨_, rfl⟩
      rw [← HNX.out] at hxa
      rw [← HNW.out] at hxv
      subst hxa hxv
      have HE : Hid (Lv wG go (.slice adx nx cpx) (.slice adw nw cpw) ((l.filter fun p => bitI p.1 i == on).map (·.1)) ((l.filter fun p => bitI p.1 i == on).map (·.2)) wr) := hI2
      have d0 : wr.cell? ⟨go, 0, none⟩ = some (.slice adx nx cpx) := hI2.out.cell 0
      have d1 : wr.cell? ⟨go, 1, none⟩ = some (.slice adw nw cpw) := hI2.out.cell 1
      have hr := HRB.out.below hI2.bel (by have := HSZ.out; omega)
      have r0 : wr.cell? ⟨gl + 1, 0, none⟩ = some (.slice none 0 0) := hr.cell 0
      have r1 : wr.cell? ⟨gl + 1, 1, none⟩ = some (.slice none 0 0) := hr.cell 1
      have q0 : wr.frozen? ⟨gl + 1, 0, none⟩ = false := hr.frozen 0
      have q1 : wr.frozen? ⟨gl + 1, 1, none⟩ = false := hr.frozen 1
      have HRR : Hid (Blk wr (gl + 1) [nilV, nilV] 34) := hr
      clear ht hI2 hr HI
      go_wp2
      have hB6 : Blk ((wr.setCell ⟨gl + 1, 0, none⟩ (.slice adx nx cpx)).setCell ⟨gl + 1, 1, none⟩ (.slice adw nw cpw)) (gl + 1) [.slice adx nx cpx, .slice adw nw cpw] 34 := (HRR.out.set 0 _).set 1 _
      refine bodyPost_ret (v := .agg [.slice adx nx cpx, .slice adw nw cpw].toArray) (results_cell_row (by rfl) _ _ (gl + 1) 34 _ (0, 0) _ rfl hB6 Tryd.underlying34 rfl (by kernel_rfl)) rfl ⟨_, _, rfl, ?_, ?_⟩
      · refine (HE.out.own.keep fun j h1 _ => ?_).mono (by have h1 := HSZ.out; have h2 := HGL.out; omega)
        rw [Below.heap_setCell _ _ _ _ (by show j ≠ gl + 1; have := HSZ.out; omega), Below.heap_setCell _ _ _ _ (by show j ≠ gl + 1; have := HSZ.out; omega)]
      · exact ((HBW.out.trans (HE.out.bel.mono (by have h1 := HSZ.out; have h2 := HGL.out; omega))).setCell (by show w.heap.size ≤ gl + 1; have := HGL.out; omega) _).setCell (by show w.heap.size ≤ gl + 1; have := HGL.out; omega) _
theorem eHalf_b (va vv : Value) (l : List Lf) (d : Nat) (hd : d < 256) (on : Bool) (w : World) (hR : ReadsLf w va vv l) (hl : l.length < 2000000) :
    Calls Tryd.prog 27 #[.agg #[va, vv], .int .i64 (d : Int), .bool on] w fun e w' => ∃ xa xv, e = .returned (.agg #[xa, xv]) ∧ OwnLf w' w.heap.size xa xv ((halfL l d on).map (·.1)) ((halfL l d on).map (·.2)) ∧ Below w.heap.size w w' := by
  have h := eHalf_any va vv l (d : Int) on w hR hl
  rwa [halfL_is l d hd on] at h
set_option maxHeartbeats 400000 in
theorem rjoin_own (v : Value) (ls : List (List (BitVec 8))) (w : World) (hR : ReadsL w v ls) (hl : ls.flatten.length ≤ 140737488355328) (hn : ls.length < 4611686018427387904) :
    Calls Tryd.prog 52 #[v] w fun e w' => ∃ v', e = .returned v' ∧ OwnB w' w.heap.size v' ls.flatten ∧ Below w.heap.size w w' := by
  have HR : Hid (ReadsL w v ls) := hR
  obtain ⟨ad, cap, hv, hcap, _, _⟩ := hR
  obtain ⟨n, HNN⟩ : ∃ n, Hid (n = ls.length) := ⟨_, rfl⟩
  rw [← HNN.out] at hv hcap hn
  subst hv
  go_enter Tryd.func52, Tryd.ntmps52
  go_wp2
  go_loopw [3, 4] (fun u i wr => ∃ k : Nat, k ≤ n ∧ i = .int .i64 k ∧ RpInv w (ls.take k).flatten u wr) (fun _ i _ => n - (intOf i).toNat)
  case atStart => exact ⟨0, by omega, rfl, OwnB.nil _ _, Below.refl _ _⟩
  case round =>
    obtain ⟨k, hk, rfl, hI⟩ := hrel
    have HI : Hid (RpInv w (ls.take k).flatten u3 wr) := hI
    by_cases hlt : k < n
    · obtain ⟨ad', cap', hv', _, _, hx⟩ := HR.out.below hI.bel
      rw [← HNN.out] at hv' hx
      simp only [Value.slice.injEq, true_and] at hv'
      obtain ⟨rfl, rfl⟩ := hv'
      obtain ⟨b, off, rfl, hx2⟩ := hx (by omega)
      obtain ⟨vj, cj, hj⟩ := hx2 k hlt
      have HJ : Hid (Reads wr vj (ls.getD k [])) := hj
      have HF : Hid ((ls.take (k + 1)).flatten = (ls.take k).flatten ++ ls.getD k []) := flat_take ls k (by rw [← HNN.out]; exact hlt)
      have HL : Hid ((ls.take k).flatten.length + (ls.getD k []).length ≤ 140737488355328) := by
        have h1 := flat_le ls (k + 1)
        rw [HF.out, List.length_append] at h1
        exact Nat.le_trans h1 hl
      clear hx hx2 hj hI
      go_wp2_with (at_builtin; refine wpList_appendB rfl (.tmp 11) (.tmp 15) rfl w.heap.size _ (ls.take k).flatten rfl HI.out.own _ (ls.getD k []) rfl HJ.out HL.out HI.out.bel.size ?_; intro v2 w2 hown2 hb2 _)
      have hJ : RpInv w (ls.take (k + 1)).flatten v2 w2 := ⟨by rw [HF.out]; exact hown2, HI.out.bel.trans hb2⟩
      clear hown2 hb2 HI
      go_roundw
      case rel => exact ⟨k + 1, by omega, by go_num, hJ⟩
      case measure => simp [intOf]; omega
    · have hkn : k = n := by omega
      subst hkn
      have HV : Hid (OwnB wr w.heap.size u3 ls.flatten) := by
        have := hI.own
        rw [HNN.out, List.take_of_length_le (Nat.le_refl _)] at this
        exact this
      have hbel := hI.bel
      clear hI HI HR
      go_wp2
      go_ret
      exact ⟨_, rfl, HV.out, hbel⟩
theorem slice_dig17 (g o : Nat) (w : World) : (Instr.sliceAt 28 (.pointer (some ⟨g, o, none⟩)) none none none).run Tryd.prog w = .ok (.slice (some ⟨g, o, none⟩) 32 32) w := by kernel_rfl
theorem ownB_mono17 {w : World} {base B : Nat} {v : Value} {l : By} (h : OwnB w base v l) (hB : B ≤ base) : OwnB w B v l := by
  rcases h with ⟨h1, ⟨rfl, h2⟩ | ⟨g, cap, cur, rfl, hg, hh⟩⟩
  · exact ⟨h1, Or.inl ⟨rfl, h2⟩⟩
  · exact ⟨h1, Or.inr ⟨g, cap, cur, rfl, Nat.le_trans hB hg, hh⟩⟩
theorem reads_range {w : World} {b off : Nat} {l : By} (hl : l.length = 32) (h : w.rangeAt b off (cb l)) : Reads w (.slice (some ⟨b, off, none⟩) 32 32) l :=
  ⟨_, 32, by rw [hl], by rw [hl]; exact Nat.le_refl _, (fun e => by cases e), fun _ => ⟨b, off, rfl, fun j hj => h j _ (cb_get l j hj)⟩⟩
theorem rangeLf17 {w : World} {g : Nat} {a b : Value} (h0 : w.cell? ⟨g, 0, none⟩ = some a) (h1 : w.cell? ⟨g, 1, none⟩ = some b) : w.rangeAt g 0 [a, b] := fun j v hj => by
  match j, hj with
  | 0, hj => cases hj; exact h0
  | 1, hj => cases hj; exact h1
theorem whole_small {d : Nat} {l : List Lf} (hd : d ≤ 256) (hF : Fits l d) (hl : l.length < 2000000) : (wholeL d l).length ≤ 2000000000 := by
  have h := (whole_le (256 - d) d l (by omega) hF).1
  have h2 : l.length * (64 + 2 * (256 - d)) ≤ 2000000 * 576 := Nat.mul_le_mul (by omega) (by omega)
  omega
set_option maxRecDepth 100000 in
set_option maxHeartbeats 8000000 in
theorem eWhole_step (l : List Lf) (d : Nat) (va vv : Value) (w : World) (hF : Fits l d) (hR : ReadsLf w va vv l) (hl : l.length < 2000000) (hd : d ≤ 256)
    (ih : 2 ≤ l.length → ∀ on xa xv W, ReadsLf W xa xv (halfL l d on) → Calls Tryd.prog 25 #[.agg #[xa, xv], .int .i64 ((d + 1 : Nat) : Int)] W fun e w' => ∃ v, e = .returned v ∧ OwnB w' W.heap.size v (wholeL (d + 1) (halfL l d on)) ∧ Below W.heap.size W w') :
    Calls Tryd.prog 25 #[.agg #[va, vv], .int .i64 (d : Int)] w fun e w' => ∃ v, e = .returned v ∧ OwnB w' w.heap.size v (wholeL d l) ∧ Below w.heap.size w w' := by
  have HF : Hid (Fits l d) := hF
  have HR : Hid (ReadsLf w va vv l) := hR
  have HL : Hid (l.length < 2000000) := hl
  have HDD : Hid (d ≤ 256) := hd
  have HIH := id ih
  obtain ⟨t, HTT⟩ : ∃ z, Hid (z = wholeL d l) := ⟨_, rfl⟩
  rw [← HTT.out]
  obtain ⟨n, HN⟩ : ∃ n, Hid (n = l.length) := ⟨_, rfl⟩
  obtain ⟨ada, cpa, hva⟩ := hR.1.slice
  obtain ⟨adv, cpv, hvv⟩ := hR.2.slice
  rw [List.length_map, ← HN.out] at hva hvv
  subst hva hvv
  clear hR hl hF hd ih
  obtain ⟨gl, HGL⟩ : ∃ g, Hid (g = w.heap.size) := ⟨_, rfl⟩
  obtain ⟨wB, HWB⟩ : ∃ z, Hid (z = w.alloc (.cells [Value.slice ada n cpa, .slice adv n cpv].toArray 34)) := ⟨_, rfl⟩
  have HLB : Hid (Blk wB gl [Value.slice ada n cpa, .slice adv n cpv] 34) := by rw [HWB.out, HGL.out]; exact Blk.new w _ _
  have HBW : Hid (Below w.heap.size w wB) := by rw [HWB.out]; exact below_alloc w _
  have HSB : Hid (wB.heap.size = gl + 1) := by show _ = _; rw [HWB.out, HGL.out]; simp
  have HB1 : Hid (gl + 1 ≤ wB.heap.size) := by show _ ≤ _; rw [HSB.out]; exact Nat.le_refl _
  have HOUT : Hid (∀ wx, Below (gl + 1) wB wx → Below w.heap.size w wx) := fun wx hx => HBW.out.trans (hx.mono (by have := HGL.out; omega))
  have HSZ : Hid (∀ wx, Below (gl + 1) wB wx → w.heap.size ≤ wx.heap.size) := fun wx hx => (HOUT.out wx hx).size
  have HCA : Hid (∀ wx, Below (gl + 1) wB wx → wx.cell? ⟨gl, 0, none⟩ = some (.slice ada n cpa)) := fun wx hx => (HLB.out.below hx (Nat.lt_succ_self _)).cell 0
  have HCV : Hid (∀ wx, Below (gl + 1) wB wx → wx.cell? ⟨gl, 1, none⟩ = some (.slice adv n cpv)) := fun wx hx => (HLB.out.below hx (Nat.lt_succ_self _)).cell 1
  have HRS : Hid (∀ wx, Below (gl + 1) wB wx → ReadsLf wx (.slice ada n cpa) (.slice adv n cpv) l) := fun wx hx => HR.out.below (HOUT.out wx hx)
  go_enter Tryd.func25, Tryd.ntmps25
  go_upto_region 1 with fail
  rw [← HWB.out]
  have e0 : (some ⟨w.heap.size, 0, none⟩ : Option Addr) = some ⟨gl, 0, none⟩ := by rw [HGL.out]
  simp only [e0]
  clear e0
  have HS : Hid (Below (gl + 1) wB wB) := Below.refl _ _
  have ca : wB.cell? ⟨gl, 0, none⟩ = some (.slice ada n cpa) := HCA.out wB HS.out
  by_cases h0 : n = 0
  · subst h0
    have hnil : l = [] := List.length_eq_zero_iff.1 HN.out.symm
    have HRE : Hid (t = [0]) := by show _ = _; rw [HTT.out, hnil, whole_few (by simp)]; rfl
    clear hnil
    go_wp2_with (first
      | (with_reducible refine wpSeq_buildY 0 (.const (.int .u8 0)) ?_ ?_ ?_ ?_
         · rfl
         · rfl
         · rfl
         intro g1 w1 hy1 hg1 hb1
         have HF1 : Hid (OwnB w1 w.heap.size (.slice (some ⟨g1, 0, none⟩) 1 1) [0] ∧ Below w.heap.size w w1) := ⟨blk_own_y hy1 (Nat.le_trans (HSZ.out _ HS.out) hg1), HBW.out.trans (hb1.mono HBW.out.size)⟩
         clear hy1 hg1 hb1))
    go_ret
    exact ⟨_, rfl, by rw [HRE.out]; exact HF1.out.1, HF1.out.2⟩
  · by_cases h1 : n = 1
    · subst h1
      obtain ⟨p, hp⟩ : ∃ p, l = [p] := List.length_eq_one_iff.1 HN.out.symm
      have HRE : Hid (t = 1 :: (p.1 ++ p.2)) := by show _ = _; rw [HTT.out, hp, whole_few (by simp)]; rfl
      have HP : Hid (p.1.length = 32 ∧ p.2.length = 32) := HR.out.ok p (by rw [hp]; simp)
      have hA := HR.out.1
      have hV := HR.out.2
      rw [hp] at hA hV
      obtain ⟨ba, offa, cpa', hva, hya⟩ := hA.at (by simp)
      obtain ⟨bv, offv, cpv', hvv, hyv⟩ := hV.at (by simp)
      simp only [Value.slice.injEq] at hva hvv
      obtain ⟨rfl, hq1, rfl⟩ := hva
      obtain ⟨rfl, hq2, rfl⟩ := hvv
      clear hq1 hq2
      obtain ⟨da, HDA⟩ : ∃ d, Hid (d = p.1) := ⟨_, rfl⟩
      obtain ⟨dv, HDV⟩ : ∃ d, Hid (d = p.2) := ⟨_, rfl⟩
      rw [← HDA.out, ← HDV.out] at HRE HP
      have HRA : Hid (∀ wx, Below (gl + 1) wB wx → Reads wx (.slice (some ⟨ba, offa, none⟩) 32 32) da) := fun wx hx => by
        have h := hya 0 (by simp)
        simp only [List.map_cons, List.map_nil, List.getD_cons_zero, Nat.zero_mul, Nat.add_zero, ← HDA.out] at h
        have hb := rangeAt_lt h HP.out.1
        exact reads_range HP.out.1 (rangeAt_below (rangeAt_below h HBW.out hb) hx (by have h2 := HGL.out; omega))
      have HRV : Hid (∀ wx, Below (gl + 1) wB wx → Reads wx (.slice (some ⟨bv, offv, none⟩) 32 32) dv) := fun wx hx => by
        have h := hyv 0 (by simp)
        simp only [List.map_cons, List.map_nil, List.getD_cons_zero, Nat.zero_mul, Nat.add_zero, ← HDV.out] at h
        have hb := rangeAt_lt h HP.out.2
        exact reads_range HP.out.2 (rangeAt_below (rangeAt_below h HBW.out hb) hx (by have h2 := HGL.out; omega))
      clear hya hyv hA hV hp
      go_wp2_with fail
      refine wp_region_held_drew (S := Below (gl + 1) wB) (by kernel_rfl) HS.out.drew ?_
      intro hS
      clear HS ca
      change wpAnyH _ _ _ _ _ _ _ _ (World.drew wB)
      generalize World.drew wB = wd at *
      refine wpAnyH_take (i := 1) (v := .pointer (some ⟨gl, 0, none⟩)) rfl (by kernel_rfl) (by kernel_rfl) (by kernel_rfl) (fun _ _ _ h => h) (Or.inl ⟨by rfl, fun wx hx => by simp [go_sem]⟩) hS ?_
      simp only [Act.put, List.getElem_toArray, List.getElem_cons_succ, List.getElem_cons_zero, List.setIfInBounds_toArray, List.set_cons_zero, List.set_cons_succ]
      refine wpAnyH_take (i := 5) (v := .pointer (some ⟨gl, 1, none⟩)) rfl (by kernel_rfl) (by kernel_rfl) (by kernel_rfl) (fun _ _ _ h => h) (Or.inl ⟨by rfl, fun wx hx => by simp [go_sem]⟩) hS ?_
      simp only [Act.put, List.getElem_toArray, List.getElem_cons_succ, List.getElem_cons_zero, List.setIfInBounds_toArray, List.set_cons_zero, List.set_cons_succ]
      refine wpAnyH_take (i := 2) (v := .slice (some ⟨ba, offa, none⟩) 1 cpa) rfl (by kernel_rfl) (by kernel_rfl) (by kernel_rfl) (fun _ _ _ h => h) (Or.inl ⟨by rfl, fun wx hx => by (have hc := HCA.out wx hx; simp [go_sem, hc])⟩) hS ?_
      simp only [Act.put, List.getElem_toArray, List.getElem_cons_succ, List.getElem_cons_zero, List.setIfInBounds_toArray, List.set_cons_zero, List.set_cons_succ]
      refine wpAnyH_take (i := 6) (v := .slice (some ⟨bv, offv, none⟩) 1 cpv) rfl (by kernel_rfl) (by kernel_rfl) (by kernel_rfl) (fun _ _ _ h => h) (Or.inl ⟨by rfl, fun wx hx => by (have hc := HCV.out wx hx; simp [go_sem, hc])⟩) hS ?_
      simp only [Act.put, List.getElem_toArray, List.getElem_cons_succ, List.getElem_cons_zero, List.setIfInBounds_toArray, List.set_cons_zero, List.set_cons_succ]
      refine wpAnyH_take (i := 3) (v := .pointer (some ⟨ba, offa, none⟩)) rfl (by kernel_rfl) (by kernel_rfl) (by kernel_rfl) (fun _ _ _ h => h) (Or.inl ⟨by rfl, fun wx hx => by simp [go_sem]⟩) hS ?_
      simp only [Act.put, List.getElem_toArray, List.getElem_cons_succ, List.getElem_cons_zero, List.setIfInBounds_toArray, List.set_cons_zero, List.set_cons_succ]
      refine wpAnyH_take (i := 7) (v := .pointer (some ⟨bv, offv, none⟩)) rfl (by kernel_rfl) (by kernel_rfl) (by kernel_rfl) (fun _ _ _ h => h) (Or.inl ⟨by rfl, fun wx hx => by simp [go_sem]⟩) hS ?_
      simp only [Act.put, List.getElem_toArray, List.getElem_cons_succ, List.getElem_cons_zero, List.setIfInBounds_toArray, List.set_cons_zero, List.set_cons_succ]
      refine wpAnyH_take (i := 4) (v := .slice (some ⟨ba, offa, none⟩) 32 32) rfl (by kernel_rfl) (by kernel_rfl) (by kernel_rfl) (fun _ _ _ h => h) (Or.inl ⟨by rfl, fun wx hx => by simp [execOp, Act.eval, slice_dig17]⟩) hS ?_
      simp only [Act.put, List.getElem_toArray, List.getElem_cons_succ, List.getElem_cons_zero, List.setIfInBounds_toArray, List.set_cons_zero, List.set_cons_succ]
      refine wpAnyH_take (i := 8) (v := .slice (some ⟨bv, offv, none⟩) 32 32) rfl (by kernel_rfl) (by kernel_rfl) (by kernel_rfl) (fun _ _ _ h => h) (Or.inl ⟨by rfl, fun wx hx => by simp [execOp, Act.eval, slice_dig17]⟩) hS ?_
      simp only [Act.put, List.getElem_toArray, List.getElem_cons_succ, List.getElem_cons_zero, List.setIfInBounds_toArray, List.set_cons_zero, List.set_cons_succ]
      have hba := below_alloc wd (.cells #[Value.int .u8 1] 5)
      have hy := reads_val wd 1 1 rfl
      have hSwe := Sb.more hS HB1.out hba
      refine wpAnyH_step 0 (.slice (some ⟨wd.heap.size, 0, none⟩) 1 1) (wd.alloc (.cells #[.int .u8 1] 5)) (by kernel_rfl) rfl (by rfl) (by simp [go_sem]) hSwe ?_
      simp only [Act.put, List.getElem_toArray, List.getElem_cons_zero, List.setIfInBounds_toArray, List.set_cons_zero, List.set_cons_succ]
      clear hS
      have hS := hSwe
      clear hSwe hba
      generalize wd.alloc (.cells #[Value.int .u8 1] 5) = we at *
      obtain ⟨g0, hg0⟩ : ∃ z, z = wd.heap.size := ⟨_, rfl⟩
      rw [← hg0] at hy ⊢
      clear hg0
      have hrl := readsL_three hy (HRA.out we hS) (HRV.out we hS)
      have hba := below_alloc we (.cells #[.slice (some ⟨g0, 0, none⟩) 1 1, .slice (some ⟨ba, offa, none⟩) 32 32, .slice (some ⟨bv, offv, none⟩) 32 32] 37)
      have hS7 := Sb.more hS HB1.out hba
      refine wpAnyH_step 9 (.slice (some ⟨we.heap.size, 0, none⟩) 3 3) (we.alloc (.cells #[.slice (some ⟨g0, 0, none⟩) 1 1, .slice (some ⟨ba, offa, none⟩) 32 32, .slice (some ⟨bv, offv, none⟩) 32 32] 37)) (by kernel_rfl) rfl (by rfl) (by simp [go_sem]) hS7 ?_
      simp only [Act.put, List.getElem_toArray, List.getElem_cons_succ, List.getElem_cons_zero, List.setIfInBounds_toArray, List.set_cons_zero, List.set_cons_succ]
      generalize we.alloc (.cells #[.slice (some ⟨g0, 0, none⟩) 1 1, .slice (some ⟨ba, offa, none⟩) 32 32, .slice (some ⟨bv, offv, none⟩) 32 32] 37) = web at *
      clear hS hba
      refine wpAnyH_enter 10 (by kernel_rfl) rfl (by rfl) (f := 52) (args := #[.slice (some ⟨we.heap.size, 0, none⟩) 3 3]) (by simp [go_sem]) (rjoin_own _ _ web hrl (by simp only [List.flatten_cons, List.flatten_nil, List.append_nil, List.length_append, List.length_cons, List.length_nil]; rw [HP.out.1, HP.out.2]; omega) (by simp)) ?_
      rintro e wej ⟨v8, rfl, ho8, hb8⟩
      have hS := Sb.more hS7 HB1.out hb8
      refine ⟨_, rfl, hS, ?_⟩
      simp only [Act.put, List.getElem_toArray, List.getElem_cons_succ, List.getElem_cons_zero, List.setIfInBounds_toArray, List.set_cons_zero, List.set_cons_succ]
      refine wpAnyH_take (i := 11) (v := v8) rfl (by kernel_rfl) (by kernel_rfl) (by kernel_rfl) (fun _ _ _ h => h) (Or.inl ⟨by rfl, fun wx hx => by simp [go_sem]⟩) hS ?_
      simp only [Act.put, List.getElem_toArray, List.getElem_cons_succ, List.getElem_cons_zero, List.setIfInBounds_toArray, List.set_cons_zero, List.set_cons_succ]
      refine wpAnyH_done (by kernel_rfl) ?_ _
      have HO8 : Hid (OwnB wej w.heap.size v8 t ∧ Below w.heap.size w wej) := ⟨by rw [HRE.out]; have h := ownB_mono17 ho8 (HSZ.out _ hS7); simp only [List.flatten_cons, List.flatten_nil, List.append_nil, List.singleton_append] at h; exact h, HOUT.out _ hS⟩
      clear hS hS7 hb8 ho8 hrl
      go_wp2
      go_ret
      exact ⟨_, rfl, HO8.out.1, HO8.out.2⟩
    · have h2 : 2 ≤ n := by omega
      have HN2 : Hid (2 ≤ l.length) := by show _ ≤ _; rw [← HN.out]; exact h2
      have hn0 : ¬ ((n : Int) = 0) := by omega
      have hn1 : ¬ ((n : Int) = 1) := by omega
      have b0 : ((n : Int) == 0) = false := by simpa using hn0
      have b1 : ((n : Int) == 1) = false := by simpa using hn1
      have HD256 : Hid (d < 256) := HF.out.lt HN2.out
      have hI := HIH HN2.out
      clear HIH
      have HIH := hI
      clear hI
      obtain ⟨d1, HD1⟩ : ∃ z, Hid (z = d + 1) := ⟨_, rfl⟩
      have hd1 : IntKind.i64.wrap ((d : Int) + 1) = (d1 : Int) := by rw [IntKind.wrap_i64, HD1.out]; have := HD256.out; omega
      rw [← HD1.out] at HIH
      have HIX : Hid (∀ on xa xv W, ReadsLf W xa xv (halfL l d on) → Calls Tryd.prog 25 #[.agg #[xa, xv], .int .i64 (d1 : Int)] W fun e w' => ∃ v, e = .returned v ∧ OwnB w' W.heap.size v (wholeL d1 (halfL l d on)) ∧ Below W.heap.size W w') := HIH
      clear HIH
      obtain ⟨P, HPP⟩ : ∃ z, Hid (z = wholeL d1 (halfL l d false)) := ⟨_, rfl⟩
      obtain ⟨Q, HQQ⟩ : ∃ z, Hid (z = wholeL d1 (halfL l d true)) := ⟨_, rfl⟩
      have HRE : Hid (t = 2 :: (P ++ Q)) := by show _ = _; rw [HTT.out, whole_two HD256.out HN2.out, HPP.out, HQQ.out, HD1.out]
      have HLN : Hid (P.length + Q.length ≤ 5000000000) := by
        have h1 : (wholeL (d + 1) (halfL l d false)).length ≤ 2000000000 := whole_small (by have := HD256.out; omega) (HF.out.half false) (Nat.lt_of_le_of_lt (half_le l d false) HL.out)
        have h2 : (wholeL (d + 1) (halfL l d true)).length ≤ 2000000000 := whole_small (by have := HD256.out; omega) (HF.out.half true) (Nat.lt_of_le_of_lt (half_le l d true) HL.out)
        show _ ≤ _
        rw [HPP.out, HQQ.out, HD1.out]
        omega
      have HHB : Hid (∀ on W, Below (gl + 1) wB W → Calls Tryd.prog 27 #[.agg #[.slice ada n cpa, .slice adv n cpv], .int .i64 (d : Int), .bool on] W fun e w' => ∃ xa xv, e = .returned (.agg #[xa, xv]) ∧ OwnLf w' W.heap.size xa xv ((halfL l d on).map (·.1)) ((halfL l d on).map (·.2)) ∧ Below W.heap.size W w') := fun on W hx => eHalf_b _ _ l d HD256.out on W (HRS.out W hx) HL.out
      clear HTT HF HRS HR
      go_wp2_with fail
      refine wp_region_held_drew (S := Below (gl + 1) wB) (by kernel_rfl) HS.out.drew ?_
      intro hS
      clear HS ca
      change wpAnyH _ _ _ _ _ _ _ _ (World.drew wB)
      generalize World.drew wB = wd at *
      refine wpAnyH_take (i := 1) (v := .agg #[.slice ada n cpa, .slice adv n cpv]) rfl (by kernel_rfl) (by kernel_rfl) (by kernel_rfl) (fun _ _ _ h => h) (Or.inl ⟨by rfl, fun wx hx => by (have hc := HCA.out wx hx; have hv := HCV.out wx hx; exact load_run 34 _ rfl _ _ rfl [Value.slice ada n cpa, .slice adv n cpv] _ (rangeLf17 hc hv) Tryd.underlying34 rfl (by kernel_rfl))⟩) hS ?_
      simp only [Act.put, List.getElem_toArray, List.getElem_cons_succ, List.getElem_cons_zero, List.setIfInBounds_toArray, List.set_cons_zero, List.set_cons_succ]
      refine wpAnyH_take (i := 7) (v := .agg #[.slice ada n cpa, .slice adv n cpv]) rfl (by kernel_rfl) (by kernel_rfl) (by kernel_rfl) (fun _ _ _ h => h) (Or.inl ⟨by rfl, fun wx hx => by (have hc := HCA.out wx hx; have hv := HCV.out wx hx; exact load_run 34 _ rfl _ _ rfl [Value.slice ada n cpa, .slice adv n cpv] _ (rangeLf17 hc hv) Tryd.underlying34 rfl (by kernel_rfl))⟩) hS ?_
      simp only [Act.put, List.getElem_toArray, List.getElem_cons_succ, List.getElem_cons_zero, List.setIfInBounds_toArray, List.set_cons_zero, List.set_cons_succ]
      refine wpAnyH_take (i := 2) (v := .int .i64 (d : Int)) rfl (by kernel_rfl) (by kernel_rfl) (by kernel_rfl) (fun _ _ _ h => h) (Or.inl ⟨by rfl, fun wx hx => by simp [go_sem]⟩) hS ?_
      simp only [Act.put, List.getElem_toArray, List.getElem_cons_succ, List.getElem_cons_zero, List.setIfInBounds_toArray, List.set_cons_zero, List.set_cons_succ]
      refine wpAnyH_take (i := 4) (v := .int .i64 (d : Int)) rfl (by kernel_rfl) (by kernel_rfl) (by kernel_rfl) (fun _ _ _ h => h) (Or.inl ⟨by rfl, fun wx hx => by simp [go_sem]⟩) hS ?_
      simp only [Act.put, List.getElem_toArray, List.getElem_cons_succ, List.getElem_cons_zero, List.setIfInBounds_toArray, List.set_cons_zero, List.set_cons_succ]
      refine wpAnyH_take (i := 8) (v := .int .i64 (d : Int)) rfl (by kernel_rfl) (by kernel_rfl) (by kernel_rfl) (fun _ _ _ h => h) (Or.inl ⟨by rfl, fun wx hx => by simp [go_sem]⟩) hS ?_
      simp only [Act.put, List.getElem_toArray, List.getElem_cons_succ, List.getElem_cons_zero, List.setIfInBounds_toArray, List.set_cons_zero, List.set_cons_succ]
      refine wpAnyH_take (i := 10) (v := .int .i64 (d : Int)) rfl (by kernel_rfl) (by kernel_rfl) (by kernel_rfl) (fun _ _ _ h => h) (Or.inl ⟨by rfl, fun wx hx => by simp [go_sem]⟩) hS ?_
      simp only [Act.put, List.getElem_toArray, List.getElem_cons_succ, List.getElem_cons_zero, List.setIfInBounds_toArray, List.set_cons_zero, List.set_cons_succ]
      refine wpAnyH_take (i := 5) (v := .int .i64 (d1 : Int)) rfl (by kernel_rfl) (by kernel_rfl) (by kernel_rfl) (fun _ _ _ h => h) (Or.inl ⟨by rfl, fun wx hx => by simp [go_sem, hd1]⟩) hS ?_
      simp only [Act.put, List.getElem_toArray, List.getElem_cons_succ, List.getElem_cons_zero, List.setIfInBounds_toArray, List.set_cons_zero, List.set_cons_succ]
      refine wpAnyH_take (i := 11) (v := .int .i64 (d1 : Int)) rfl (by kernel_rfl) (by kernel_rfl) (by kernel_rfl) (fun _ _ _ h => h) (Or.inl ⟨by rfl, fun wx hx => by simp [go_sem, hd1]⟩) hS ?_
      simp only [Act.put, List.getElem_toArray, List.getElem_cons_succ, List.getElem_cons_zero, List.setIfInBounds_toArray, List.set_cons_zero, List.set_cons_succ]
      refine wpAnyH_pair 0 3 (by kernel_rfl) ?_ ?_
      · have hba := below_alloc wd (.cells #[Value.int .u8 2] 5)
        have hy := reads_val wd 2 2 rfl
        have hSwa1 := Sb.more hS HB1.out hba
        refine wpOp_vl 0 (.slice (some ⟨wd.heap.size, 0, none⟩) 1 1) (wd.alloc (.cells #[.int .u8 2] 5)) rfl (by rfl) (by simp [go_sem]) ⟨hSwa1, ?_⟩
        simp only [Act.put, List.getElem_toArray, List.getElem_cons_zero, List.setIfInBounds_toArray, List.set_cons_zero, List.set_cons_succ]
        clear hS
        have hS := hSwa1
        clear hSwa1 hba
        generalize wd.alloc (.cells #[Value.int .u8 2] 5) = wa1 at *
        obtain ⟨g0, hg0⟩ : ∃ z, z = wd.heap.size := ⟨_, rfl⟩
        rw [← hg0] at hy ⊢
        clear hg0
        refine wpAnyH_enter 3 (by kernel_rfl) rfl (by rfl) (f := 27) (args := #[.agg #[.slice ada n cpa, .slice adv n cpv], .int .i64 (d : Int), .bool false]) (by simp [go_sem]) (HHB.out false wa1 hS) ?_
        rintro e wc2 ⟨xaA, xvA, rfl, ho, hb⟩
        have hA := ho.reads
        clear ho
        have hS2 := Sb.more hS HB1.out hb
        refine ⟨_, rfl, hS2, ?_⟩
        simp only [Act.put, List.getElem_toArray, List.getElem_cons_succ, List.getElem_cons_zero, List.setIfInBounds_toArray, List.set_cons_zero, List.set_cons_succ]
        clear hS
        have hS := hS2
        clear hS2
        replace hy := hy.below hb
        clear hb
        refine wpAnyH_enter 6 (by kernel_rfl) rfl (by rfl) (f := 25) (args := #[.agg #[xaA, xvA], .int .i64 (d1 : Int)]) (by simp [go_sem]) (HIX.out false xaA xvA wc2 hA) ?_
        rintro e wc3 ⟨vz, rfl, ho, hb⟩
        rw [← HPP.out] at ho
        obtain ⟨a1, c1, rfl⟩ := ho.formP
        have hp := ho.reads
        clear ho hA
        have hS2 := Sb.more hS HB1.out hb
        refine ⟨_, rfl, hS2, ?_⟩
        simp only [Act.put, List.getElem_toArray, List.getElem_cons_succ, List.getElem_cons_zero, List.setIfInBounds_toArray, List.set_cons_zero, List.set_cons_succ]
        clear hS
        have hS := hS2
        clear hS2
        replace hy := hy.below hb
        clear hb
        refine wpAnyH_enter 9 (by kernel_rfl) rfl (by rfl) (f := 27) (args := #[.agg #[.slice ada n cpa, .slice adv n cpv], .int .i64 (d : Int), .bool true]) (by simp [go_sem]) (HHB.out true wc3 hS) ?_
        rintro e wc4 ⟨xaB, xvB, rfl, ho, hb⟩
        have hB := ho.reads
        clear ho
        have hS2 := Sb.more hS HB1.out hb
        refine ⟨_, rfl, hS2, ?_⟩
        simp only [Act.put, List.getElem_toArray, List.getElem_cons_succ, List.getElem_cons_zero, List.setIfInBounds_toArray, List.set_cons_zero, List.set_cons_succ]
        clear hS
        have hS := hS2
        clear hS2
        replace hy := hy.below hb
        replace hp := hp.below hb
        clear hb
        refine wpAnyH_enter 12 (by kernel_rfl) rfl (by rfl) (f := 25) (args := #[.agg #[xaB, xvB], .int .i64 (d1 : Int)]) (by simp [go_sem]) (HIX.out true xaB xvB wc4 hB) ?_
        rintro e wc5 ⟨vz, rfl, ho, hb⟩
        rw [← HQQ.out] at ho
        obtain ⟨a2, c2, rfl⟩ := ho.formP
        have hq := ho.reads
        clear ho hB
        have hS2 := Sb.more hS HB1.out hb
        refine ⟨_, rfl, hS2, ?_⟩
        simp only [Act.put, List.getElem_toArray, List.getElem_cons_succ, List.getElem_cons_zero, List.setIfInBounds_toArray, List.set_cons_zero, List.set_cons_succ]
        clear hS
        have hS := hS2
        clear hS2
        replace hy := hy.below hb
        replace hp := hp.below hb
        clear hb
        have hrl := readsL_three hy hp hq
        have hba := below_alloc wc5 (.cells #[.slice (some ⟨g0, 0, none⟩) 1 1, .slice a1 P.length c1, .slice a2 Q.length c2] 37)
        have hS7 := Sb.more hS HB1.out hba
        refine wpAnyH_step 13 (.slice (some ⟨wc5.heap.size, 0, none⟩) 3 3) (wc5.alloc (.cells #[.slice (some ⟨g0, 0, none⟩) 1 1, .slice a1 P.length c1, .slice a2 Q.length c2] 37)) (by kernel_rfl) rfl (by rfl) (by simp [go_sem]) hS7 ?_
        simp only [Act.put, List.getElem_toArray, List.getElem_cons_succ, List.getElem_cons_zero, List.setIfInBounds_toArray, List.set_cons_zero, List.set_cons_succ]
        generalize wc5.alloc (.cells #[.slice (some ⟨g0, 0, none⟩) 1 1, .slice a1 P.length c1, .slice a2 Q.length c2] 37) = wc5b at *
        clear hS hba
        refine wpAnyH_enter 14 (by kernel_rfl) rfl (by rfl) (f := 52) (args := #[.slice (some ⟨wc5.heap.size, 0, none⟩) 3 3]) (by simp [go_sem]) (rjoin_own _ _ wc5b hrl (by simp only [List.flatten_cons, List.flatten_nil, List.append_nil, List.length_append, List.length_cons, List.length_nil]; have := HLN.out; omega) (by simp)) ?_
        rintro e wc5j ⟨v8, rfl, ho8, hb8⟩
        have hS := Sb.more hS7 HB1.out hb8
        refine ⟨_, rfl, hS, ?_⟩
        simp only [Act.put, List.getElem_toArray, List.getElem_cons_succ, List.getElem_cons_zero, List.setIfInBounds_toArray, List.set_cons_zero, List.set_cons_succ]
        refine wpAnyH_take (i := 15) (v := v8) rfl (by kernel_rfl) (by kernel_rfl) (by kernel_rfl) (fun _ _ _ h => h) (Or.inl ⟨by rfl, fun wx hx => by simp [go_sem]⟩) hS ?_
        simp only [Act.put, List.getElem_toArray, List.getElem_cons_succ, List.getElem_cons_zero, List.setIfInBounds_toArray, List.set_cons_zero, List.set_cons_succ]
        refine wpAnyH_done (by kernel_rfl) ?_ _
        have HO8 : Hid (OwnB wc5j w.heap.size v8 t ∧ Below w.heap.size w wc5j) := ⟨by rw [HRE.out]; have h := ownB_mono17 ho8 (HSZ.out _ hS7); simp only [List.flatten_cons, List.flatten_nil, List.append_nil, List.singleton_append] at h; exact h, HOUT.out _ hS⟩
        clear hS hS7 hb8 ho8 hrl
        go_wp2
        go_ret
        exact ⟨_, rfl, HO8.out.1, HO8.out.2⟩
      · refine wpOp_en 3 (by rfl) (by rfl) (f := 27) (args := #[.agg #[.slice ada n cpa, .slice adv n cpv], .int .i64 (d : Int), .bool false]) (by simp [go_sem]) (HHB.out false wd hS) ?_
        rintro e wc6 ⟨xaA, xvA, rfl, ho, hb⟩
        have hA := ho.reads
        clear ho
        have hS2 := Sb.more hS HB1.out hb
        refine ⟨_, rfl, hS2, ?_⟩
        simp only [Act.put, List.getElem_toArray, List.getElem_cons_succ, List.getElem_cons_zero, List.setIfInBounds_toArray, List.set_cons_zero, List.set_cons_succ]
        clear hS
        have hS := hS2
        clear hS2
        clear hb
        refine wpAnyH_pair 0 6 (by kernel_rfl) ?_ ?_
        · have hba := below_alloc wc6 (.cells #[Value.int .u8 2] 5)
          have hy := reads_val wc6 2 2 rfl
          have hSwa7 := Sb.more hS HB1.out hba
          refine wpOp_vl 0 (.slice (some ⟨wc6.heap.size, 0, none⟩) 1 1) (wc6.alloc (.cells #[.int .u8 2] 5)) rfl (by rfl) (by simp [go_sem]) ⟨hSwa7, ?_⟩
          simp only [Act.put, List.getElem_toArray, List.getElem_cons_zero, List.setIfInBounds_toArray, List.set_cons_zero, List.set_cons_succ]
          replace hA := hA.below hba
          clear hS
          have hS := hSwa7
          clear hSwa7 hba
          generalize wc6.alloc (.cells #[Value.int .u8 2] 5) = wa7 at *
          obtain ⟨g0, hg0⟩ : ∃ z, z = wc6.heap.size := ⟨_, rfl⟩
          rw [← hg0] at hy ⊢
          clear hg0
          refine wpAnyH_enter 6 (by kernel_rfl) rfl (by rfl) (f := 25) (args := #[.agg #[xaA, xvA], .int .i64 (d1 : Int)]) (by simp [go_sem]) (HIX.out false xaA xvA wa7 hA) ?_
          rintro e wc8 ⟨vz, rfl, ho, hb⟩
          rw [← HPP.out] at ho
          obtain ⟨a1, c1, rfl⟩ := ho.formP
          have hp := ho.reads
          clear ho hA
          have hS2 := Sb.more hS HB1.out hb
          refine ⟨_, rfl, hS2, ?_⟩
          simp only [Act.put, List.getElem_toArray, List.getElem_cons_succ, List.getElem_cons_zero, List.setIfInBounds_toArray, List.set_cons_zero, List.set_cons_succ]
          clear hS
          have hS := hS2
          clear hS2
          replace hy := hy.below hb
          clear hb
          refine wpAnyH_enter 9 (by kernel_rfl) rfl (by rfl) (f := 27) (args := #[.agg #[.slice ada n cpa, .slice adv n cpv], .int .i64 (d : Int), .bool true]) (by simp [go_sem]) (HHB.out true wc8 hS) ?_
          rintro e wc9 ⟨xaB, xvB, rfl, ho, hb⟩
          have hB := ho.reads
          clear ho
          have hS2 := Sb.more hS HB1.out hb
          refine ⟨_, rfl, hS2, ?_⟩
          simp only [Act.put, List.getElem_toArray, List.getElem_cons_succ, List.getElem_cons_zero, List.setIfInBounds_toArray, List.set_cons_zero, List.set_cons_succ]
          clear hS
          have hS := hS2
          clear hS2
          replace hy := hy.below hb
          replace hp := hp.below hb
          clear hb
          refine wpAnyH_enter 12 (by kernel_rfl) rfl (by rfl) (f := 25) (args := #[.agg #[xaB, xvB], .int .i64 (d1 : Int)]) (by simp [go_sem]) (HIX.out true xaB xvB wc9 hB) ?_
          rintro e wc10 ⟨vz, rfl, ho, hb⟩
          rw [← HQQ.out] at ho
          obtain ⟨a2, c2, rfl⟩ := ho.formP
          have hq := ho.reads
          clear ho hB
          have hS2 := Sb.more hS HB1.out hb
          refine ⟨_, rfl, hS2, ?_⟩
          simp only [Act.put, List.getElem_toArray, List.getElem_cons_succ, List.getElem_cons_zero, List.setIfInBounds_toArray, List.set_cons_zero, List.set_cons_succ]
          clear hS
          have hS := hS2
          clear hS2
          replace hy := hy.below hb
          replace hp := hp.below hb
          clear hb
          have hrl := readsL_three hy hp hq
          have hba := below_alloc wc10 (.cells #[.slice (some ⟨g0, 0, none⟩) 1 1, .slice a1 P.length c1, .slice a2 Q.length c2] 37)
          have hS7 := Sb.more hS HB1.out hba
          refine wpAnyH_step 13 (.slice (some ⟨wc10.heap.size, 0, none⟩) 3 3) (wc10.alloc (.cells #[.slice (some ⟨g0, 0, none⟩) 1 1, .slice a1 P.length c1, .slice a2 Q.length c2] 37)) (by kernel_rfl) rfl (by rfl) (by simp [go_sem]) hS7 ?_
          simp only [Act.put, List.getElem_toArray, List.getElem_cons_succ, List.getElem_cons_zero, List.setIfInBounds_toArray, List.set_cons_zero, List.set_cons_succ]
          generalize wc10.alloc (.cells #[.slice (some ⟨g0, 0, none⟩) 1 1, .slice a1 P.length c1, .slice a2 Q.length c2] 37) = wc10b at *
          clear hS hba
          refine wpAnyH_enter 14 (by kernel_rfl) rfl (by rfl) (f := 52) (args := #[.slice (some ⟨wc10.heap.size, 0, none⟩) 3 3]) (by simp [go_sem]) (rjoin_own _ _ wc10b hrl (by simp only [List.flatten_cons, List.flatten_nil, List.append_nil, List.length_append, List.length_cons, List.length_nil]; have := HLN.out; omega) (by simp)) ?_
          rintro e wc10j ⟨v8, rfl, ho8, hb8⟩
          have hS := Sb.more hS7 HB1.out hb8
          refine ⟨_, rfl, hS, ?_⟩
          simp only [Act.put, List.getElem_toArray, List.getElem_cons_succ, List.getElem_cons_zero, List.setIfInBounds_toArray, List.set_cons_zero, List.set_cons_succ]
          refine wpAnyH_take (i := 15) (v := v8) rfl (by kernel_rfl) (by kernel_rfl) (by kernel_rfl) (fun _ _ _ h => h) (Or.inl ⟨by rfl, fun wx hx => by simp [go_sem]⟩) hS ?_
          simp only [Act.put, List.getElem_toArray, List.getElem_cons_succ, List.getElem_cons_zero, List.setIfInBounds_toArray, List.set_cons_zero, List.set_cons_succ]
          refine wpAnyH_done (by kernel_rfl) ?_ _
          have HO8 : Hid (OwnB wc10j w.heap.size v8 t ∧ Below w.heap.size w wc10j) := ⟨by rw [HRE.out]; have h := ownB_mono17 ho8 (HSZ.out _ hS7); simp only [List.flatten_cons, List.flatten_nil, List.append_nil, List.singleton_append] at h; exact h, HOUT.out _ hS⟩
          clear hS hS7 hb8 ho8 hrl
          go_wp2
          go_ret
          exact ⟨_, rfl, HO8.out.1, HO8.out.2⟩
        · refine wpOp_en 6 (by rfl) (by rfl) (f := 25) (args := #[.agg #[xaA, xvA], .int .i64 (d1 : Int)]) (by simp [go_sem]) (HIX.out false xaA xvA wc6 hA) ?_
          rintro e wc11 ⟨vz, rfl, ho, hb⟩
          rw [← HPP.out] at ho
          obtain ⟨a1, c1, rfl⟩ := ho.formP
          have hp := ho.reads
          clear ho hA
          have hS2 := Sb.more hS HB1.out hb
          refine ⟨_, rfl, hS2, ?_⟩
          simp only [Act.put, List.getElem_toArray, List.getElem_cons_succ, List.getElem_cons_zero, List.setIfInBounds_toArray, List.set_cons_zero, List.set_cons_succ]
          clear hS
          have hS := hS2
          clear hS2
          clear hb
          refine wpAnyH_pair 0 9 (by kernel_rfl) ?_ ?_
          · have hba := below_alloc wc11 (.cells #[Value.int .u8 2] 5)
            have hy := reads_val wc11 2 2 rfl
            have hSwa12 := Sb.more hS HB1.out hba
            refine wpOp_vl 0 (.slice (some ⟨wc11.heap.size, 0, none⟩) 1 1) (wc11.alloc (.cells #[.int .u8 2] 5)) rfl (by rfl) (by simp [go_sem]) ⟨hSwa12, ?_⟩
            simp only [Act.put, List.getElem_toArray, List.getElem_cons_zero, List.setIfInBounds_toArray, List.set_cons_zero, List.set_cons_succ]
            replace hp := hp.below hba
            clear hS
            have hS := hSwa12
            clear hSwa12 hba
            generalize wc11.alloc (.cells #[Value.int .u8 2] 5) = wa12 at *
            obtain ⟨g0, hg0⟩ : ∃ z, z = wc11.heap.size := ⟨_, rfl⟩
            rw [← hg0] at hy ⊢
            clear hg0
            refine wpAnyH_enter 9 (by kernel_rfl) rfl (by rfl) (f := 27) (args := #[.agg #[.slice ada n cpa, .slice adv n cpv], .int .i64 (d : Int), .bool true]) (by simp [go_sem]) (HHB.out true wa12 hS) ?_
            rintro e wc13 ⟨xaB, xvB, rfl, ho, hb⟩
            have hB := ho.reads
            clear ho
            have hS2 := Sb.more hS HB1.out hb
            refine ⟨_, rfl, hS2, ?_⟩
            simp only [Act.put, List.getElem_toArray, List.getElem_cons_succ, List.getElem_cons_zero, List.setIfInBounds_toArray, List.set_cons_zero, List.set_cons_succ]
            clear hS
            have hS := hS2
            clear hS2
            replace hp := hp.below hb
            replace hy := hy.below hb
            clear hb
            refine wpAnyH_enter 12 (by kernel_rfl) rfl (by rfl) (f := 25) (args := #[.agg #[xaB, xvB], .int .i64 (d1 : Int)]) (by simp [go_sem]) (HIX.out true xaB xvB wc13 hB) ?_
            rintro e wc14 ⟨vz, rfl, ho, hb⟩
            rw [← HQQ.out] at ho
            obtain ⟨a2, c2, rfl⟩ := ho.formP
            have hq := ho.reads
            clear ho hB
            have hS2 := Sb.more hS HB1.out hb
            refine ⟨_, rfl, hS2, ?_⟩
            simp only [Act.put, List.getElem_toArray, List.getElem_cons_succ, List.getElem_cons_zero, List.setIfInBounds_toArray, List.set_cons_zero, List.set_cons_succ]
            clear hS
            have hS := hS2
            clear hS2
            replace hp := hp.below hb
            replace hy := hy.below hb
            clear hb
            have hrl := readsL_three hy hp hq
            have hba := below_alloc wc14 (.cells #[.slice (some ⟨g0, 0, none⟩) 1 1, .slice a1 P.length c1, .slice a2 Q.length c2] 37)
            have hS7 := Sb.more hS HB1.out hba
            refine wpAnyH_step 13 (.slice (some ⟨wc14.heap.size, 0, none⟩) 3 3) (wc14.alloc (.cells #[.slice (some ⟨g0, 0, none⟩) 1 1, .slice a1 P.length c1, .slice a2 Q.length c2] 37)) (by kernel_rfl) rfl (by rfl) (by simp [go_sem]) hS7 ?_
            simp only [Act.put, List.getElem_toArray, List.getElem_cons_succ, List.getElem_cons_zero, List.setIfInBounds_toArray, List.set_cons_zero, List.set_cons_succ]
            generalize wc14.alloc (.cells #[.slice (some ⟨g0, 0, none⟩) 1 1, .slice a1 P.length c1, .slice a2 Q.length c2] 37) = wc14b at *
            clear hS hba
            refine wpAnyH_enter 14 (by kernel_rfl) rfl (by rfl) (f := 52) (args := #[.slice (some ⟨wc14.heap.size, 0, none⟩) 3 3]) (by simp [go_sem]) (rjoin_own _ _ wc14b hrl (by simp only [List.flatten_cons, List.flatten_nil, List.append_nil, List.length_append, List.length_cons, List.length_nil]; have := HLN.out; omega) (by simp)) ?_
            rintro e wc14j ⟨v8, rfl, ho8, hb8⟩
            have hS := Sb.more hS7 HB1.out hb8
            refine ⟨_, rfl, hS, ?_⟩
            simp only [Act.put, List.getElem_toArray, List.getElem_cons_succ, List.getElem_cons_zero, List.setIfInBounds_toArray, List.set_cons_zero, List.set_cons_succ]
            refine wpAnyH_take (i := 15) (v := v8) rfl (by kernel_rfl) (by kernel_rfl) (by kernel_rfl) (fun _ _ _ h => h) (Or.inl ⟨by rfl, fun wx hx => by simp [go_sem]⟩) hS ?_
            simp only [Act.put, List.getElem_toArray, List.getElem_cons_succ, List.getElem_cons_zero, List.setIfInBounds_toArray, List.set_cons_zero, List.set_cons_succ]
            refine wpAnyH_done (by kernel_rfl) ?_ _
            have HO8 : Hid (OwnB wc14j w.heap.size v8 t ∧ Below w.heap.size w wc14j) := ⟨by rw [HRE.out]; have h := ownB_mono17 ho8 (HSZ.out _ hS7); simp only [List.flatten_cons, List.flatten_nil, List.append_nil, List.singleton_append] at h; exact h, HOUT.out _ hS⟩
            clear hS hS7 hb8 ho8 hrl
            go_wp2
            go_ret
            exact ⟨_, rfl, HO8.out.1, HO8.out.2⟩
          · refine wpOp_en 9 (by rfl) (by rfl) (f := 27) (args := #[.agg #[.slice ada n cpa, .slice adv n cpv], .int .i64 (d : Int), .bool true]) (by simp [go_sem]) (HHB.out true wc11 hS) ?_
            rintro e wc15 ⟨xaB, xvB, rfl, ho, hb⟩
            have hB := ho.reads
            clear ho
            have hS2 := Sb.more hS HB1.out hb
            refine ⟨_, rfl, hS2, ?_⟩
            simp only [Act.put, List.getElem_toArray, List.getElem_cons_succ, List.getElem_cons_zero, List.setIfInBounds_toArray, List.set_cons_zero, List.set_cons_succ]
            clear hS
            have hS := hS2
            clear hS2
            replace hp := hp.below hb
            clear hb
            refine wpAnyH_pair 0 12 (by kernel_rfl) ?_ ?_
            · have hba := below_alloc wc15 (.cells #[Value.int .u8 2] 5)
              have hy := reads_val wc15 2 2 rfl
              have hSwa16 := Sb.more hS HB1.out hba
              refine wpOp_vl 0 (.slice (some ⟨wc15.heap.size, 0, none⟩) 1 1) (wc15.alloc (.cells #[.int .u8 2] 5)) rfl (by rfl) (by simp [go_sem]) ⟨hSwa16, ?_⟩
              simp only [Act.put, List.getElem_toArray, List.getElem_cons_zero, List.setIfInBounds_toArray, List.set_cons_zero, List.set_cons_succ]
              replace hp := hp.below hba
              replace hB := hB.below hba
              clear hS
              have hS := hSwa16
              clear hSwa16 hba
              generalize wc15.alloc (.cells #[Value.int .u8 2] 5) = wa16 at *
              obtain ⟨g0, hg0⟩ : ∃ z, z = wc15.heap.size := ⟨_, rfl⟩
              rw [← hg0] at hy ⊢
              clear hg0
              refine wpAnyH_enter 12 (by kernel_rfl) rfl (by rfl) (f := 25) (args := #[.agg #[xaB, xvB], .int .i64 (d1 : Int)]) (by simp [go_sem]) (HIX.out true xaB xvB wa16 hB) ?_
              rintro e wc17 ⟨vz, rfl, ho, hb⟩
              rw [← HQQ.out] at ho
              obtain ⟨a2, c2, rfl⟩ := ho.formP
              have hq := ho.reads
              clear ho hB
              have hS2 := Sb.more hS HB1.out hb
              refine ⟨_, rfl, hS2, ?_⟩
              simp only [Act.put, List.getElem_toArray, List.getElem_cons_succ, List.getElem_cons_zero, List.setIfInBounds_toArray, List.set_cons_zero, List.set_cons_succ]
              clear hS
              have hS := hS2
              clear hS2
              replace hp := hp.below hb
              replace hy := hy.below hb
              clear hb
              have hrl := readsL_three hy hp hq
              have hba := below_alloc wc17 (.cells #[.slice (some ⟨g0, 0, none⟩) 1 1, .slice a1 P.length c1, .slice a2 Q.length c2] 37)
              have hS7 := Sb.more hS HB1.out hba
              refine wpAnyH_step 13 (.slice (some ⟨wc17.heap.size, 0, none⟩) 3 3) (wc17.alloc (.cells #[.slice (some ⟨g0, 0, none⟩) 1 1, .slice a1 P.length c1, .slice a2 Q.length c2] 37)) (by kernel_rfl) rfl (by rfl) (by simp [go_sem]) hS7 ?_
              simp only [Act.put, List.getElem_toArray, List.getElem_cons_succ, List.getElem_cons_zero, List.setIfInBounds_toArray, List.set_cons_zero, List.set_cons_succ]
              generalize wc17.alloc (.cells #[.slice (some ⟨g0, 0, none⟩) 1 1, .slice a1 P.length c1, .slice a2 Q.length c2] 37) = wc17b at *
              clear hS hba
              refine wpAnyH_enter 14 (by kernel_rfl) rfl (by rfl) (f := 52) (args := #[.slice (some ⟨wc17.heap.size, 0, none⟩) 3 3]) (by simp [go_sem]) (rjoin_own _ _ wc17b hrl (by simp only [List.flatten_cons, List.flatten_nil, List.append_nil, List.length_append, List.length_cons, List.length_nil]; have := HLN.out; omega) (by simp)) ?_
              rintro e wc17j ⟨v8, rfl, ho8, hb8⟩
              have hS := Sb.more hS7 HB1.out hb8
              refine ⟨_, rfl, hS, ?_⟩
              simp only [Act.put, List.getElem_toArray, List.getElem_cons_succ, List.getElem_cons_zero, List.setIfInBounds_toArray, List.set_cons_zero, List.set_cons_succ]
              refine wpAnyH_take (i := 15) (v := v8) rfl (by kernel_rfl) (by kernel_rfl) (by kernel_rfl) (fun _ _ _ h => h) (Or.inl ⟨by rfl, fun wx hx => by simp [go_sem]⟩) hS ?_
              simp only [Act.put, List.getElem_toArray, List.getElem_cons_succ, List.getElem_cons_zero, List.setIfInBounds_toArray, List.set_cons_zero, List.set_cons_succ]
              refine wpAnyH_done (by kernel_rfl) ?_ _
              have HO8 : Hid (OwnB wc17j w.heap.size v8 t ∧ Below w.heap.size w wc17j) := ⟨by rw [HRE.out]; have h := ownB_mono17 ho8 (HSZ.out _ hS7); simp only [List.flatten_cons, List.flatten_nil, List.append_nil, List.singleton_append] at h; exact h, HOUT.out _ hS⟩
              clear hS hS7 hb8 ho8 hrl
              go_wp2
              go_ret
              exact ⟨_, rfl, HO8.out.1, HO8.out.2⟩
            · refine wpOp_en 12 (by rfl) (by rfl) (f := 25) (args := #[.agg #[xaB, xvB], .int .i64 (d1 : Int)]) (by simp [go_sem]) (HIX.out true xaB xvB wc15 hB) ?_
              rintro e wc18 ⟨vz, rfl, ho, hb⟩
              rw [← HQQ.out] at ho
              obtain ⟨a2, c2, rfl⟩ := ho.formP
              have hq := ho.reads
              clear ho hB
              have hS2 := Sb.more hS HB1.out hb
              refine ⟨_, rfl, hS2, ?_⟩
              simp only [Act.put, List.getElem_toArray, List.getElem_cons_succ, List.getElem_cons_zero, List.setIfInBounds_toArray, List.set_cons_zero, List.set_cons_succ]
              clear hS
              have hS := hS2
              clear hS2
              replace hp := hp.below hb
              clear hb
              have hba := below_alloc wc18 (.cells #[Value.int .u8 2] 5)
              have hy := reads_val wc18 2 2 rfl
              have hSwa19 := Sb.more hS HB1.out hba
              refine wpAnyH_step 0 (.slice (some ⟨wc18.heap.size, 0, none⟩) 1 1) (wc18.alloc (.cells #[.int .u8 2] 5)) (by kernel_rfl) rfl (by rfl) (by simp [go_sem]) hSwa19 ?_
              simp only [Act.put, List.getElem_toArray, List.getElem_cons_zero, List.setIfInBounds_toArray, List.set_cons_zero, List.set_cons_succ]
              replace hp := hp.below hba
              replace hq := hq.below hba
              clear hS
              have hS := hSwa19
              clear hSwa19 hba
              generalize wc18.alloc (.cells #[Value.int .u8 2] 5) = wa19 at *
              obtain ⟨g0, hg0⟩ : ∃ z, z = wc18.heap.size := ⟨_, rfl⟩
              rw [← hg0] at hy ⊢
              clear hg0
              have hrl := readsL_three hy hp hq
              have hba := below_alloc wa19 (.cells #[.slice (some ⟨g0, 0, none⟩) 1 1, .slice a1 P.length c1, .slice a2 Q.length c2] 37)
              have hS7 := Sb.more hS HB1.out hba
              refine wpAnyH_step 13 (.slice (some ⟨wa19.heap.size, 0, none⟩) 3 3) (wa19.alloc (.cells #[.slice (some ⟨g0, 0, none⟩) 1 1, .slice a1 P.length c1, .slice a2 Q.length c2] 37)) (by kernel_rfl) rfl (by rfl) (by simp [go_sem]) hS7 ?_
              simp only [Act.put, List.getElem_toArray, List.getElem_cons_succ, List.getElem_cons_zero, List.setIfInBounds_toArray, List.set_cons_zero, List.set_cons_succ]
              generalize wa19.alloc (.cells #[.slice (some ⟨g0, 0, none⟩) 1 1, .slice a1 P.length c1, .slice a2 Q.length c2] 37) = wa19b at *
              clear hS hba
              refine wpAnyH_enter 14 (by kernel_rfl) rfl (by rfl) (f := 52) (args := #[.slice (some ⟨wa19.heap.size, 0, none⟩) 3 3]) (by simp [go_sem]) (rjoin_own _ _ wa19b hrl (by simp only [List.flatten_cons, List.flatten_nil, List.append_nil, List.length_append, List.length_cons, List.length_nil]; have := HLN.out; omega) (by simp)) ?_
              rintro e wa19j ⟨v8, rfl, ho8, hb8⟩
              have hS := Sb.more hS7 HB1.out hb8
              refine ⟨_, rfl, hS, ?_⟩
              simp only [Act.put, List.getElem_toArray, List.getElem_cons_succ, List.getElem_cons_zero, List.setIfInBounds_toArray, List.set_cons_zero, List.set_cons_succ]
              refine wpAnyH_take (i := 15) (v := v8) rfl (by kernel_rfl) (by kernel_rfl) (by kernel_rfl) (fun _ _ _ h => h) (Or.inl ⟨by rfl, fun wx hx => by simp [go_sem]⟩) hS ?_
              simp only [Act.put, List.getElem_toArray, List.getElem_cons_succ, List.getElem_cons_zero, List.setIfInBounds_toArray, List.set_cons_zero, List.set_cons_succ]
              refine wpAnyH_done (by kernel_rfl) ?_ _
              have HO8 : Hid (OwnB wa19j w.heap.size v8 t ∧ Below w.heap.size w wa19j) := ⟨by rw [HRE.out]; have h := ownB_mono17 ho8 (HSZ.out _ hS7); simp only [List.flatten_cons, List.flatten_nil, List.append_nil, List.singleton_append] at h; exact h, HOUT.out _ hS⟩
              clear hS hS7 hb8 ho8 hrl
              go_wp2
              go_ret
              exact ⟨_, rfl, HO8.out.1, HO8.out.2⟩
theorem eWhole_any : ∀ (f d : Nat), 256 ≤ d + f → ∀ (l : List Lf) (va vv : Value) (w : World), Fits l d → ReadsLf w va vv l → l.length < 2000000 → d ≤ 256 →
    Calls Tryd.prog 25 #[.agg #[va, vv], .int .i64 (d : Int)] w fun e w' => ∃ v, e = .returned v ∧ OwnB w' w.heap.size v (wholeL d l) ∧ Below w.heap.size w w' := by
  intro f
  induction f with
  | zero => exact fun d hf l va vv w hF hR hl hd => eWhole_step l d va vv w hF hR hl hd fun h2 => absurd (hF.lt h2) (by omega)
  | succ f ih => exact fun d hf l va vv w hF hR hl hd => eWhole_step l d va vv w hF hR hl hd fun h2 on xa xv W hx => ih (d + 1) (by omega) (halfL l d on) xa xv W (hF.half on) hx (Nat.lt_of_le_of_lt (half_le l d on) hl) (hF.lt h2)
end Go.Proofs.YtphmmnffgknkcaaDoor

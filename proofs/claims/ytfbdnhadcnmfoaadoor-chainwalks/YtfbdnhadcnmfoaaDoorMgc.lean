/- Texts that the proof leans on, one behind the other: Roots and bindings in memory, held against each other; the reference's Root and Value (layer 9). Heads and signed roots in memory; slices of signed roots (layer 11). What the functions of layer 10 do (LmOps); the statements' own works and long. .. -/
import Derived.Test.YtfbdnhadcnmfoaaDoorMgb
import Derived.Deep.RegionHeld
import Derived.RangeFuncNested
import Derived.RangeFuncFrom
import Derived.OrdersIn
import Derived.TacticsIn
import Derived.Deep.DeepCutAuto
import Derived.Deep.CutRange
import Derived.Laws.Tables
/- Roots and bindings in memory, held against each other; the reference's Root and Value (layer 9). -/
namespace Go.Proofs.YtfbdnhadcnmfoaaDoor
open Go.RowKit
set_option maxRecDepth 100000
theorem part_dig (A C : List Value) (x : List (BitVec 8)) (off : Nat) (hA : A.length = off) (hx : x.length = 32) (w : World) : (part 23 (A ++ (cb x ++ C)).toArray off).run Tryd.prog w = .ok (.agg (cb x).toArray) w := by
  have ha : (isAgg 23).run Tryd.prog w = .ok true w := by kernel_rfl
  have hs : (sizeOf 23).run Tryd.prog w = .ok 32 w := by kernel_rfl
  have e : (A ++ (cb x ++ C)).toArray.extract off (off + 32) = (cb x).toArray := by
    rw [List.extract_toArray, List.extract_eq_take_drop, show off + 32 - off = 32 by omega, ← hA, List.drop_left, show (32 : Nat) = (cb x).length by rw [cb_len, hx], List.take_left]
  simp only [part, Sem.run_bind, ha, Result.andThen_ok, if_true, hs, Sem.run_pure, e]
theorem part_u64 (n : Nat) (r : List Value) (w : World) : (part 24 (Value.int .u64 (n : Int) :: r).toArray 0).run Tryd.prog w = .ok (.int .u64 (n : Int)) w := by
  have ha : (isAgg 24).run Tryd.prog w = .ok false w := by kernel_rfl
  simp only [part, Sem.run_bind, ha, Result.andThen_ok]
  simp
theorem eq_root (n m : Nat) (x y z a b c : List (BitVec 8)) (hx : x.length = 32) (hy : y.length = 32) (hz : z.length = 32) (ha : a.length = 32) (hb : b.length = 32) (hc : c.length = 32) (w : World) :
    (Op.equalIn 10000 28 (.agg (Value.int .u64 (n : Int) :: (cb x ++ (cb y ++ cb z))).toArray) (.agg (Value.int .u64 (m : Int) :: (cb a ++ (cb b ++ cb c))).toArray)).run Tryd.prog w = .ok (decide (n = m ∧ x = a ∧ y = b ∧ z = c)) w := by
  have hst : Tryd.prog.stoodInHeld 28 = false := by kernel_rfl
  have pn := fun w => part_u64 n (cb x ++ (cb y ++ cb z)) w
  have pm := fun w => part_u64 m (cb a ++ (cb b ++ cb c)) w
  have px : ∀ w, (part 23 (Value.int .u64 (n : Int) :: (cb x ++ (cb y ++ cb z))).toArray 1).run Tryd.prog w = .ok (.agg (cb x).toArray) w := fun w => part_dig [_] (cb y ++ cb z) x 1 rfl hx w
  have pa : ∀ w, (part 23 (Value.int .u64 (m : Int) :: (cb a ++ (cb b ++ cb c))).toArray 1).run Tryd.prog w = .ok (.agg (cb a).toArray) w := fun w => part_dig [_] (cb b ++ cb c) a 1 rfl ha w
  have py : ∀ w, (part 23 (Value.int .u64 (n : Int) :: (cb x ++ (cb y ++ cb z))).toArray 33).run Tryd.prog w = .ok (.agg (cb y).toArray) w := fun w => by
    have := part_dig (Value.int .u64 (n : Int) :: cb x) (cb z) y 33 (by rw [List.length_cons, cb_len, hx]) hy w
    rwa [List.cons_append] at this
  have pb : ∀ w, (part 23 (Value.int .u64 (m : Int) :: (cb a ++ (cb b ++ cb c))).toArray 33).run Tryd.prog w = .ok (.agg (cb b).toArray) w := fun w => by
    have := part_dig (Value.int .u64 (m : Int) :: cb a) (cb c) b 33 (by rw [List.length_cons, cb_len, ha]) hb w
    rwa [List.cons_append] at this
  have pz : ∀ w, (part 23 (Value.int .u64 (n : Int) :: (cb x ++ (cb y ++ cb z))).toArray 65).run Tryd.prog w = .ok (.agg (cb z).toArray) w := fun w => by
    have := part_dig (Value.int .u64 (n : Int) :: (cb x ++ cb y)) [] z 65 (by rw [List.length_cons, List.length_append, cb_len, cb_len, hx, hy]) hz w
    rwa [List.cons_append, List.append_nil, List.append_assoc] at this
  have pc : ∀ w, (part 23 (Value.int .u64 (m : Int) :: (cb a ++ (cb b ++ cb c))).toArray 65).run Tryd.prog w = .ok (.agg (cb c).toArray) w := fun w => by
    have := part_dig (Value.int .u64 (m : Int) :: (cb a ++ cb b)) [] c 65 (by rw [List.length_cons, List.length_append, cb_len, cb_len, ha, hb]) hc w
    rwa [List.cons_append, List.append_nil, List.append_assoc] at this
  have ex : ∀ w, (Op.equalIn 9999 23 (.agg (cb x).toArray) (.agg (cb a).toArray)).run Tryd.prog w = .ok (decide (x = a)) w := fun w => eq_digs 9997 x a hx ha w
  have ey : ∀ w, (Op.equalIn 9999 23 (.agg (cb y).toArray) (.agg (cb b).toArray)).run Tryd.prog w = .ok (decide (y = b)) w := fun w => eq_digs 9997 y b hy hb w
  have ez : ∀ w, (Op.equalIn 9999 23 (.agg (cb z).toArray) (.agg (cb c).toArray)).run Tryd.prog w = .ok (decide (z = c)) w := fun w => eq_digs 9997 z c hz hc w
  have en : ∀ w, (Op.equalIn 9999 24 (.int .u64 (n : Int)) (.int .u64 (m : Int))).run Tryd.prog w = .ok ((n : Int) == (m : Int)) w := fun w => run_equalIn_int w 9998 24 .u64 .u64 _ _ Tryd.underlying24
  rw [show (10000 : Nat) = 9999 + 1 from rfl, Op.equalIn]
  simp only [Sem.run_bind, run_underlying Tryd.underlying28, Result.andThen_ok]
  have hp : ∀ w, (program).run Tryd.prog w = .ok Tryd.prog w := fun _ => rfl
  have hd : decide (n = m ∧ x = a ∧ y = b ∧ z = c) = (((n : Int) == (m : Int)) && (decide (x = a) && (decide (y = b) && decide (z = c)))) := by
    have e : ((n : Int) == (m : Int)) = decide (n = m) := by
      rw [Bool.eq_iff_iff, beq_iff_eq, decide_eq_true_iff]; omega
    rw [e]; simp
  rw [hd]
  generalize ((n : Int) == (m : Int)) = bn at *
  generalize decide (x = a) = bx at *
  generalize decide (y = b) = by' at *
  generalize decide (z = c) = bz at *
  clear hd
  simp only [hp, Result.andThen_ok, hst, Bool.false_eq_true, if_false, List.forIn_toArray, List.forIn_cons, List.forIn_nil, Sem.run_bind]
  cases bn <;> cases bx <;> cases by' <;> cases bz <;> simp [pn, pm, px, pa, py, pb, pz, pc, en, ex, ey, ez]
theorem valueB_iff {x y nm nn ky kk : List (BitVec 8)} {s t : Nat} (h : x.length = 32) (k : y.length = 32) (h1 : nm.length ≤ 4000 ∧ s < 18446744073709551616) (k1 : nn.length ≤ 4000 ∧ t < 18446744073709551616) :
    valueB x nm s ky = valueB y nn t kk ↔ x = y ∧ nm = nn ∧ s = t ∧ ky = kk := by
  unfold valueB
  rw [List.cons_inj_right, app_inj (by omega), app_inj (by rw [len_num8, len_num8]), num8_iff (by omega) (by omega)]
  constructor
  · rintro ⟨rfl, hl, h2⟩
    obtain ⟨rfl, h3⟩ := (app_inj hl).1 h2
    obtain ⟨h4, rfl⟩ := (app_inj (by rw [len_num8, len_num8])).1 h3
    exact ⟨rfl, rfl, num8_inj h1.2 k1.2 h4, rfl⟩
  · rintro ⟨rfl, rfl, rfl, rfl⟩; exact ⟨rfl, rfl, rfl⟩
theorem info_root0 : (Tryd.prog.info? 28).map (·.size) = some 97 := by kernel_rfl
theorem info_root (v : Value) (x y z : List (BitVec 8)) (h : x.length = 32 ∧ y.length = 32 ∧ z.length = 32) : (Tryd.prog.info? 28).map (·.size) = some (v :: (cb x ++ (cb y ++ cb z))).length := by
  rw [info_root0, List.length_cons, List.length_append, List.length_append, cb_len, cb_len, cb_len, h.1, h.2.1, h.2.2]
theorem len_valueB (x nm : List (BitVec 8)) (sr : Nat) (ky : List (BitVec 8)) (hx : x.length = 32) : (valueB x nm sr ky).length = 49 + nm.length + ky.length := by simp [valueB, hx, len_num8]; omega
/-- a row in a new block -/
theorem wpSeq_boxR {ops : Array Oper} {Q : Exit → Act → World → Prop} {rest : List Oper} {o : Oper} {a : Act} {w : World} (ty : TypeId) (x : Operand) (cs : List Value) (ho : o.op = .box ty x) (hx : a.eval x = .agg cs.toArray) (hw : Region.wanted o (yielded ops a.tmps) = true)
    (h : ∀ g w', Blk w' g cs ty → Below w.heap.size w w' → wpList Tryd.prog ops Q rest (a.put o.dst (.pointer (some ⟨g, 0, none⟩))) w') : wpList Tryd.prog ops Q (o :: rest) a w :=
  wpSeq_box ty x ho cs hx hw _ rfl (h _ _ (Blk.new w cs ty) (below_alloc _ _))
theorem wpSeq_loadRow {ops : Array Oper} {Q : Exit → Act → World → Prop} {rest : List Oper} {o : Oper} {a : Act} {w : World} (ty : TypeId) (x : Operand) (g : Nat) (cs : List Value) (d : TypeDesc) (hb : Blk w g cs ty) (hu : Tryd.prog.underlying ty = some d) (hd : d.isRow = true) (hi : (Tryd.prog.info? ty).map (·.size) = some cs.length) (ho : o.op = .load ty x) (hx : a.eval x = .pointer (some ⟨g, 0, none⟩)) (hw : Region.wanted o (yielded ops a.tmps) = true)
    (h : wpList Tryd.prog ops Q rest (a.put o.dst (.agg cs.toArray)) w) : wpList Tryd.prog ops Q (o :: rest) a w :=
  wpSeq_val _ _ hw (load_run ty x ho g 0 hx cs d hb.range hu hd hi) h
def rootC (n : Nat) (x y z : List (BitVec 8)) : List Value := Value.int .u64 (n : Int) :: (cb x ++ (cb y ++ cb z))
def bindC (nm : List (BitVec 8)) (vk : Value) (sr : Nat) : List Value := [.string (strB nm), vk, .int .u64 (sr : Int)]
set_option maxRecDepth 100000 in
set_option maxHeartbeats 4000000 in
theorem hRoot_any (n : Nat) (x y z : List (BitVec 8)) (w : World) (hn : x.length = 32 ∧ y.length = 32 ∧ z.length = 32 ∧ n < 18446744073709551616) :
    Calls Tryd.prog 20 #[.agg (rootC n x y z).toArray] w fun e w' => e = .returned (.agg (cb (dig (rootB n x y z))).toArray) ∧ Below w.heap.size w w' := by
  obtain ⟨r, HRD⟩ : ∃ r, Hid (r = dig (rootB n x y z)) := ⟨_, rfl⟩
  have HRL : Hid (r.length = 32) := by show _ = _; rw [HRD.out]; exact len_dig' _
  obtain ⟨cs, HCS⟩ : ∃ c, Hid (c = rootC n x y z) := ⟨_, rfl⟩
  have HIN : Hid ((Tryd.prog.info? 28).map (·.size) = some cs.length) := by rw [HCS.out]; exact info_root _ x y z ⟨hn.1, hn.2.1, hn.2.2.1⟩
  have HC : Hid (∀ W, Calls Tryd.prog 21 #[.agg cs.toArray] W fun e w' => ∃ v, e = .returned v ∧ Reads w' v (rootB n x y z) ∧ Below W.heap.size W w') := fun W => by rw [HCS.out]; exact rRoot_any x y z n W hn
  have HLB : Hid ((rootB n x y z).length = 105) := len_rootB n x y z ⟨hn.1, hn.2.1, hn.2.2.1⟩
  rw [← HRD.out, ← HCS.out]
  clear hn
  have HBW : Hid (Below w.heap.size w w) := Below.refl _ _
  go_enter Tryd.func20, Tryd.ntmps20
  go_wp2_with (first
    | (with_reducible refine wpSeq_boxR 28 (.tmp 0) cs ?_ ?_ ?_ ?_
       · rfl
       · rfl
       · rfl
       intro g1 w1 hb1 hl1
       have HX : Hid (Blk w1 g1 cs 28) := hb1
       replace HBW : Hid (Below w.heap.size w w1) := HBW.out.trans (hl1.mono HBW.out.size)
       clear hb1 hl1)
    | (with_reducible refine wpSeq_allocD ?_ ?_ ?_
       · rfl
       · rfl
       intro g2 w2 nn
       replace HX : Hid (Blk w2 g1 cs 28) := HX.out.below nn.below HX.out.lt
       have HZ : Hid (Blk w2 g2 (cb zb32) 23 ∧ w.heap.size ≤ g2) := ⟨nn.blk, Nat.le_trans HBW.out.size nn.ge⟩
       replace HBW : Hid (Below w.heap.size w w2) := HBW.out.trans (nn.below.mono HBW.out.size)
       clear nn)
    | (with_reducible refine wpSeq_loadRow 28 (.tmp 1) g1 cs _ ?_ Tryd.underlying28 rfl ?_ ?_ ?_ ?_ ?_
       · exact HX.out
       · exact HIN.out
       · rfl
       · rfl
       · rfl)
    | (go_at_call 21; refine (HC.out _).mono ?_; rintro e w3 ⟨v3, rfl, hr3, hb3⟩
       obtain ⟨a3, n3, c3, hv3⟩ := hr3.form
       subst hv3
       have HR3 : Hid (Reads w3 (.slice a3 n3 c3) (rootB n x y z)) := hr3
       replace HZ : Hid (Blk w3 g2 (cb zb32) 23 ∧ w.heap.size ≤ g2) := ⟨HZ.out.1.below hb3 HZ.out.1.lt, HZ.out.2⟩
       replace HBW : Hid (Below w.heap.size w w3) := HBW.out.trans (hb3.mono HBW.out.size)
       clear hb3 hr3)
    | (go_at_call 32; refine (rOf_any _ _ _ HR3.out (by have := HLB.out; omega)).mono ?_; rintro e w4 ⟨rfl, hb4⟩; rw [← HRD.out]
       replace HZ : Hid (Blk w4 g2 (cb zb32) 23 ∧ w.heap.size ≤ g2) := ⟨HZ.out.1.below hb4 HZ.out.1.lt, HZ.out.2⟩
       replace HBW : Hid (Below w.heap.size w w4) := HBW.out.trans (hb4.mono HBW.out.size)
       clear hb4 HR3)
    | (with_reducible refine wpSeq_storeD (.tmp 2) (.tmp 5) g2 zb32 r ?_ ?_ ?_ ?_ ?_ ?_ ?_ ?_
       · rfl
       · exact HRL.out
       · exact HZ.out.1
       · rfl
       · rfl
       · rfl
       · rfl
       intro w9 h9))
  exact bodyPost_ret (v := .agg (cb r).toArray) (results_cell_row (by rfl) _ _ g2 23 _ (0, 0) _ rfl h9.blk Tryd.underlying23 rfl (by rw [List.size_toArray, cb_len, HRL.out]; exact info_digest)) rfl ⟨rfl, HBW.out.trans (h9.only.below HZ.out.2 HBW.out.size)⟩
end Go.Proofs.YtfbdnhadcnmfoaaDoor
/- Heads and signed roots in memory; slices of signed roots (layer 11). -/
namespace Go.Proofs.YtfbdnhadcnmfoaaDoor
open Go.RowKit
set_option maxRecDepth 100000
/-- the cells of a head, of a root, of a signed root -/
def hdC (h : HdT) : List Value := Value.int .u64 (h.1 : Int) :: (cb h.2.1 ++ cb h.2.2)
def rtC (s : SgT) : List Value := Value.int .u64 (s.1.1 : Int) :: (cb s.1.2.1 ++ (cb s.1.2.2.1 ++ cb s.1.2.2.2))
def sgC (s : SgT) (vs : Value) : List Value := Value.int .u64 (s.1.1 : Int) :: (cb s.1.2.1 ++ (cb s.1.2.2.1 ++ (cb s.1.2.2.2 ++ [vs])))
theorem len_hdC {h : HdT} (oh : okH h) : (hdC h).length = 65 := by simp [hdC, cb_len, oh.1, oh.2.1]
theorem len_rtC {s : SgT} (os : okS s) : (rtC s).length = 97 := by simp [rtC, cb_len, os.1, os.2.1, os.2.2.1]
theorem len_sgC {s : SgT} (os : okS s) (vs : Value) : (sgC s vs).length = 98 := by simp [sgC, cb_len, os.1, os.2.1, os.2.2.1]
theorem sgC_eq (s : SgT) (vs : Value) : sgC s vs = rtC s ++ [vs] := by simp [sgC, rtC]
theorem info_head : (Tryd.prog.info? 26).map (·.size) = some 65 := by kernel_rfl
theorem info_signed : (Tryd.prog.info? 31).map (·.size) = some 98 := by kernel_rfl
theorem info_hdC {h : HdT} (oh : okH h) : (Tryd.prog.info? 26).map (·.size) = some (hdC h).length := by rw [len_hdC oh]; exact info_head
theorem info_rtC {s : SgT} (os : okS s) : (Tryd.prog.info? 28).map (·.size) = some (rtC s).length := by rw [len_rtC os]; exact info_root0
theorem info_sgC {s : SgT} (os : okS s) (vs : Value) : (Tryd.prog.info? 31).map (·.size) = some (sgC s vs).length := by rw [len_sgC os]; exact info_signed
theorem range_part {w : World} {b off k : Nat} {A B C : List Value} (h : w.rangeAt b off (A ++ (B ++ C))) (hk : A.length = k) : w.rangeAt b (off + k) B := fun j v hj => by
  have hlt := (List.getElem?_eq_some_iff.1 hj).1
  have h2 := h (k + j) v (by
    rw [List.getElem?_append_right (by omega), show k + j - A.length = j by omega, List.getElem?_append_left hlt]
    exact hj)
  rwa [← Nat.add_assoc] at h2
theorem range_end {w : World} {b off k : Nat} {A B : List Value} (h : w.rangeAt b off (A ++ B)) (hk : A.length = k) : w.rangeAt b (off + k) B :=
  range_part (C := []) (by rw [List.append_nil]; exact h) hk
/-- where a head lies -/
structure HdAt (w : World) (b off : Nat) (h : HdT) : Prop where
  all : w.rangeAt b off (hdC h)
  ok : okH h
theorem HdAt.ep {w : World} {b off : Nat} {h : HdT} (r : HdAt w b off h) : w.cell? ⟨b, off, none⟩ = some (.int .u64 (h.1 : Int)) := r.all 0 _ rfl
theorem HdAt.rt {w : World} {b off : Nat} {h : HdT} (r : HdAt w b off h) : w.rangeAt b (off + 1) (cb h.2.1) := range_part (A := [Value.int .u64 (h.1 : Int)]) (B := cb h.2.1) (C := cb h.2.2) r.all rfl
theorem HdAt.ky {w : World} {b off : Nat} {h : HdT} (r : HdAt w b off h) : w.rangeAt b (off + 33) (cb h.2.2) :=
  range_end (A := Value.int .u64 (h.1 : Int) :: cb h.2.1) (B := cb h.2.2) r.all (by rw [List.length_cons, cb_len, r.ok.1])
/-- where a signed root lies -/
structure SgAt (w : World) (b off : Nat) (s : SgT) (vs : Value) : Prop where
  all : w.rangeAt b off (sgC s vs)
  ok : okS s
theorem SgAt.ep {w : World} {b off : Nat} {s : SgT} {vs : Value} (r : SgAt w b off s vs) : w.cell? ⟨b, off, none⟩ = some (.int .u64 (s.1.1 : Int)) := r.all 0 _ rfl
theorem SgAt.prev {w : World} {b off : Nat} {s : SgT} {vs : Value} (r : SgAt w b off s vs) : w.rangeAt b (off + 1) (cb s.1.2.1) := range_part (A := [Value.int .u64 (s.1.1 : Int)]) (B := cb s.1.2.1) (C := cb s.1.2.2.1 ++ (cb s.1.2.2.2 ++ [vs])) r.all rfl
theorem SgAt.tree {w : World} {b off : Nat} {s : SgT} {vs : Value} (r : SgAt w b off s vs) : w.rangeAt b (off + 33) (cb s.1.2.2.1) :=
  range_part (A := Value.int .u64 (s.1.1 : Int) :: cb s.1.2.1) (B := cb s.1.2.2.1) (C := cb s.1.2.2.2 ++ [vs]) r.all (by rw [List.length_cons, cb_len, r.ok.1])
theorem SgAt.next {w : World} {b off : Nat} {s : SgT} {vs : Value} (r : SgAt w b off s vs) : w.rangeAt b (off + 65) (cb s.1.2.2.2) :=
  range_part (A := Value.int .u64 (s.1.1 : Int) :: (cb s.1.2.1 ++ cb s.1.2.2.1)) (B := cb s.1.2.2.2) (C := [vs]) (by have := r.all; rw [sgC] at this; simpa using this) (by rw [List.length_cons, List.length_append, cb_len, cb_len, r.ok.1, r.ok.2.1])
theorem SgAt.root {w : World} {b off : Nat} {s : SgT} {vs : Value} (r : SgAt w b off s vs) : w.rangeAt b off (rtC s) :=
  range_part (k := 0) (A := []) (B := rtC s) (C := [vs]) (by have := r.all; rw [sgC_eq] at this; exact this) rfl
theorem SgAt.sig {w : World} {b off : Nat} {s : SgT} {vs : Value} (r : SgAt w b off s vs) : w.cell? ⟨b, off + 97, none⟩ = some vs := by
  have h := range_end (k := 97) (A := rtC s) (B := [vs]) (by have := r.all; rw [sgC_eq] at this; exact this) (len_rtC r.ok)
  simpa using h 0 _ rfl
theorem Blk.hdAt {w : World} {g : Nat} {h : HdT} (hb : Blk w g (hdC h) 26) (oh : okH h) : HdAt w g 0 h := ⟨hb.range, oh⟩
theorem Blk.sgAt {w : World} {g : Nat} {s : SgT} {vs : Value} (hb : Blk w g (sgC s vs) 31) (os : okS s) : SgAt w g 0 s vs := ⟨hb.range, os⟩
theorem eq_head (h k : HdT) (oh : okH h) (ok : okH k) (w : World) : (Op.equalIn 10000 26 (.agg (hdC h).toArray) (.agg (hdC k).toArray)).run Tryd.prog w = .ok (decide (h = k)) w := by
  obtain ⟨n, x, y⟩ := h
  obtain ⟨m, a, b⟩ := k
  obtain ⟨hx, hy, _⟩ := oh
  obtain ⟨ha, hb, _⟩ := ok
  simp only at hx hy ha hb
  show (Op.equalIn 10000 26 (.agg (Value.int .u64 (n : Int) :: (cb x ++ cb y)).toArray) (.agg (Value.int .u64 (m : Int) :: (cb a ++ cb b)).toArray)).run Tryd.prog w = _
  have hst : Tryd.prog.stoodInHeld 26 = false := by kernel_rfl
  have pn := fun w => part_u64 n (cb x ++ cb y) w
  have pm := fun w => part_u64 m (cb a ++ cb b) w
  have px : ∀ w, (part 23 (Value.int .u64 (n : Int) :: (cb x ++ cb y)).toArray 1).run Tryd.prog w = .ok (.agg (cb x).toArray) w := fun w => part_dig [_] (cb y) x 1 rfl hx w
  have pa : ∀ w, (part 23 (Value.int .u64 (m : Int) :: (cb a ++ cb b)).toArray 1).run Tryd.prog w = .ok (.agg (cb a).toArray) w := fun w => part_dig [_] (cb b) a 1 rfl ha w
  have py : ∀ w, (part 23 (Value.int .u64 (n : Int) :: (cb x ++ cb y)).toArray 33).run Tryd.prog w = .ok (.agg (cb y).toArray) w := fun w => by
    have := part_dig (Value.int .u64 (n : Int) :: cb x) [] y 33 (by rw [List.length_cons, cb_len, hx]) hy w
    rwa [List.cons_append, List.append_nil] at this
  have pb : ∀ w, (part 23 (Value.int .u64 (m : Int) :: (cb a ++ cb b)).toArray 33).run Tryd.prog w = .ok (.agg (cb b).toArray) w := fun w => by
    have := part_dig (Value.int .u64 (m : Int) :: cb a) [] b 33 (by rw [List.length_cons, cb_len, ha]) hb w
    rwa [List.cons_append, List.append_nil] at this
  have ex : ∀ w, (Op.equalIn 9999 23 (.agg (cb x).toArray) (.agg (cb a).toArray)).run Tryd.prog w = .ok (decide (x = a)) w := fun w => eq_digs 9997 x a hx ha w
  have ey : ∀ w, (Op.equalIn 9999 23 (.agg (cb y).toArray) (.agg (cb b).toArray)).run Tryd.prog w = .ok (decide (y = b)) w := fun w => eq_digs 9997 y b hy hb w
  have en : ∀ w, (Op.equalIn 9999 24 (.int .u64 (n : Int)) (.int .u64 (m : Int))).run Tryd.prog w = .ok ((n : Int) == (m : Int)) w := fun w => run_equalIn_int w 9998 24 .u64 .u64 _ _ Tryd.underlying24
  rw [show (10000 : Nat) = 9999 + 1 from rfl, Op.equalIn]
  simp only [Sem.run_bind, run_underlying Tryd.underlying26, Result.andThen_ok]
  have hp : ∀ w, (program).run Tryd.prog w = .ok Tryd.prog w := fun _ => rfl
  have hd : decide (((n, x, y) : HdT) = (m, a, b)) = (((n : Int) == (m : Int)) && (decide (x = a) && decide (y = b))) := by
    have e : ((n : Int) == (m : Int)) = decide (n = m) := by
      rw [Bool.eq_iff_iff, beq_iff_eq, decide_eq_true_iff]; omega
    rw [e]; simp
  rw [hd]
  generalize ((n : Int) == (m : Int)) = bn at *
  generalize decide (x = a) = bx at *
  generalize decide (y = b) = by' at *
  clear hd
  simp only [hp, Result.andThen_ok, hst, Bool.false_eq_true, if_false, List.forIn_toArray, List.forIn_cons, List.forIn_nil, Sem.run_bind]
  cases bn <;> cases bx <;> cases by' <;> simp [pn, pm, px, pa, py, pb, en, ex, ey]
/-- the slice v reads as the signed roots l -/
def ReadsS (w : World) (v : Value) (l : List SgT) : Prop :=
  (∃ ad cap, v = .slice ad l.length cap ∧ l.length ≤ cap ∧ (ad = none → cap = 0) ∧ (0 < l.length → ∃ b off, ad = some ⟨b, off, none⟩ ∧ ∀ j, j < l.length → ∃ vs, SgAt w b (off + j * 98) (l.getD j zeroS) vs ∧ Reads w vs (l.getD j zeroS).2)) ∧ ∀ s ∈ l, okS s
theorem ReadsS.nil (w : World) : ReadsS w (.slice none 0 0) [] := ⟨⟨none, 0, rfl, Nat.le_refl _, fun _ => rfl, fun h => by cases h⟩, fun _ h => by cases h⟩
theorem SgAt.below {w w' : World} {b off B : Nat} {s : SgT} {vs : Value} (h : SgAt w b off s vs) (hb : Below B w w') (hB : w.heap.size ≤ B) : SgAt w' b off s vs := by
  have hlt : b < w.heap.size := block_lt_of_cell h.ep
  exact ⟨rangeAt_below h.all hb (by omega), h.ok⟩
theorem HdAt.below {w w' : World} {b off B : Nat} {h : HdT} (r : HdAt w b off h) (hb : Below B w w') (hB : w.heap.size ≤ B) : HdAt w' b off h := by
  have hlt : b < w.heap.size := block_lt_of_cell r.ep
  exact ⟨rangeAt_below r.all hb (by omega), r.ok⟩
theorem ReadsS.below {w w' : World} {v : Value} {l : List SgT} (h : ReadsS w v l) (hb : Below w.heap.size w w') : ReadsS w' v l := by
  obtain ⟨⟨ad, cap, hv, hc, hn, hx⟩, h32⟩ := h
  refine ⟨⟨ad, cap, hv, hc, hn, fun hp => ?_⟩, h32⟩
  obtain ⟨b, off, rfl, hy⟩ := hx hp
  refine ⟨b, off, rfl, fun j hj => ?_⟩
  obtain ⟨vs, h1, h2⟩ := hy j hj
  exact ⟨vs, h1.below hb (Nat.le_refl _), h2.below hb⟩
theorem getD_okS {l : List SgT} (h : ∀ s ∈ l, okS s) (j : Nat) : okS (l.getD j zeroS) := by
  by_cases hj : j < l.length
  · rw [List.getD_eq_getElem?_getD, List.getElem?_eq_getElem hj]
    exact h _ (List.getElem_mem hj)
  · rw [List.getD_eq_getElem?_getD, List.getElem?_eq_none (by omega)]
    exact okS_zero
/-- the place of a signed root in its slice -/
theorem ReadsS.at {w : World} {v : Value} {l : List SgT} (h : ReadsS w v l) (hp : 0 < l.length) : ∃ b off cap, v = .slice (some ⟨b, off, none⟩) l.length cap ∧ ∀ j, j < l.length → ∃ vs, SgAt w b (off + j * 98) (l.getD j zeroS) vs ∧ Reads w vs (l.getD j zeroS).2 := by
  obtain ⟨⟨ad, cap, hv, hc, hn, hx⟩, _⟩ := h
  obtain ⟨b, off, rfl, hy⟩ := hx hp
  exact ⟨b, off, cap, hv, hy⟩
end Go.Proofs.YtfbdnhadcnmfoaaDoor
/- What the functions of layer 10 do (LmOps); the statements' own works and long. -/
namespace Go.Proofs.YtfbdnhadcnmfoaaDoor
open Go.RowKit
set_option maxRecDepth 100000
/-- lamport's functions, as the chapter says -/
structure LmOps : Prop where
  text : ∀ (W : World) (x : List (BitVec 8)) (key : Nat), KOk W → x.length = 32 ∧ key < 18446744073709551616 →
    Calls Tryd.prog 35 #[.agg (cb x).toArray, .int .u64 (key : Int)] W fun e w' => ∃ v, e = .returned v ∧ Reads w' v (textR (partB x key) 256) ∧ Below W.heap.size W w'
  pub : ∀ (W : World) (x : List (BitVec 8)) (key : Nat), KOk W → x.length = 32 ∧ key < 18446744073709551616 →
    Calls Tryd.prog 24 #[.agg (cb x).toArray, .int .u64 (key : Int)] W fun e w' => e = .returned (.agg (cb (dig (textR (partB x key) 256))).toArray) ∧ Below W.heap.size W w'
  sign : ∀ (W : World) (x : List (BitVec 8)) (key : Nat) (vb : Value) (b : List (BitVec 8)), KOk W → x.length = 32 ∧ key < 18446744073709551616 → Reads W vb b → b.length < 140737488350000 →
    Calls Tryd.prog 25 #[.agg (cb x).toArray, .int .u64 (key : Int), vb] W fun e w' => ∃ v, e = .returned v ∧ Reads w' v (signR (partB x key) (bt (dig b)) 256) ∧ Below W.heap.size W w'
  opened : ∀ (W : World) (vb vs : Value) (b sig : List (BitVec 8)), KOk W → Reads W vb b → Reads W vs sig → b.length < 140737488350000 →
    Calls Tryd.prog 46 #[vb, vs] W (OpenA W b sig)
  check : ∀ (W : World) (p : List (BitVec 8)) (vb vs : Value) (b sig : List (BitVec 8)), KOk W → p.length = 32 → Reads W vb b → Reads W vs sig → b.length < 140737488350000 →
    Calls Tryd.prog 29 #[.agg (cb p).toArray, vb, vs] W fun e w' => e = .returned (.int .i64 (checkE p b sig)) ∧ Below W.heap.size W w'
theorem reads_nil10 (W : World) : Reads W (.slice none 0 0) [] := ⟨Option.none, 0, rfl, Nat.le_refl _, fun _ => rfl, fun h => by cases h⟩
/-- the first byte of what is read -/
theorem Reads.head {w : World} {v : Value} {b : BitVec 8} {l : List (BitVec 8)} {n : Nat} (h : Reads w v (b :: l)) (hn : (b :: l).length = n) : ∃ g off c, v = .slice (some ⟨g, off, none⟩) n c ∧ w.cell? ⟨g, off, none⟩ = some (.int .u8 (b.toNat : Int)) := by
  obtain ⟨ad, cap, hv, hc, _, hx⟩ := h
  obtain ⟨g, off, rfl, hy⟩ := hx (by simp)
  have h0 := hy 0 (by simp)
  refine ⟨g, off, cap, by rw [hv, hn], ?_⟩
  simpa using h0
end Go.Proofs.YtfbdnhadcnmfoaaDoor
/- A region that draws its order, in a round of a loop over a function: no other than anywhere. -/
namespace Go.Proofs.YtfbdnhadcnmfoaaDoor
open Go.RowKit
set_option maxRecDepth 100000
theorem upon_round {P : Program} {o : Oper} {a : Act} {K : Act → World → Prop} {Q : Exit → Act → World → Prop} {l n : Nat} : ∀ {r : Result Next}, o.upon P a K Q r → o.uponIn (Fence.wide.inRound l) n P a K Q r
  | .ok (.value _) _, h => h
  | .ok .skip _, h => h
  | .ok (.defer _) _, h => h
  | .ok (.enter _ _) _, h => ⟨fun hx => (nomatch hx), CallsIn.inRound l (callsIn_wide.2 h)⟩
  | .ok (.row _ _) _, h => ⟨fun hx => (nomatch hx), fun c cs _ => by
      obtain ⟨v, wq, r, s⟩ := h c cs
      exact ⟨v, wq, r, stepsIn_wide.2 s⟩⟩
  | .halt (.panic _) _, h => h
/-- no operation is put off -/
def noDefer (ops : Array Oper) : Bool := ops.toList.all fun o => match o.op with | .defer _ => false | _ => true
theorem noDefer_at {ops : Array Oper} (h : noDefer ops = true) {i : Nat} {o : Oper} (hi : ops[i]? = some o) (c : _) : o.op ≠ .defer c := by
  intro he
  have h1 := List.all_eq_true.1 h o (by rw [Array.mem_toList_iff]; exact Array.mem_of_getElem? hi)
  rw [he] at h1
  cases h1
theorem wpOp_round {P : Program} {ops : Array Oper} {Q : Exit → Act → World → Prop} {l n : Nat} (hnd : noDefer ops = true) (hQ : ¬ LetsOut Q) {i : Nat} {K K' : Act → World → Prop} (hK : ∀ a w, K a w → K' a w) {a : Act} {w : World} (h : wpOp P ops Q i K a w) : wpOpIn (Fence.wide.inRound l) n P ops Q i K' a w := by
  refine wpOpIn_mono hK ?_
  unfold wpOp at h
  unfold wpOpIn
  cases ho : ops[i]? with
  | none => rw [ho] at h; exact h
  | some o =>
    rw [ho] at h
    simp only at h ⊢
    by_cases hw : Region.wanted o (yielded ops a.tmps) = true
    · rw [if_pos hw] at h ⊢
      rcases h with h | h
      · refine ⟨fun _ _ => trivial, ?_⟩
        rw [Oper.semAt_eq _ _ _ (noDefer_at hnd ho)]
        exact upon_round h
      · exact absurd h.2 hQ
    · rw [if_neg hw] at h ⊢
      exact ⟨fun _ _ => trivial, h⟩
theorem wpAny_round {P : Program} {md : Region.Mode} {ops : Array Oper} {Q : Exit → Act → World → Prop} {l n : Nat} (hnd : noDefer ops = true) (hQ : ¬ LetsOut Q) : ∀ (fuel : Nat) (listed : Array Bool) (a : Act) (w : World), wpAny P md ops Q fuel listed a w → wpAnyIn (Fence.wide.inRound l) n P md ops Q fuel listed a w
  | 0, _, _, _, h => h
  | fuel + 1, _, _, _, h => ⟨h.1, fun i hi => wpOp_round hnd hQ (fun a w h => wpAny_round hnd hQ fuel _ a w h) (h.2 i hi)⟩
/-- a region that draws, in a round -/
theorem wpIn_round_held {P : Program} {ops : Array Oper} {Q : Exit → Act → World → Prop} {S : World → Prop} {l n id : Nat} {a : Act} {w : World} (hm : P.follows .mixedOrders = true) (hnd : noDefer ops = true) (hQ : ¬ LetsOut Q) (hS : S w.drew)
    (h : S w.drew → wpAnyH P .any ops Q S ops.size (Array.replicate ops.size false) a w.drew) : (Code.region id ops true).wpIn (Fence.wide.inRound l) n P Q a w :=
  wpIn_region_any hm (wpAny_round hnd hQ _ _ _ _ (wpAny_of_held _ _ _ _ (h hS)))
theorem wpList_round {P : Program} {ops : Array Oper} {Q : Exit → Act → World → Prop} {m n : Nat} (hQ : ¬ LetsOut Q) : ∀ (l : List Oper) (_ : noDefer l.toArray = true) (a : Act) (w : World), wpList P ops Q l a w → wpListIn (Fence.wide.inRound m) n P ops Q l a w
  | [], _, _, _, h => h
  | o :: rest, hnd, a, w, h => by
    have ho : ∀ c, o.op ≠ .defer c := fun c => noDefer_at hnd (i := 0) rfl c
    have hr : noDefer rest.toArray = true := by
      unfold noDefer at hnd ⊢
      simp only [List.all_cons, Bool.and_eq_true] at hnd
      exact hnd.2
    unfold wpList at h
    unfold wpListIn
    by_cases hw : Region.wanted o (yielded ops a.tmps) = true
    · rw [if_pos hw] at h ⊢
      rcases h with h | h
      · refine Oper.wpIn_mono (fun a w h => wpList_round hQ rest hr a w h) ⟨fun _ _ => trivial, ?_⟩
        rw [Oper.semAt_eq _ _ _ ho]
        exact upon_round h
      · exact absurd h.2 hQ
    · rw [if_neg hw] at h ⊢
      exact ⟨fun _ _ => trivial, wpList_round hQ rest hr _ w h⟩
/-- a region that does not draw, in a round -/
theorem wpIn_round_list {P : Program} {l : List Oper} {Q : Exit → Act → World → Prop} {m n id : Nat} {a : Act} {w : World} (hnd : noDefer l.toArray = true) (hQ : ¬ LetsOut Q) (h : wpList P l.toArray Q l a w) : (Code.region id l.toArray false).wpIn (Fence.wide.inRound m) n P Q a w :=
  wpIn_region_lit (wpList_round hQ l hnd a w h)
end Go.Proofs.YtfbdnhadcnmfoaaDoor
/- Plain: leaves by their indexes, put one behind the other; the root of leaves; the way to an index (layer 7). -/
namespace Go.Proofs.YtfbdnhadcnmfoaaDoor
abbrev Lf := List (BitVec 8) × List (BitVec 8)
def okLf (l : List Lf) : Prop := ∀ p ∈ l, p.1.length = 32 ∧ p.2.length = 32
/-- rising, each once -/
def Up (l : List Lf) : Prop := l.Pairwise fun p q => lessB p.1 q.1 = true
/-- 7.2 -/
def putL (l : List Lf) (x v : List (BitVec 8)) : List Lf := (l.takeWhile fun p => lessB p.1 x) ++ (x, v) :: (l.dropWhile fun p => lessB p.1 x).filter fun p => decide (p.1 ≠ x)
def ofL : List Lf → List Lf := fun z => z.foldl (fun l p => putL l p.1 p.2) []
def getL (l : List Lf) (x : List (BitVec 8)) : Option (List (BitVec 8)) := (l.find? fun p => decide (p.1 = x)).map (·.2)
def halfL (l : List Lf) (d : Nat) (on : Bool) : List Lf := l.filter fun p => bt p.1 d == on
theorem less_ne {x y : List (BitVec 8)} (h : lessB x y = true) : x ≠ y := by
  rintro rfl
  rw [lessB_self] at h
  cases h
theorem less_asym {x y : List (BitVec 8)} (h : lessB x y = true) : lessB y x = false := by
  cases h2 : lessB y x with
  | false => rfl
  | true =>
    have := lessB_trans x y x h h2
    rw [lessB_self] at this
    cases this
theorem less_total {x y : List (BitVec 8)} (hx : x.length = 32) (hy : y.length = 32) (h : x ≠ y) : lessB x y = true ∨ lessB y x = true := by
  rw [less_common x y hx hy h, less_common y x hy hx (Ne.symm h), common_comm y x]
  have hc := (common_spec x y).2.2 (common_lt x y hx hy h)
  cases h1 : bt y (common x y) with
  | true => exact Or.inl rfl
  | false =>
    cases h2 : bt x (common x y) with
    | true => exact Or.inr rfl
    | false => rw [h1, h2] at hc; exact absurd rfl hc
theorem mem_take_less {l : List Lf} {x : List (BitVec 8)} {p : Lf} (h : p ∈ l.takeWhile fun p => lessB p.1 x) : lessB p.1 x = true := by
  induction l with
  | nil => simp at h
  | cons a r ih =>
    rw [List.takeWhile_cons] at h
    split at h
    · rcases List.mem_cons.1 h with rfl | h
      · assumption
      · exact ih h
    · simp at h
theorem take_drop_while (l : List Lf) (f : Lf → Bool) : l.takeWhile f ++ l.dropWhile f = l := List.takeWhile_append_dropWhile
theorem drop_ge {l : List Lf} {x : List (BitVec 8)} (hu : Up l) {p : Lf} (h : p ∈ l.dropWhile fun p => lessB p.1 x) : lessB p.1 x = false := by
  induction l with
  | nil => simp at h
  | cons a r ih =>
    have hu' := List.pairwise_cons.1 hu
    rw [List.dropWhile_cons] at h
    split at h
    · exact ih hu'.2 h
    · rename_i hn
      rcases List.mem_cons.1 h with rfl | h
      · simpa using hn
      · cases hc : lessB p.1 x with
        | false => rfl
        | true => exact absurd (lessB_trans _ _ _ (hu'.1 p h) hc) hn
theorem mem_putL {l : List Lf} {x v : List (BitVec 8)} {p : Lf} : p ∈ putL l x v ↔ p = (x, v) ∨ (p.1 ≠ x ∧ p ∈ l) := by
  unfold putL
  rw [List.mem_append, List.mem_cons, List.mem_filter]
  constructor
  · rintro (h | h | ⟨h1, h2⟩)
    · exact Or.inr ⟨less_ne (mem_take_less h), by rw [← take_drop_while l (fun p => lessB p.1 x)]; exact List.mem_append_left _ h⟩
    · exact Or.inl h
    · exact Or.inr ⟨of_decide_eq_true h2, by rw [← take_drop_while l (fun p => lessB p.1 x)]; exact List.mem_append_right _ h1⟩
  · rintro (h | ⟨h1, h2⟩)
    · exact Or.inr (Or.inl h)
    · rw [← take_drop_while l (fun p => lessB p.1 x), List.mem_append] at h2
      rcases h2 with h2 | h2
      · exact Or.inl h2
      · exact Or.inr (Or.inr ⟨h2, decide_eq_true h1⟩)
theorem putL_ok {l : List Lf} {x v : List (BitVec 8)} (h : okLf l) (hx : x.length = 32) (hv : v.length = 32) : okLf (putL l x v) := by
  intro p hp
  rcases mem_putL.1 hp with rfl | ⟨_, hp⟩
  · exact ⟨hx, hv⟩
  · exact h p hp
theorem putL_up {l : List Lf} {x v : List (BitVec 8)} (h : okLf l) (hx : x.length = 32) (hu : Up l) : Up (putL l x v) := by
  have hs : List.Pairwise (fun p q : Lf => lessB p.1 q.1 = true) ((l.takeWhile fun p => lessB p.1 x) ++ (l.dropWhile fun p => lessB p.1 x)) := by rw [take_drop_while]; exact hu
  rw [List.pairwise_append] at hs
  unfold putL Up
  rw [List.pairwise_append]
  refine ⟨hs.1, ?_, ?_⟩
  · rw [List.pairwise_cons]
    refine ⟨fun p hp => ?_, hs.2.1.filter _⟩
    rw [List.mem_filter] at hp
    have hne := of_decide_eq_true hp.2
    have hl : p ∈ l := by rw [← take_drop_while l (fun p => lessB p.1 x)]; exact List.mem_append_right _ hp.1
    rcases less_total (h p hl).1 hx hne with h1 | h1
    · rw [drop_ge hu hp.1] at h1; cases h1
    · exact h1
  · intro p hp q hq
    have hpx := mem_take_less hp
    rcases List.mem_cons.1 hq with rfl | hq
    · exact hpx
    · exact hs.2.2 p hp q (List.mem_filter.1 hq).1
/-- rising leaves are told by what is among them -/
theorem up_ext : ∀ {l m : List Lf}, Up l → Up m → (∀ p, p ∈ l ↔ p ∈ m) → l = m
  | [], [], _, _, _ => rfl
  | [], b :: m, _, _, h => absurd ((h b).2 (List.mem_cons_self)) (by simp)
  | a :: l, [], _, _, h => absurd ((h a).1 (List.mem_cons_self)) (by simp)
  | a :: l, b :: m, hl, hm, h => by
    have hl' := List.pairwise_cons.1 hl
    have hm' := List.pairwise_cons.1 hm
    have hab : a = b := by
      rcases List.mem_cons.1 ((h a).1 List.mem_cons_self) with h1 | h1
      · exact h1
      · rcases List.mem_cons.1 ((h b).2 List.mem_cons_self) with h2 | h2
        · exact h2.symm
        · have h3 := hm'.1 a h1
          have h4 := hl'.1 b h2
          rw [less_asym h3] at h4
          cases h4
    subst hab
    have hnl : a ∉ l := fun hh => by have := hl'.1 a hh; rw [lessB_self] at this; cases this
    have hnm : a ∉ m := fun hh => by have := hm'.1 a hh; rw [lessB_self] at this; cases this
    rw [up_ext hl'.2 hm'.2 fun p => ?_]
    constructor
    · intro hp
      rcases List.mem_cons.1 ((h p).1 (List.mem_cons_of_mem _ hp)) with rfl | h1
      · exact absurd hp hnl
      · exact h1
    · intro hp
      rcases List.mem_cons.1 ((h p).2 (List.mem_cons_of_mem _ hp)) with rfl | h1
      · exact absurd hp hnm
      · exact h1
theorem up_inj {l : List Lf} (hu : Up l) {p q : Lf} (hp : p ∈ l) (hq : q ∈ l) (h : p.1 = q.1) : p = q := by
  induction l with
  | nil => cases hp
  | cons a r ih =>
    have hu' := List.pairwise_cons.1 hu
    rcases List.mem_cons.1 hp with hp1 | hp1
    · rcases List.mem_cons.1 hq with hq1 | hq1
      · rw [hp1, hq1]
      · rw [hp1] at h
        exact absurd h (less_ne (hu'.1 q hq1))
    · rcases List.mem_cons.1 hq with hq1 | hq1
      · rw [hq1] at h
        exact absurd h.symm (less_ne (hu'.1 p hp1))
      · exact ih hu'.2 hp1 hq1
theorem up_nil : Up [] := List.Pairwise.nil
theorem ok_nil : okLf [] := fun _ h => by cases h
theorem ofL_snoc (z : List Lf) (p : Lf) : ofL (z ++ [p]) = putL (ofL z) p.1 p.2 := by simp [ofL, List.foldl_append]
theorem ofL_good (z : List Lf) (h : okLf z) : okLf (ofL z) ∧ Up (ofL z) := by
  have key : ∀ (z l : List Lf), okLf z → okLf l → Up l → okLf (z.foldl (fun l p => putL l p.1 p.2) l) ∧ Up (z.foldl (fun l p => putL l p.1 p.2) l) := by
    intro z
    induction z with
    | nil => intro l _ h1 h2; exact ⟨h1, h2⟩
    | cons a r ih =>
      intro l hz h1 h2
      have ha := hz a List.mem_cons_self
      exact ih _ (fun p hp => hz p (List.mem_cons_of_mem _ hp)) (putL_ok h1 ha.1 ha.2) (putL_up h1 ha.1 h2)
  exact key z [] h ok_nil up_nil
theorem getL_mem {l : List Lf} (hu : Up l) {x v : List (BitVec 8)} : getL l x = some v ↔ (x, v) ∈ l := by
  unfold getL
  rw [Option.map_eq_some_iff]
  constructor
  · rintro ⟨p, hp, rfl⟩
    have h1 := List.mem_of_find?_eq_some hp
    have h2 := List.find?_some hp
    rw [← of_decide_eq_true h2]
    exact h1
  · intro h
    cases hf : l.find? fun p => decide (p.1 = x) with
    | none =>
      have := List.find?_eq_none.1 hf (x, v) h
      simp at this
    | some p =>
      refine ⟨p, rfl, ?_⟩
      have h1 := List.mem_of_find?_eq_some hf
      have h2 : p.1 = x := by simpa using List.find?_some hf
      exact congrArg Prod.snd (up_inj hu h1 h h2)
theorem getL_none {l : List Lf} {x : List (BitVec 8)} : getL l x = none ↔ ∀ v, (x, v) ∉ l := by
  unfold getL
  rw [Option.map_eq_none_iff, List.find?_eq_none]
  constructor
  · intro h v hv
    exact absurd (h _ hv) (by simp)
  · intro h p hp hc
    exact h p.2 (by rw [← of_decide_eq_true hc]; exact hp)
/-- put again -/
theorem putL_putL {l : List Lf} {x v u : List (BitVec 8)} (h : okLf l) (hx : x.length = 32) (hv : v.length = 32) (hu : Up l) : putL (putL l x v) x u = putL l x u := by
  refine up_ext (putL_up (putL_ok h hx hv) hx (putL_up h hx hu)) (putL_up h hx hu) fun p => ?_
  simp only [mem_putL]
  constructor
  · rintro (h1 | ⟨h1, h2 | h2⟩)
    · exact Or.inl h1
    · subst h2; exact absurd rfl h1
    · exact Or.inr h2
  · rintro (h1 | h1)
    · exact Or.inl h1
    · exact Or.inr ⟨h1.1, Or.inr h1⟩
theorem putL_same {l : List Lf} {x v : List (BitVec 8)} (h : okLf l) (hx : x.length = 32) (hu : Up l) (hm : (x, v) ∈ l) : putL l x v = l := by
  refine up_ext (putL_up h hx hu) hu fun p => ?_
  rw [mem_putL]
  constructor
  · rintro (rfl | ⟨_, h1⟩)
    · exact hm
    · exact h1
  · intro hp
    by_cases hc : p.1 = x
    · exact Or.inl (up_inj hu hp hm hc)
    · exact Or.inr ⟨hc, hp⟩
theorem mem_ofL {z : List Lf} (hz : ∀ p ∈ z, p.1 = p.2) {p : Lf} : p ∈ ofL z ↔ p ∈ z := by
  have key : ∀ (z l : List Lf), (∀ p ∈ z, p.1 = p.2) → (∀ p ∈ l, p.1 = p.2) → (p ∈ z.foldl (fun l p => putL l p.1 p.2) l ↔ p ∈ z ∨ p ∈ l) := by
    intro z
    induction z with
    | nil => intro l _ _; simp
    | cons a r ih =>
      intro l hz hl
      have ha := hz a List.mem_cons_self
      have hl2 : ∀ p ∈ putL l a.1 a.2, p.1 = p.2 := fun p hp => by
        rcases mem_putL.1 hp with rfl | ⟨_, h⟩
        · exact ha
        · exact hl p h
      rw [List.foldl_cons, ih _ (fun p hp => hz p (List.mem_cons_of_mem _ hp)) hl2, mem_putL, List.mem_cons]
      constructor
      · rintro (h | h | ⟨_, h⟩)
        · exact Or.inl (Or.inr h)
        · exact Or.inl (Or.inl h)
        · exact Or.inr h
      · rintro ((h | h) | h)
        · exact Or.inr (Or.inl h)
        · exact Or.inl h
        · by_cases hc : p.1 = a.1
          · refine Or.inr (Or.inl ?_)
            have h1 := hl p h
            exact Prod.ext hc (by rw [← h1, hc, ha])
          · exact Or.inr (Or.inr ⟨hc, h⟩)
  have := key z [] hz (fun p hp => by cases hp)
  simpa [ofL] using this
theorem ofL_perm {z y : List Lf} (hz : ∀ p ∈ z, p.1 = p.2) (oz : okLf z) (h : ∀ p, p ∈ y ↔ p ∈ z) : ofL y = ofL z := by
  have hy : ∀ p ∈ y, p.1 = p.2 := fun p hp => hz p ((h p).1 hp)
  have oy : okLf y := fun p hp => oz p ((h p).1 hp)
  exact up_ext (ofL_good y oy).2 (ofL_good z oz).2 fun p => by rw [mem_ofL hy, mem_ofL hz, h]
/-- the leaves have their first d bits in common, and are unlike -/
def Fits (l : List Lf) (d : Nat) : Prop := okLf l ∧ Up l ∧ ∀ p ∈ l, ∀ q ∈ l, ∀ j, j < d → bt p.1 j = bt q.1 j
theorem Fits.zero {l : List Lf} (h : okLf l) (hu : Up l) : Fits l 0 := ⟨h, hu, fun _ _ _ _ j hj => by omega⟩
theorem Fits.half {l : List Lf} {d : Nat} (h : Fits l d) (on : Bool) : Fits (halfL l d on) (d + 1) := by
  refine ⟨fun p hp => h.1 p (List.mem_filter.1 hp).1, h.2.1.filter _, fun p hp q hq j hj => ?_⟩
  have hp' := List.mem_filter.1 hp
  have hq' := List.mem_filter.1 hq
  by_cases hjd : j < d
  · exact h.2.2 p hp'.1 q hq'.1 j hjd
  · have : j = d := by omega
    subst this
    rw [eq_of_beq hp'.2, eq_of_beq hq'.2]
theorem Fits.lt {l : List Lf} {d : Nat} (h : Fits l d) (h2 : 2 ≤ l.length) : d < 256 := by
  match l, h2 with
  | a :: b :: r, _ =>
    rcases Nat.lt_or_ge d 256 with hd | hd
    · exact hd
    · exfalso
      have hab := (List.pairwise_cons.1 h.2.1).1 b List.mem_cons_self
      have ha := h.1 a List.mem_cons_self
      have hb := h.1 b (List.mem_cons_of_mem _ List.mem_cons_self)
      exact less_ne hab (bits_ext _ _ ha.1 hb.1 fun j hj => h.2.2 a List.mem_cons_self b (List.mem_cons_of_mem _ List.mem_cons_self) j (by omega))
theorem half_le (l : List Lf) (d : Nat) (on : Bool) : (halfL l d on).length ≤ l.length := List.length_filter_le _ _
end Go.Proofs.YtfbdnhadcnmfoaaDoor
/- Plain: the root of leaves, and the way to an index, by what is hashed (layer 7). -/
namespace Go.Proofs.YtfbdnhadcnmfoaaDoor
open Go.RowKit
set_option maxRecDepth 100000
/-- 7.1: the root of leaves below d bits; f: how many bits more there are -/
def rootF : Nat → Nat → List Lf → List (BitVec 8)
  | _, _, [] => dig [69]
  | _, _, [p] => dig (pairB 76 p.1 p.2)
  | 0, _, _ => []
  | f + 1, d, l => dig (pairB 78 (rootF f (d + 1) (halfL l d false)) (rootF f (d + 1) (halfL l d true)))
def rootL (l : List Lf) (d : Nat) : List (BitVec 8) := rootF (256 - d) d l
theorem rootL_nil (d : Nat) : rootL [] d = dig [69] := by unfold rootL rootF; rfl
theorem rootL_one (p : Lf) (d : Nat) : rootL [p] d = dig (pairB 76 p.1 p.2) := by unfold rootL; cases 256 - d <;> rfl
theorem rootF_two (f d : Nat) {l : List Lf} (h : 2 ≤ l.length) : rootF (f + 1) d l = dig (pairB 78 (rootF f (d + 1) (halfL l d false)) (rootF f (d + 1) (halfL l d true))) := by
  match l, h with
  | a :: b :: r, _ => rfl
theorem rootL_two {l : List Lf} {d : Nat} (h : Fits l d) (h2 : 2 ≤ l.length) : rootL l d = dig (pairB 78 (rootL (halfL l d false) (d + 1)) (rootL (halfL l d true) (d + 1))) := by
  have hd := h.lt h2
  unfold rootL
  rw [show 256 - d = (256 - (d + 1)) + 1 by omega, rootF_two _ _ h2]
theorem rootL_len {l : List Lf} {d : Nat} (h : Fits l d) : (rootL l d).length = 32 := by
  match l, h with
  | [], _ => rw [rootL_nil]; exact len_dig' _
  | [p], _ => rw [rootL_one]; exact len_dig' _
  | a :: b :: r, h => rw [rootL_two h (by simp)]; exact len_dig' _
/-- 7.4: the sides, and the leaf where the way ends -/
def wayF (x : List (BitVec 8)) : Nat → Nat → List Lf → List (List (BitVec 8)) × Option Lf
  | _, _, [] => ([], none)
  | _, _, [p] => ([], some p)
  | 0, _, _ => ([], none)
  | f + 1, d, l => (rootL (halfL l d (!bt x d)) (d + 1) :: (wayF x f (d + 1) (halfL l d (bt x d))).1, (wayF x f (d + 1) (halfL l d (bt x d))).2)
def wayL (l : List Lf) (x : List (BitVec 8)) (d : Nat) : List (List (BitVec 8)) × Option Lf := wayF x (256 - d) d l
theorem wayL_nil (x : List (BitVec 8)) (d : Nat) : wayL [] x d = ([], none) := by unfold wayL wayF; rfl
theorem wayL_one (p : Lf) (x : List (BitVec 8)) (d : Nat) : wayL [p] x d = ([], some p) := by unfold wayL; cases 256 - d <;> rfl
theorem wayF_two (x : List (BitVec 8)) (f d : Nat) {l : List Lf} (h : 2 ≤ l.length) : wayF x (f + 1) d l = (rootL (halfL l d (!bt x d)) (d + 1) :: (wayF x f (d + 1) (halfL l d (bt x d))).1, (wayF x f (d + 1) (halfL l d (bt x d))).2) := by
  match l, h with
  | a :: b :: r, _ => rfl
theorem wayL_two {l : List Lf} {x : List (BitVec 8)} {d : Nat} (h : Fits l d) (h2 : 2 ≤ l.length) : wayL l x d = (rootL (halfL l d (!bt x d)) (d + 1) :: (wayL (halfL l d (bt x d)) x (d + 1)).1, (wayL (halfL l d (bt x d)) x (d + 1)).2) := by
  have hd := h.lt h2
  unfold wayL
  rw [show 256 - d = (256 - (d + 1)) + 1 by omega, wayF_two _ _ _ h2]
theorem wayL_short {l : List Lf} (x : List (BitVec 8)) (d : Nat) (h : l.length ≤ 1) : wayL l x d = ([], l.head?) := by
  match l, h with
  | [], _ => exact wayL_nil x d
  | [p], _ => exact wayL_one p x d
end Go.Proofs.YtfbdnhadcnmfoaaDoor
/- Leaves in memory: two slices of digests in a struct; one more behind each; regions that draw their order. -/
namespace Go.Proofs.YtfbdnhadcnmfoaaDoor
open Go.RowKit
set_option maxRecDepth 100000
theorem wpAnyH_law {P : Program} {md : Region.Mode} {ops : Array Oper} {Q : Exit → Act → World → Prop} {S : World → Prop} {fuel : Nat} {listed : Array Bool} {a : Act} {w : World} (i : Nat) {oi : Oper}
    (hr : Region.ready md ops listed = [i]) (hi : ops[i]? = some oi) (hw : Region.wanted oi (yielded ops a.tmps) = true)
    (h : Oper.wp P oi a w (fun a' w' => S w' ∧ wpAnyH P md ops Q S fuel (listed.setIfInBounds i true) a' w') Q) : wpAnyH P md ops Q S (fuel + 1) listed a w := by
  refine wpAnyH_all hr (by simp) (fun j hj => ?_)
  obtain rfl : j = i := by simpa using hj
  unfold wpOp
  rw [hi]
  simp only [hw, if_true]
  exact Or.inl h
/-- a reading, and what makes memory, in either order -/
theorem wpAnyH_comm {P : Program} {md : Region.Mode} {ops : Array Oper} {Q : Exit → Act → World → Prop} {S : World → Prop} {fuel : Nat} {listed : Array Bool} {a : Act} {w : World} (i j : Nat) {oi oj : Oper} (v u : Value) (w' : World)
    (hr : Region.ready md ops listed = [i, j]) (hi : ops[i]? = some oi) (hj : ops[j]? = some oj)
    (wi : Region.wanted oi (yielded ops a.tmps) = true) (wj : Region.wanted oj (yielded ops a.tmps) = true) (wi2 : Region.wanted oi (yielded ops (a.put oj.dst u).tmps) = true) (wj2 : Region.wanted oj (yielded ops (a.put oi.dst v).tmps) = true)
    (ei : (execOp a.eval oi).run P w = .ok (.value v) w) (ej : (execOp a.eval oj).run P w = .ok (.value u) w') (ei2 : (execOp (a.put oj.dst u).eval oi).run P w' = .ok (.value v) w') (ej2 : (execOp (a.put oi.dst v).eval oj).run P w = .ok (.value u) w')
    (hr1 : Region.ready md ops (listed.setIfInBounds i true) = [j]) (hr2 : Region.ready md ops (listed.setIfInBounds j true) = [i])
    (hp : (a.put oj.dst u).put oi.dst v = (a.put oi.dst v).put oj.dst u) (hl : (listed.setIfInBounds j true).setIfInBounds i true = (listed.setIfInBounds i true).setIfInBounds j true)
    (hS : S w) (hS' : S w') (h : wpAnyH P md ops Q S fuel ((listed.setIfInBounds i true).setIfInBounds j true) ((a.put oi.dst v).put oj.dst u) w') : wpAnyH P md ops Q S (fuel + 2) listed a w := by
  refine wpAnyH_all hr (by simp) (fun k hk => ?_)
  rcases List.mem_cons.1 hk with rfl | hk
  · exact wpOp_vl k v w hi wi ei ⟨hS, wpAnyH_step j u w' hr1 hj wj2 ej2 hS' h⟩
  · obtain rfl : k = j := by simpa using hk
    refine wpOp_vl k u w' hj wj ej ⟨hS', wpAnyH_step i v w' hr2 hi wi2 ei2 hS' ?_⟩
    rw [hl, hp]
    exact h
theorem wp_appendG {o : Oper} {a : Act} {w : World} {K : Act → World → Prop} {Q : Exit → Act → World → Prop} (s x : Operand) (base : Nat) (v : Value) (ds : List (List (BitVec 8))) (d : List (BitVec 8)) (g : Nat)
    (hown : OwnD w base v ds) (hu : Blk w g (cb d) 23) (hd : d.length = 32) (hl : ds.length < 2000000) (hbase : base ≤ w.heap.size)
    (ho : o.op = .call { callee := .builtin .append, args := #[s, x], argTypes := #[47, 47] }) (hs : a.eval s = v) (hx : a.eval x = .slice (some ⟨g, 0, none⟩) 1 1)
    (h : ∀ v' w', OwnD w' base v' (ds ++ [d]) → Grow base w v w' v' → K (a.put o.dst v') w') : o.wp Tryd.prog a w K Q := by
  obtain ⟨i0, hi, hz0, hz1, hz2⟩ := info_parts Tryd.infod3
  obtain ⟨v', w', hr, h2, h3, h4, h5⟩ := run_append_own_at (P := Tryd.prog) w base 47 o.type 23 i0 (.agg (cb zb32).toArray) 32 32 Tryd.underlying47 hi hz0 hz1 hz2 (by show (cb zb32).toArray.size = 32; rw [List.size_toArray, cb_len]; rfl) (by decide) v ds.length (flatD ds) hown.1 ⟨g, 0, none⟩ 1 1 (cb d) (by rw [cb_len, hd]) (by intro j u hj; rw [Addr.add_mid, Nat.zero_add, hu.cell, hj]) (cb_one d) (by unfold maxLen; omega) (by omega) hbase
  unfold Oper.wp execOp
  simp only [ho, resolve, invoke, builtin, Sem.run_bind, Sem.run_pure, Result.andThen_ok, List.map_toArray, List.map_cons, List.map_nil, hs, hx, hr]
  refine h v' w' ⟨?_, ?_⟩ ⟨(Below.refl _ _).grown h3 hbase (fun k hk => (hown.lt k hk).1), fun k hk hlt => h3.block k hlt hk, h5⟩
  · rw [flatD_snoc, List.length_append]; exact h2
  · intro e he
    rcases List.mem_append.1 he with he | he
    · exact hown.2 e he
    · rw [List.mem_singleton] at he; subst he; exact hd
theorem OwnD.grow {w w' : World} {base B : Nat} {v x x' : Value} {ds : List (List (BitVec 8))} (h : OwnD w base v ds) (hg : Grow B w x w' x') (hn : ∀ j, v.ownBlock = some j → x.ownBlock ≠ some j) : OwnD w' base v ds := by
  refine ⟨?_, h.2⟩
  have hlt := World.ownsRow.lt h.1
  rcases h.1 with ⟨e1, ⟨e2, e3⟩ | ⟨g, cap, cur, e2, hgg, hh, h3⟩⟩
  · exact ⟨e1, Or.inl ⟨e2, e3⟩⟩
  · subst e2
    exact ⟨e1, Or.inr ⟨g, cap, cur, rfl, hgg, by rw [hg.other g (fun e => hn g rfl e.symm) (hlt g rfl).2]; exact hh, h3⟩⟩
theorem Blk.grow {w w' : World} {B g : Nat} {x x' : Value} {cs : List Value} {t : TypeId} (h : Blk w g cs t) (hg : Grow B w x w' x') (hn : ∀ j, x.ownBlock = some j → B ≤ j) (hlt : g < B) : Blk w' g cs t := by
  unfold Blk at *
  have hs : g < w.heap.size := Blk.lt (cs := cs) (t := t) h
  rw [hg.other g (fun e => by have := hn g e.symm; omega) hs]
  exact h
/-- leaves that are the call's own, from block b on -/
structure OwnLf (W : World) (b : Nat) (xa xv : Value) (la lv : List (List (BitVec 8))) : Prop where
  a : OwnD W b xa la
  v : OwnD W b xv lv
  ne : ∀ j, xa.ownBlock = some j → xv.ownBlock ≠ some j
theorem OwnLf.keep {W W' : World} {b : Nat} {xa xv : Value} {la lv : List (List (BitVec 8))} (h : OwnLf W b xa xv la lv) (hs : ∀ k, b ≤ k → k < W.heap.size → W'.heap[k]? = W.heap[k]?) : OwnLf W' b xa xv la lv := ⟨h.a.keep hs, h.v.keep hs, h.ne⟩
theorem OwnLf.mono {W : World} {b B : Nat} {xa xv : Value} {la lv : List (List (BitVec 8))} (h : OwnLf W b xa xv la lv) (hB : B ≤ b) : OwnLf W B xa xv la lv := ⟨h.a.mono hB, h.v.mono hB, h.ne⟩
theorem OwnLf.nil (W : World) (b : Nat) : OwnLf W b nilV nilV [] [] := ⟨OwnD.nil _ _, OwnD.nil _ _, fun j hj => by cases hj⟩
/-- leaves that a call reads -/
def ReadsLf (W : World) (va vv : Value) (l : List Lf) : Prop := ReadsD W va (l.map (·.1)) ∧ ReadsD W vv (l.map (·.2))
theorem ReadsLf.below {W W' : World} {va vv : Value} {l : List Lf} (h : ReadsLf W va vv l) (hb : Below W.heap.size W W') : ReadsLf W' va vv l := ⟨h.1.below hb, h.2.below hb⟩
theorem ReadsLf.ok {W : World} {va vv : Value} {l : List Lf} (h : ReadsLf W va vv l) : okLf l := fun _ hp => ⟨h.1.2 _ (List.mem_map_of_mem hp), h.2.2 _ (List.mem_map_of_mem hp)⟩
theorem OwnLf.reads {W : World} {b : Nat} {xa xv : Value} {l : List Lf} (h : OwnLf W b xa xv (l.map (·.1)) (l.map (·.2))) : ReadsLf W xa xv l := ⟨h.a.readsD, h.v.readsD⟩
/-- where one of a slice of digests lies -/
theorem ReadsD.at {W : World} {v : Value} {ds : List (List (BitVec 8))} (h : ReadsD W v ds) (hp : 0 < ds.length) : ∃ b off cp, v = .slice (some ⟨b, off, none⟩) ds.length cp ∧ ∀ j, j < ds.length → W.rangeAt b (off + j * 32) (cb (ds.getD j [])) := by
  obtain ⟨⟨ad, cp, hv, q1, q2, q3⟩, q4⟩ := h
  obtain ⟨b, off, rfl, hy⟩ := q3 hp
  exact ⟨b, off, cp, hv, hy⟩
theorem ReadsD.slice {W : World} {v : Value} {ds : List (List (BitVec 8))} (h : ReadsD W v ds) : ∃ ad cp, v = .slice ad ds.length cp := by
  obtain ⟨⟨ad, cp, hv, _⟩, _⟩ := h
  exact ⟨ad, cp, hv⟩
end Go.Proofs.YtfbdnhadcnmfoaaDoor
/- The walk of the reference's half. -/
namespace Go.Proofs.YtfbdnhadcnmfoaaDoor
open Go.RowKit
set_option maxRecDepth 100000
theorem wpAnyH_skip {P : Program} {md : Region.Mode} {ops : Array Oper} {Q : Exit → Act → World → Prop} {S : World → Prop} {fuel : Nat} {listed : Array Bool} {a : Act} {w : World} (i : Nat) {oi : Oper} (w' : World)
    (hr : Region.ready md ops listed = [i]) (hi : ops[i]? = some oi) (hw : Region.wanted oi (yielded ops a.tmps) = true) (he : (execOp a.eval oi).run P w = .ok .skip w') (hS : S w')
    (h : wpAnyH P md ops Q S fuel (listed.setIfInBounds i true) (a.put oi.dst undef) w') : wpAnyH P md ops Q S (fuel + 1) listed a w := by
  refine wpAnyH_law i hr hi hw ?_
  unfold Oper.wp
  rw [he]
  exact ⟨hS, h⟩
theorem take_map {l : List Lf} {k : Nat} (hk : k < l.length) : l.take (k + 1) = l.take k ++ [(l.getD k ([], []))] := by
  rw [List.take_add_one, List.getElem?_eq_getElem hk, List.getD_eq_getElem?_getD, List.getElem?_eq_getElem hk]
  rfl
theorem map_getD1 {l : List Lf} {k : Nat} (hk : k < l.length) : (l.map (·.1)).getD k [] = (l.getD k ([], [])).1 := by
  simp [List.getD_eq_getElem?_getD, List.getElem?_map, List.getElem?_eq_getElem hk]
theorem map_getD2 {l : List Lf} {k : Nat} (hk : k < l.length) : (l.map (·.2)).getD k [] = (l.getD k ([], [])).2 := by
  simp [List.getD_eq_getElem?_getD, List.getElem?_map, List.getElem?_eq_getElem hk]
theorem getD_mem {l : List Lf} {k : Nat} (hk : k < l.length) : l.getD k ([], []) ∈ l := by
  rw [List.getD_eq_getElem?_getD, List.getElem?_eq_getElem hk]
  exact List.getElem_mem hk
end Go.Proofs.YtfbdnhadcnmfoaaDoor
/- A slice of bytes that grows in a box while a loop over a function goes on (layer 10). -/
namespace Go.Proofs.YtfbdnhadcnmfoaaDoor
open Go.RowKit Go.Shelf
set_option maxRecDepth 100000
theorem OwnB.kept {X Y : World} {base : Nat} {v : Value} {l : List (BitVec 8)} {row : Option Nat} (h : OwnB X base v l) (hg : X.grownBy Y row) (hr : ∀ r, row = some r → ∃ o : Obj, X.heap[r]? = some o ∧ o.isCells = false) : OwnB Y base v l := by
  obtain ⟨h1, h2⟩ := h
  refine ⟨h1, ?_⟩
  rcases h2 with h2 | ⟨g, cap, cur, rfl, hb, hh, r⟩
  · exact Or.inl h2
  · refine Or.inr ⟨g, cap, cur, rfl, hb, ?_, r⟩
    rw [hg.block g (Array.getElem?_eq_some_iff.1 hh).1 (fun e => ?_)]
    · exact hh
    · obtain ⟨o, ho, hc⟩ := hr g e.symm
      rw [hh] at ho; cases ho; cases hc
/-- the box gO holds a slice of bytes of one's own, from block base on, with the bytes l -/
def OutI (base gO : Nat) (l : List (BitVec 8)) (W : World) : Prop := ∃ v, Blk W gO [v] 29 ∧ OwnB W base v l
theorem OutI.own {β : Type} (base gO : Nat) (f : β → List (BitVec 8)) : Own (fun (s : β) W => OutI base gO (f s) W) := fun s X Y row hs hg hr => by
  obtain ⟨v, h1, h2⟩ := hs
  exact ⟨v, blk_own (β := Unit) gO (fun _ => [v]) _ () X Y row h1 hg hr, h2.kept hg hr⟩
theorem OutI.next {base gO : Nat} {l : List (BitVec 8)} {W W' : World} (h : OutI base gO l W) (hb : Below W.heap.size W W') : OutI base gO l W' := by
  obtain ⟨v, h1, h2⟩ := h
  exact ⟨v, h1.below hb h1.lt, h2.below hb (Nat.le_refl _)⟩
/-- more bytes: the slice's own block alone has changed, then the box -/
theorem OutI.put {base gO : Nat} {l news : List (BitVec 8)} {W W1 : World} {v v' : Value} (h1 : Blk W gO [v] 29) (h2 : OwnB W base v l) (h3 : OwnB W1 base v' (l ++ news)) (hg : W.grownBy W1 v.ownBlock) : OutI base gO (l ++ news) (W1.setCell ⟨gO, 0, none⟩ v') ∧ Only gO W1 (W1.setCell ⟨gO, 0, none⟩ v') ∧ Blk W1 gO [v] 29 := by
  have hb : Blk W1 gO [v] 29 := h1.grown hg (h2.ne h1 (by decide))
  have ho : Only gO W1 (W1.setCell ⟨gO, 0, none⟩ v') := Only.setCell (Only.refl gO W1) 0 v'
  refine ⟨⟨v', by simpa using hb.set 0 v', ?_⟩, ho, hb⟩
  have hne := h3.ne hb (by decide)
  obtain ⟨e1, e2⟩ := h3
  refine ⟨e1, ?_⟩
  rcases e2 with e2 | ⟨g, cap, cur, rfl, hg2, hh, r⟩
  · exact Or.inl e2
  · refine Or.inr ⟨g, cap, cur, rfl, hg2, ?_, r⟩
    rw [ho.block g (fun e => hne (by rw [e]; rfl)) (Array.getElem?_eq_some_iff.1 hh).1]
    exact hh
/-- bytes behind the own slice v, in a region that draws -/
theorem wp_appendY {o : Oper} {a : Act} {w : World} {K : Act → World → Prop} {Q : Exit → Act → World → Prop} (s x : Operand) (base : Nat) (v vx : Value) (l news : List (BitVec 8))
    (hown : OwnB w base v l) (hr : Reads w vx news) (hpos : 0 < news.length) (hlen : l.length + news.length ≤ 140737488355328) (hbase : base ≤ w.heap.size)
    (ho : o.op = .call { callee := .builtin .append, args := #[s, x], argTypes := #[29, 29] }) (hs : a.eval s = v) (hx : a.eval x = vx)
    (h : ∀ v' w', OwnB w' base v' (l ++ news) → w.grownBy w' v.ownBlock → Below base w w' → K (a.put o.dst v') w') : o.wp Tryd.prog a w K Q := by
  obtain ⟨i0, hi, hz0, hz1, hz2⟩ := info_parts Tryd.infob
  obtain ⟨ad, cap, rfl, hcap, hnn, hps⟩ := hr
  cases ad with
  | none => obtain ⟨b, off, h1, _⟩ := hps hpos; cases h1
  | some ad =>
    obtain ⟨v', w', hr, h2, h3, h4, h5⟩ := run_append_own_at (P := Tryd.prog) w base 29 o.type 5 i0 (.int .u8 0) 1 1 Tryd.underlying29 hi hz0 hz1 hz2 rfl (by decide) v l.length (cb l) hown ad news.length cap (cb news) (by rw [cb_len]; omega) (by
      intro j u hj
      have hjl : j < news.length := by have := (List.getElem?_eq_some_iff.1 hj).1; rwa [cb_len] at this
      obtain ⟨b, off, h1, h2⟩ := hps (by omega)
      cases h1
      rw [Addr.add_mid, h2 j hjl, ← hj, cb_get news j hjl]) (cb_one _) (by unfold maxLen; omega) (by omega) hbase
    unfold Oper.wp execOp
    simp only [ho, resolve, invoke, builtin, Sem.run_bind, Sem.run_pure, Result.andThen_ok, List.map_toArray, List.map_cons, List.map_nil, hs, hx, hr]
    refine h v' w' ?_ h3 ((Below.refl _ _).grown h3 hbase (fun k hk => hown.own k hk))
    have e : cb l ++ cb news = cb (l ++ news) := by simp [cb]
    rw [e] at h2
    unfold OwnB; rw [List.length_append]; exact h2
theorem keeps_append {w w' : World} {base : Nat} {v : Value} {l : List (BitVec 8)} (hown : OwnB w base v l) (hg : w.grownBy w' v.ownBlock) : KeepsOthers w w' := by
  refine KeepsOthers.of_grownBy hg (fun j o hj ho => ?_)
  obtain ⟨_, h2⟩ := hown
  rcases h2 with ⟨rfl, _⟩ | ⟨g2, cap, cur, rfl, hg2, hh, _⟩
  · simp [Value.ownBlock] at hj
  · simp only [Value.ownBlock, Option.some.injEq] at hj
    subst hj
    rw [hh] at ho
    cases ho
    rfl
/-- where a round stands: out's bytes l in the box gO, the digest x at gx -/
structure RoI (w : World) (gO : Nat) (l : List (BitVec 8)) (W y : World) : Prop where
  out : OutI w.heap.size gO l y
  bel : Below w.heap.size w y
  kp : KeepsOthers W y
theorem RoI.next {w W y y' : World} {gO : Nat} {l : List (BitVec 8)} (h : RoI w gO l W y) (hb : Below y.heap.size y y') : RoI w gO l W y' := ⟨h.out.next hb, h.bel.trans (hb.mono h.bel.size), h.kp.trans (keepsOthers_of_below hb)⟩
theorem RoI.put {w W y y1 : World} {gO : Nat} {l news : List (BitVec 8)} {v v' : Value} (h : RoI w gO l W y) (hgO : w.heap.size ≤ gO) (h1 : Blk y gO [v] 29) (h2 : OwnB y w.heap.size v l) (h3 : OwnB y1 w.heap.size v' (l ++ news)) (hg : y.grownBy y1 v.ownBlock) (hb : Below w.heap.size y y1) : RoI w gO (l ++ news) W (y1.setCell ⟨gO, 0, none⟩ v') := by
  obtain ⟨a, b, c⟩ := OutI.put h1 h2 h3 hg
  exact ⟨a, (h.bel.trans hb).trans (b.below hgO (Nat.le_trans h.bel.size hb.size)), (h.kp.trans (keeps_append h2 hg)).trans (KeepsOthers.setCell _ _ _)⟩
theorem Blk.past {y y1 : World} {gO g base : Nat} {v v' : Value} {l : List (BitVec 8)} {cs : List Value} {t : TypeId} (hb : Blk y g cs t) (h1 : Blk y gO [v] 29) (h2 : OwnB y base v l) (hg : y.grownBy y1 v.ownBlock) (ht : t ≠ 29) (ht2 : t ≠ 5) : Blk (y1.setCell ⟨gO, 0, none⟩ v') g cs t := by
  have hne : g ≠ gO := by
    rintro rfl
    unfold Blk at hb h1
    rw [hb] at h1
    simp only [Option.some.injEq, Obj.cells.injEq] at h1
    exact ht h1.2.1
  exact (hb.grown hg (h2.ne hb ht2)).only (Only.setCell (Only.refl gO y1) 0 v') hne
theorem RoI.drew {w W y : World} {gO : Nat} {l : List (BitVec 8)} (h : RoI w gO l W y) : RoI w gO l W y.drew := ⟨h.out, h.bel.drew, h.kp.trans (KeepsOthers.drew _)⟩
theorem OwnB.form {w : World} {base : Nat} {v : Value} {l : List (BitVec 8)} (h : OwnB w base v l) : ∃ a c, v = .slice a l.length c := by
  obtain ⟨_, h2⟩ := h
  rcases h2 with ⟨rfl, h0⟩ | ⟨g, cap, cur, rfl, _⟩
  · exact ⟨_, _, by rw [h0]⟩
  · exact ⟨_, _, rfl⟩
end Go.Proofs.YtfbdnhadcnmfoaaDoor
/- path.Bits' function once more: it yields the places below 256, in order, each with its bit. -/
namespace Go.Proofs.YtfbdnhadcnmfoaaDoor
open Go.RowKit Go.Shelf
set_option maxRecDepth 100000
attribute [local go_sem] Oper.semAt_some
abbrev encsT (x : List (BitVec 8)) (p : {k : Nat // k < 256}) : Array Value := #[.int .i64 (p.1 : Int), .bool (bt x p.1)]
/-- the first k places -/
def pathT : Nat → List {k : Nat // k < 256}
  | 0 => []
  | k + 1 => if h : k < 256 then pathT k ++ [⟨k, h⟩] else pathT k
theorem pathT_succ (k : Nat) (h : k < 256) : pathT (k + 1) = pathT k ++ [⟨k, h⟩] := by rw [pathT, dif_pos h]
theorem pathT_len (k : Nat) (h : k ≤ 256) : (pathT k).length = k := by
  induction k with
  | zero => rfl
  | succ k ih => rw [pathT_succ k (by omega), List.length_append, ih (by omega)]; rfl
set_option maxRecDepth 100000 in
set_option maxHeartbeats 2000000 in
theorem bits_told (n : Nat) (hn : 1 ≤ n) (g : Nat) (x : List (BitVec 8)) (hx : x.length = 32) (w : World) (hb : Blk w g (cb x) 23) :
    SeqStopsK Fence.wide n Tryd.prog 52 #[.pointer (some ⟨g, 0, none⟩)] (encsT x) (fun _ _ => True) (fun xs => xs = pathT 256) (fun pre => ∃ k, k ≤ 256 ∧ pre = pathT k) 256 w := fun l J Jx W hW hJ hJx hY h0 => by
  refine callsIn_of_wp Tryd.func52 rfl trivial ?_ rfl
  simp only [Tryd.ntmps52, List.size_toArray, List.length_cons, List.length_nil, Nat.reduceAdd, Nat.reduceSub, Array.replicate_succ, Array.replicate_zero, List.push_toArray, List.append_toArray, List.nil_append, List.cons_append]
  refine (wpIn_wide (n := n)).2 (wp_scope_straight ?_)
  have HW : Hid (Blk W g (cb x) 23) := hb.below hW hb.lt
  have HL : Hid (x.length = 32) := hx
  have HJ : Hid (AbidesFrom W.heap.size J) := hJ
  have HJX : Hid (AbidesFrom W.heap.size Jx) := hJx
  clear hb hx hJ hJx hW
  refine wp_seq (wp_label ?_)
  show Code.wp _ _ _ _ _
  go_wp2_with (first
    | (with_reducible refine wpSeq_loadD (.tmp 1) g x ?_ ?_ ?_ ?_ ?_ ?_
       · exact HL.out
       · exact HW.out
       · rfl
       · rfl
       · rfl))
  go_loopw [7] (fun p wr => ∃ k : Nat, k ≤ 32 ∧ p = .int .i64 (k : Int) ∧ J (pathT (8 * k)) wr) (fun p _ => 32 - (intOf p).toNat)
  case atStart => exact ⟨0, by omega, rfl, h0⟩
  case round =>
    obtain ⟨k, hk, rfl, hJk⟩ := hrel
    have HJK : Hid (J (pathT (8 * k)) wr) := hJk
    clear hJk
    by_cases hlt : k < 32
    · have HKX : Hid (k < x.length) := by show _ < _; rw [HL.out]; exact hlt
      obtain ⟨b, hbb⟩ : ∃ b, b = x.getD k 0 := ⟨_, rfl⟩
      have hix : ∀ wz, (Instr.index 23 (.agg (cb x).toArray) (.int .i64 (k : Int))).run Tryd.prog wz = .ok (.int .u8 (b.toNat : Int)) wz := fun wz => by rw [hbb]; exact idx_dig x HL.out k hlt wz
      have HBB : Hid (b = x.getD k 0) := hbb
      clear hbb
      have k0 : (0 : Int) ≤ (k : Int) := by omega
      have k1 : (k : Int) < 32 := by omega
      go_wp2
      go_loopw [11] (fun p wr => ∃ j : Nat, j ≤ 8 ∧ p = .int .i64 (j : Int) ∧ J (pathT (8 * k + j)) wr) (fun p _ => 8 - (intOf p).toNat)
      case atStart => exact ⟨0, by omega, rfl, HJK.out⟩
      case round =>
        rename_i wr2 _ _ _ _ _ _ _ _ _ _ _ _ _ _ _ _ _
        obtain ⟨j, hj, rfl, hJj⟩ := hrel
        clear HJK
        by_cases hlt2 : j < 8
        · obtain ⟨q, hq⟩ : ∃ q, q = 8 * k + j := ⟨_, rfl⟩
          obtain ⟨k8, hk8⟩ : ∃ k8, k8 = k * 8 := ⟨_, rfl⟩
          obtain ⟨o, ho⟩ : ∃ o, o = bt x q := ⟨_, rfl⟩
          have f1 : (k : Int) * 8 = (k8 : Int) := by omega
          have f2 : IntKind.i64.wrap (k8 : Int) = (k8 : Int) := wrap_small _ (by omega) (by omega)
          have f3 : (k8 : Int) + (j : Int) = (q : Int) := by omega
          have f4 : IntKind.i64.wrap (q : Int) = (q : Int) := wrap_small _ (by omega) (by omega)
          have j1 : (j : Int) < 8 := by omega
          have f5 : IntKind.i64.wrap ((j : Int) + 1) = (j : Int) + 1 := wrap_small _ (by omega) (by omega)
          have hand := u8_and b (mask j)
          have hz : ((((b.toNat &&& (mask j).toNat : Nat) : Int)) != 0) = o := by
            have h := mask_and b ⟨j, hlt2⟩
            have hm : mask j = 128#8 >>> j := by rw [mask, Nat.mod_eq_of_lt hlt2]
            simp only [← hm] at h
            have e : o = b.getMsbD j := by rw [ho, HBB.out, bt, hq, show (8 * k + j) / 8 = k by omega, show (8 * k + j) % 8 = j by omega]
            rw [e, ← BitVec.toNat_and]
            cases hg : b.getMsbD j
            · rw [hg] at h
              have h2 := of_decide_eq_true (h.trans rfl)
              rw [h2]; rfl
            · rw [hg] at h
              have h2 := of_decide_eq_false (h.trans rfl)
              rw [bne_iff_ne]
              intro h3
              exact h2 (BitVec.eq_of_toNat_eq (by simpa using h3))
          have hq6 : q < 256 := by omega
          have HNX : Hid (pathT (8 * k + (j + 1)) = pathT (8 * k + j) ++ [⟨q, hq6⟩]) := by
            show _ = _
            subst hq
            rw [← Nat.add_assoc]
            exact pathT_succ _ hq6
          obtain ⟨fn, tmps, assign, body, hy, hR⟩ := hY (pathT (8 * k + j)) ⟨q, hq6⟩ _ hJj (by rw [pathT_len _ (by omega)]; omega)
          dsimp only [encsT] at hy
          rw [← ho] at hy
          clear hq hk8 ho hlt2 hj
          refine (wpIn_wide (n := n)).1 ?_
          gi_wp2_with (refine ⟨trivial, ?_⟩; gi_at_call 53; refine (callsIn_wide.2 (bitOf_any _ _)).mono ?_; rintro e wz ⟨rfl, hz2⟩; rw [hz2]; clear hz2 wz)
          refine hR.mono ?_
          clear hR hy hY hJj
          rintro e W3 (⟨rfl, hJ3, _⟩ | ⟨rfl, hJx3⟩)
          · rw [← HNX.out] at hJ3
            gi_wp2
            go_roundw
            case rel => exact ⟨j + 1, by omega, by simp, hJ3⟩
            case measure => simp [intOf]; omega
          · rw [← HNX.out] at hJx3
            gi_wp2
            refine noGoto_normal ?_
            go_end0
            exact ⟨⟨_, rfl⟩, .inr ⟨_, ⟨8 * k + (j + 1), by omega, rfl⟩, hJx3⟩⟩
        · have hj8 : j = 8 := by omega
          subst hj8
          have HJ8 : Hid (J (pathT (8 * (k + 1))) wr) := by rw [Nat.mul_add]; exact hJj
          have f5 : IntKind.i64.wrap ((k : Int) + 1) = (k : Int) + 1 := wrap_small _ (by omega) (by omega)
          clear hJj hj hlt2
          go_wp2
          go_roundw
          case rel => exact ⟨k + 1, by omega, by simp, HJ8.out⟩
          case measure => simp [intOf]; omega
    · have hk32 : k = 32 := by omega
      subst hk32
      go_wp2
      refine noGoto_normal ?_
      go_end0
      exact ⟨⟨_, rfl⟩, .inl ⟨_, rfl, HJK.out⟩⟩
end Go.Proofs.YtfbdnhadcnmfoaaDoor
/- A reading beside one call, and beside two calls in a row, in a region that draws: all orders at once. -/
namespace Go.Proofs.YtfbdnhadcnmfoaaDoor
open Go.RowKit
set_option maxRecDepth 100000
/-- a reading beside a call -/
theorem wpAnyH_readC {P : Program} {md : Region.Mode} {ops : Array Oper} {Q : Exit → Act → World → Prop} {S : World → Prop} {fuel : Nat} {listed : Array Bool} {a : Act} {w : World} (i j : Nat) {oi oj : Oper} (v : Value) {f : FuncId} {args : Array Value} {R : Ending → World → Prop}
    (hr : Region.ready md ops listed = [i, j]) (hi : ops[i]? = some oi) (hj : ops[j]? = some oj)
    (wi : Region.wanted oi (yielded ops a.tmps) = true) (wj : Region.wanted oj (yielded ops a.tmps) = true) (wi2 : ∀ u, Region.wanted oi (yielded ops (a.put oj.dst u).tmps) = true) (wj2 : Region.wanted oj (yielded ops (a.put oi.dst v).tmps) = true)
    (ei : (execOp a.eval oi).run P w = .ok (.value v) w) (ej : (execOp a.eval oj).run P w = .ok (.enter f args) w) (ej2 : (execOp (a.put oi.dst v).eval oj).run P w = .ok (.enter f args) w) (hc : Calls P f args w R)
    (hr1 : Region.ready md ops (listed.setIfInBounds i true) = [j]) (hr2 : Region.ready md ops (listed.setIfInBounds j true) = [i])
    (hp : ∀ u, (a.put oj.dst u).put oi.dst v = (a.put oi.dst v).put oj.dst u) (hl : (listed.setIfInBounds j true).setIfInBounds i true = (listed.setIfInBounds i true).setIfInBounds j true)
    (hS : S w) (h : ∀ e w', R e w' → ∃ u, e = .returned u ∧ S w' ∧ (execOp (a.put oj.dst u).eval oi).run P w' = .ok (.value v) w' ∧ wpAnyH P md ops Q S fuel ((listed.setIfInBounds i true).setIfInBounds j true) ((a.put oi.dst v).put oj.dst u) w') : wpAnyH P md ops Q S (fuel + 2) listed a w := by
  refine wpAnyH_all hr (by simp) (fun k hk => ?_)
  rcases List.mem_cons.1 hk with rfl | hk
  · refine wpOp_vl k v w hi wi ei ⟨hS, wpAnyH_enter j hr1 hj wj2 ej2 hc fun e w' hR => ?_⟩
    obtain ⟨u, h1, h2, _, h4⟩ := h e w' hR
    exact ⟨u, h1, h2, h4⟩
  · obtain rfl : k = j := by simpa using hk
    unfold wpOp
    rw [hj]
    simp only [wj, if_true]
    left
    unfold Oper.wp
    rw [ej, Oper.upon_enter]
    refine hc.mono ?_
    intro e w' hR
    obtain ⟨u, rfl, h2, h3, h4⟩ := h e w' hR
    refine ⟨h2, wpAnyH_step i v w' hr2 hi (wi2 u) h3 h2 ?_⟩
    rw [hl, hp]
    exact h4
/-- a reading beside two calls of which the second waits for the first -/
theorem wpAnyH_readC2 {P : Program} {md : Region.Mode} {ops : Array Oper} {Q : Exit → Act → World → Prop} {S : World → Prop} {fuel : Nat} {listed : Array Bool} {a : Act} {w : World} (i j k : Nat) {oi oj ok : Oper} (v : Value) {f : FuncId} {args : Array Value} {R : Ending → World → Prop}
    (hr : Region.ready md ops listed = [i, j]) (hi : ops[i]? = some oi) (hj : ops[j]? = some oj) (hk : ops[k]? = some ok)
    (wi : Region.wanted oi (yielded ops a.tmps) = true) (wj : Region.wanted oj (yielded ops a.tmps) = true) (wi2 : ∀ u, Region.wanted oi (yielded ops (a.put oj.dst u).tmps) = true) (wi3 : ∀ u u2, Region.wanted oi (yielded ops ((a.put oj.dst u).put ok.dst u2).tmps) = true) (wj2 : Region.wanted oj (yielded ops (a.put oi.dst v).tmps) = true)
    (wk : ∀ u, Region.wanted ok (yielded ops (a.put oj.dst u).tmps) = true) (wk2 : ∀ u, Region.wanted ok (yielded ops ((a.put oi.dst v).put oj.dst u).tmps) = true)
    (ei : (execOp a.eval oi).run P w = .ok (.value v) w) (ej : (execOp a.eval oj).run P w = .ok (.enter f args) w) (ej2 : (execOp (a.put oi.dst v).eval oj).run P w = .ok (.enter f args) w) (hc : Calls P f args w R)
    (hr1 : Region.ready md ops (listed.setIfInBounds i true) = [j]) (hr2 : Region.ready md ops (listed.setIfInBounds j true) = [i, k]) (hr12 : Region.ready md ops ((listed.setIfInBounds i true).setIfInBounds j true) = [k]) (hr3 : Region.ready md ops ((listed.setIfInBounds j true).setIfInBounds k true) = [i])
    (hp : ∀ u, (a.put oj.dst u).put oi.dst v = (a.put oi.dst v).put oj.dst u) (hp3 : ∀ u u2, ((a.put oj.dst u).put ok.dst u2).put oi.dst v = ((a.put oi.dst v).put oj.dst u).put ok.dst u2)
    (hl : (listed.setIfInBounds j true).setIfInBounds i true = (listed.setIfInBounds i true).setIfInBounds j true) (hl3 : ((listed.setIfInBounds j true).setIfInBounds k true).setIfInBounds i true = ((listed.setIfInBounds i true).setIfInBounds j true).setIfInBounds k true)
    (hS : S w) (h : ∀ e w', R e w' → ∃ u, e = .returned u ∧ S w' ∧ (execOp (a.put oj.dst u).eval oi).run P w' = .ok (.value v) w' ∧ ∃ f2 args2 R2, (execOp (a.put oj.dst u).eval ok).run P w' = .ok (.enter f2 args2) w' ∧ (execOp ((a.put oi.dst v).put oj.dst u).eval ok).run P w' = .ok (.enter f2 args2) w' ∧ Calls P f2 args2 w' R2 ∧
      ∀ e2 w2, R2 e2 w2 → ∃ u2, e2 = .returned u2 ∧ S w2 ∧ (execOp ((a.put oj.dst u).put ok.dst u2).eval oi).run P w2 = .ok (.value v) w2 ∧ wpAnyH P md ops Q S fuel (((listed.setIfInBounds i true).setIfInBounds j true).setIfInBounds k true) (((a.put oi.dst v).put oj.dst u).put ok.dst u2) w2) : wpAnyH P md ops Q S (fuel + 3) listed a w := by
  have tail : ∀ e w' u, R e w' → e = .returned u → S w' ∧ wpAnyH P md ops Q S (fuel + 1) ((listed.setIfInBounds i true).setIfInBounds j true) ((a.put oi.dst v).put oj.dst u) w' := by
    intro e w' u hR he
    obtain ⟨u', h1, h2, _, f2, args2, R2, _, h5, h6, h7⟩ := h e w' hR
    rw [he] at h1
    obtain rfl : u = u' := by injection h1
    refine ⟨h2, wpAnyH_enter k hr12 hk (wk2 u) h5 h6 fun e2 w2 h8 => ?_⟩
    obtain ⟨u2, a1, a2, _, a4⟩ := h7 e2 w2 h8
    exact ⟨u2, a1, a2, a4⟩
  refine wpAnyH_all hr (by simp) (fun q hq => ?_)
  rcases List.mem_cons.1 hq with rfl | hq
  · refine wpOp_vl q v w hi wi ei ⟨hS, wpAnyH_enter j hr1 hj wj2 ej2 hc fun e w' hR => ?_⟩
    obtain ⟨u, h1, _⟩ := h e w' hR
    exact ⟨u, h1, tail e w' u hR h1⟩
  · obtain rfl : q = j := by simpa using hq
    unfold wpOp
    rw [hj]
    simp only [wj, if_true]
    left
    unfold Oper.wp
    rw [ej, Oper.upon_enter]
    refine hc.mono ?_
    intro e w' hR
    obtain ⟨u, h1, h2, h3, f2, args2, R2, h4, h5, h6, h7⟩ := h e w' hR
    have ht := tail e w' u hR h1
    subst h1
    refine ⟨h2, ?_⟩
    refine wpAnyH_all hr2 (by simp) (fun r hr' => ?_)
    rcases List.mem_cons.1 hr' with rfl | hr'
    · refine wpOp_vl r v w' hi (wi2 u) h3 ⟨h2, ?_⟩
      rw [hl, hp]
      exact ht.2
    · obtain rfl : r = k := by simpa using hr'
      unfold wpOp
      rw [hk]
      simp only [wk u, if_true]
      left
      unfold Oper.wp
      rw [h4, Oper.upon_enter]
      refine h6.mono ?_
      intro e2 w2 h8
      obtain ⟨u2, rfl, a2, a3, a4⟩ := h7 e2 w2 h8
      refine ⟨a2, wpAnyH_step i v w2 hr3 hi (wi3 u u2) a3 a2 ?_⟩
      rw [hl3, hp3]
      exact a4
end Go.Proofs.YtfbdnhadcnmfoaaDoor
/- The walks of lamport's begun, put, hidden and halves (layer 10). -/
namespace Go.Proofs.YtfbdnhadcnmfoaaDoor
open Go.RowKit Go.Shelf
set_option maxRecDepth 100000
/-- what stands below base, and every block but one of bytes, is as it was -/
structure KeptB (base : Nat) (w w' : World) : Prop where
  bel : Below base w w'
  oth : KeepsOthers w w'
  blk : ∀ g cs t, t ≠ 5 → Blk w g cs t → Blk w' g cs t
theorem KeptB.refl (base : Nat) (w : World) : KeptB base w w := ⟨Below.refl _ _, KeepsOthers.refl _, fun _ _ _ _ h => h⟩
theorem KeptB.next {base : Nat} {w y y' : World} (h : KeptB base w y) (hb : base ≤ w.heap.size) (hy : Below y.heap.size y y') : KeptB base w y' :=
  ⟨h.bel.trans (hy.mono (Nat.le_trans hb h.bel.size)), h.oth.trans (keepsOthers_of_below hy), fun g cs t ht hg => (h.blk g cs t ht hg).below hy (h.blk g cs t ht hg).lt⟩
theorem KeptB.grown {base : Nat} {w y y' : World} {v : Value} {l : List (BitVec 8)} (h : KeptB base w y) (ho : OwnB y base v l) (hg : y.grownBy y' v.ownBlock) (hb : Below base y y') : KeptB base w y' :=
  ⟨h.bel.trans hb, h.oth.trans (keeps_append ho hg), fun g cs t ht hh => (h.blk g cs t ht hh).grown hg (ho.ne (h.blk g cs t ht hh) ht)⟩
/-- a slice of one byte -/
theorem wpSeq_buildY {ops : Array Oper} {Q : Exit → Act → World → Prop} {rest : List Oper} {o : Oper} {a : Act} {w : World} (b : BitVec 8) (x : Operand) (hx : a.eval x = .int .u8 (b.toNat : Int)) (ho : o.op = .buildSlice 29 1 #[(0, x)]) (hw : Region.wanted o (yielded ops a.tmps) = true)
    (h : ∀ g w', Blk w' g (cb [b]) 5 → Below w.heap.size w w' → wpList Tryd.prog ops Q rest (a.put o.dst (.slice (some ⟨g, 0, none⟩) 1 1)) w') : wpList Tryd.prog ops Q (o :: rest) a w := by
  refine wpSeq_val _ (w.alloc (.cells (cb [b]).toArray 5)) hw ?_ (h w.heap.size _ (Blk.new w _ 5) (below_alloc _ _))
  unfold execOp
  rw [ho]
  generalize a.eval = f at hx ⊢
  simp only [List.map_toArray, List.map_cons, List.map_nil, hx]
  kernel_rfl
theorem blk_reads_y {w : World} {g : Nat} {l : List (BitVec 8)} (h : Blk w g (cb l) 5) : Reads w (.slice (some ⟨g, 0, none⟩) l.length l.length) l :=
  ⟨_, _, rfl, Nat.le_refl _, (fun e => by cases e), fun _ => ⟨g, 0, rfl, fun j hj => by rw [Nat.zero_add, h.cell, cb_get l j hj]⟩⟩
set_option maxRecDepth 100000 in
set_option maxHeartbeats 8000000 in
theorem lBegun_any (w : World) : Calls Tryd.prog 51 #[] w fun e w' => ∃ v, e = .returned v ∧ OwnB w' w.heap.size v [80] ∧ Below w.heap.size w w' := by
  have HBW : Hid (Below w.heap.size w w) := Below.refl _ _
  go_enter Tryd.func51, Tryd.ntmps51
  have tk0 : Hid True := trivial
  have tk1 : Hid True := trivial
  have tk2 : Hid True := trivial
  go_wp2_with (first
    | (clear tk0; with_reducible refine wpSeq_make (.const (.int .i64 0)) (.const (.int .i64 16385)) 0 16385 ?_ ?_ ?_ ?_ ?_ ?_ ?_
       · decide
       · decide
       · rfl
       · rfl
       · rfl
       · rfl
       intro go y1 z hz hge hzb hzl
       have HO : Hid (OwnB y1 w.heap.size (.slice (some ⟨go, 0, none⟩) 0 16385) []) := own_of_blk (k := 0) hzb (Nat.le_trans HBW.out.size hge) (by rw [hz, List.length_replicate]) (by decide) (by decide)
       replace HBW : Hid (Below w.heap.size w y1) := HBW.out.trans (hzl.mono HBW.out.size)
       clear hz hge hzb hzl)
    | (clear tk1; with_reducible refine wpSeq_buildY 80 (.const (.int .u8 80)) ?_ ?_ ?_ ?_
       · rfl
       · rfl
       · rfl
       intro gy y2 hgb hbz
       replace HO : Hid (OwnB y2 w.heap.size (.slice (some ⟨go, 0, none⟩) 0 16385) ([])) := HO.out.below hbz (Nat.le_refl _)
       replace HBW : Hid (Below w.heap.size w y2) := HBW.out.trans (hbz.mono HBW.out.size)
       have HR : Hid (Reads y2 (.slice (some ⟨gy, 0, none⟩) 1 1) [80]) := blk_reads_y hgb
       clear hgb hbz)
    | (clear tk2; at_builtin; with_reducible refine wpSeq_appendG (.tmp 1) (.tmp 2) w.heap.size (.slice (some ⟨go, 0, none⟩) 0 16385) (.slice (some ⟨gy, 0, none⟩) 1 1) ([]) ([80]) HO.out (HR.out) (by decide) (by decide) HBW.out.size ?_ ?_ ?_ ?_ ?_
       · rfl
       · rfl
       · rfl
       · rfl
       intro v1 y3 hown hgr hbz
       replace HO : Hid (OwnB y3 w.heap.size v1 ([] ++ [80])) := hown
       replace HBW : Hid (Below w.heap.size w y3) := HBW.out.trans hbz
       clear hown hgr hbz))
  go_ret
  exact ⟨_, rfl, HO.out, HBW.out⟩
set_option maxRecDepth 100000 in
set_option maxHeartbeats 8000000 in
theorem lPut_any (v : Value) (l f s : List (BitVec 8)) (base : Nat) (w : World) (hb : base ≤ w.heap.size) (ho : OwnB w base v l) (hf : f.length = 32) (hs : s.length = 32) (hl : l.length ≤ 1000000) :
    Calls Tryd.prog 37 #[v, .agg (cb f).toArray, .agg (cb s).toArray] w fun e w' => ∃ v', e = .returned v' ∧ OwnB w' base v' (l ++ f ++ s) ∧ KeptB base w w' := by
  have HBS : Hid (base ≤ w.heap.size) := hb
  have HO : Hid (OwnB w base v l) := ho
  have HFL : Hid (f.length = 32) := hf
  have HSL : Hid (s.length = 32) := hs
  have HLL : Hid (l.length ≤ 1000000) := hl
  have HKP : Hid (KeptB base w w) := KeptB.refl _ _
  clear hb ho hf hs hl
  go_enter Tryd.func37, Tryd.ntmps37
  have tka7 : Hid True := trivial
  have tka10 : Hid True := trivial
  have tk1 : Hid True := trivial
  have tk2 : Hid True := trivial
  go_wp2_with (first
    | (clear tk1; with_reducible refine wpSeq_boxD (.tmp 1) f ?_ ?_ ?_ ?_
       · rfl
       · rfl
       · rfl
       intro gf y1 nn
       replace HKP : Hid (KeptB base w y1) := HKP.out.next HBS.out nn.below
       replace HO : Hid (OwnB y1 base v l) := HO.out.below nn.below (Nat.le_refl _)
       have HF : Hid (Blk y1 gf (cb f) 23) := nn.blk
       clear nn)
    | (clear tk2; with_reducible refine wpSeq_boxD (.tmp 2) s ?_ ?_ ?_ ?_
       · rfl
       · rfl
       · rfl
       intro gs y2 nn
       replace HKP : Hid (KeptB base w y2) := HKP.out.next HBS.out nn.below
       replace HO : Hid (OwnB y2 base v l) := HO.out.below nn.below (Nat.le_refl _)
       replace HF : Hid (Blk y2 gf (cb f) 23) := HF.out.below nn.below HF.out.lt
       have HG : Hid (Blk y2 gs (cb s) 23) := nn.blk
       clear nn)
    | (at_builtin; clear tka7; with_reducible refine wpSeq_appendG (.tmp 7) (.tmp 8) base v (.slice (some ⟨gf, 0, none⟩) 32 32) (l) f HO.out (HF.out.reads HFL.out.symm (by rw [HFL.out]; exact Nat.le_refl _)) (by rw [HFL.out]; decide) (by have h1 := HLL.out; have h2 := HFL.out; have h3 := HSL.out; (try rw [List.length_append]); omega) (Nat.le_trans HBS.out HKP.out.bel.size) ?_ ?_ ?_ ?_ ?_
       · rfl
       · rfl
       · rfl
       · rfl
       intro v1 y3 hown hgr hbz
       replace HKP : Hid (KeptB base w y3) := HKP.out.grown HO.out hgr hbz
       replace HG : Hid (Blk y3 gs (cb s) 23) := HG.out.grown hgr (HO.out.ne HG.out (by decide))
       replace HO : Hid (OwnB y3 base v1 (l ++ f)) := hown
       clear hown hgr hbz)
    | (at_builtin; clear tka10; with_reducible refine wpSeq_appendG (.tmp 10) (.tmp 11) base v1 (.slice (some ⟨gs, 0, none⟩) 32 32) (l ++ f) s HO.out (HG.out.reads HSL.out.symm (by rw [HSL.out]; exact Nat.le_refl _)) (by rw [HSL.out]; decide) (by have h1 := HLL.out; have h2 := HFL.out; have h3 := HSL.out; (try rw [List.length_append]); omega) (Nat.le_trans HBS.out HKP.out.bel.size) ?_ ?_ ?_ ?_ ?_
       · rfl
       · rfl
       · rfl
       · rfl
       intro v2 y4 hown hgr hbz
       replace HKP : Hid (KeptB base w y4) := HKP.out.grown HO.out hgr hbz
       replace HG : Hid (Blk y4 gs (cb s) 23) := HG.out.grown hgr (HO.out.ne HG.out (by decide))
       replace HO : Hid (OwnB y4 base v2 (l ++ f ++ s)) := hown
       clear hown hgr hbz))
  go_ret
  exact ⟨_, rfl, HO.out, HKP.out⟩
/-- which of the two parts -/
def sdI (o : Bool) : Int := if o then 1 else 0
theorem key_any (x : List (BitVec 8)) (key i : Nat) (o : Bool) (W : World) (hK : KOk W) (hn : x.length = 32 ∧ key < 18446744073709551616 ∧ i < 256) :
    Calls Tryd.prog 38 #[.agg (cb x).toArray, .int .u64 (key : Int), .int .i64 (i : Int), .int .i64 (sdI o)] W fun e w' => e = .returned (.agg (cb (partB x key i o)).toArray) ∧ Below W.heap.size W w' := by
  cases o with
  | true => exact tKey_any x key _ (i : Int) (1 : Int) W hK (key_place i hn.2.2 1 (by omega)) ⟨hn.1, hn.2.1, by (split <;> omega)⟩
  | false => exact tKey_any x key _ (i : Int) (0 : Int) W hK (key_place i hn.2.2 0 (by omega)) ⟨hn.1, hn.2.1, by (split <;> omega)⟩
set_option maxRecDepth 100000 in
set_option maxHeartbeats 8000000 in
theorem lHidden_any (x : List (BitVec 8)) (key i : Nat) (o : Bool) (w : World) (hK : KOk w) (hn : x.length = 32 ∧ key < 18446744073709551616 ∧ i < 256) :
    Calls Tryd.prog 39 #[.agg (cb x).toArray, .int .u64 (key : Int), .int .i64 (i : Int), .int .i64 (sdI o)] w fun e w' => e = .returned (.agg (cb (dig (partB x key i o))).toArray) ∧ Below w.heap.size w w' := by
  obtain ⟨p, HPD⟩ : ∃ r, Hid (r = partB x key i o) := ⟨_, rfl⟩
  have HPL : Hid (p.length = 32) := by show _ = _; rw [HPD.out]; exact len_partB _ _ _ _
  obtain ⟨si, HSI⟩ : ∃ r, Hid (r = sdI o) := ⟨_, rfl⟩
  have HC1 : Hid (∀ W : World, Below w.heap.size w W → Calls Tryd.prog 38 #[.agg (cb x).toArray, .int .u64 (key : Int), .int .i64 (i : Int), .int .i64 si] W fun e w' => e = .returned (.agg (cb p).toArray) ∧ Below W.heap.size W w') := fun W hh => by rw [HPD.out, HSI.out]; exact key_any x key i o W (hK.below hh hK.lt) hn
  rw [← HPD.out, ← HSI.out]
  obtain ⟨r, HRD⟩ : ∃ r, Hid (r = dig p) := ⟨_, rfl⟩
  have HRL : Hid (r.length = 32) := by show _ = _; rw [HRD.out]; exact len_dig' _
  have HC2 : Hid (∀ W : World, Below w.heap.size w W → ∀ v, Reads W v p → Calls Tryd.prog 30 #[v] W fun e w' => e = .returned (.agg (cb r).toArray) ∧ Below W.heap.size W w') := fun W hh v hv => by rw [HRD.out]; exact tOf_any v p W (hK.below hh hK.lt) hv (by rw [HPL.out]; omega)
  have HN : Hid (x.length = 32 ∧ key < 18446744073709551616 ∧ i < 256) := hn
  have HBW : Hid (Below w.heap.size w w) := Below.refl _ _
  clear hn HPD hK HSI
  go_enter Tryd.func39, Tryd.ntmps39
  have tk0 : Hid True := trivial
  have tk1 : Hid True := trivial
  have tk2 : Hid True := trivial
  have tk3 : Hid True := trivial
  have tk4 : Hid True := trivial
  have tk5 : Hid True := trivial
  have tk6 : Hid True := trivial
  have tk7 : Hid True := trivial
  go_wp2_with (first
    | (clear tk0; with_reducible refine wpSeq_boxD (.tmp 0) x ?_ ?_ ?_ ?_
       · rfl
       · rfl
       · rfl
       intro gx y1 nn
       replace HBW : Hid (Below w.heap.size w y1) := HBW.out.trans (nn.below.mono HBW.out.size)
       have HX : Hid (Blk y1 gx (cb x) 23) := nn.blk
       clear nn)
    | (clear tk1; with_reducible refine wpSeq_allocD ?_ ?_ ?_
       · rfl
       · rfl
       intro gr y2 nn
       have HGR : Hid (w.heap.size ≤ gr) := Nat.le_trans HBW.out.size nn.ge
       replace HX : Hid (Blk y2 gx (cb x) 23) := HX.out.below nn.below HX.out.lt
       replace HBW : Hid (Below w.heap.size w y2) := HBW.out.trans (nn.below.mono HBW.out.size)
       have HB : Hid (Blk y2 gr (cb zb32) 23) := nn.blk
       clear nn)
    | (clear tk2; with_reducible refine wpSeq_loadD (.tmp 4) gx x ?_ ?_ ?_ ?_ ?_ ?_
       · exact HN.out.1
       · exact HX.out
       · rfl
       · rfl
       · rfl)
    | (clear tk3; go_at_call 38; refine (HC1.out y2 HBW.out).mono ?_; rintro e y3 ⟨rfl, hbz⟩
       replace HX : Hid (Blk y3 gx (cb x) 23) := HX.out.below hbz HX.out.lt
       replace HB : Hid (Blk y3 gr (cb zb32) 23) := HB.out.below hbz HB.out.lt
       replace HBW : Hid (Below w.heap.size w y3) := HBW.out.trans (hbz.mono HBW.out.size)
       clear hbz )
    | (clear tk4; with_reducible refine wpSeq_allocD ?_ ?_ ?_
       · rfl
       · rfl
       intro gp y4 nn)
    | (clear tk5; with_reducible refine wpSeq_storeD (.tmp 9) (.tmp 14) gp zb32 p ?_ ?_ ?_ ?_ ?_ ?_ ?_ ?_
       · rfl
       · exact HPL.out
       · exact nn.blk
       · rfl
       · rfl
       · rfl
       · rfl
       intro y5 hs
       have hbz := nn.below.trans (hs.only.below nn.ge nn.below.size)
       replace HX : Hid (Blk y5 gx (cb x) 23) := HX.out.below hbz HX.out.lt
       replace HB : Hid (Blk y5 gr (cb zb32) 23) := HB.out.below hbz HB.out.lt
       replace HBW : Hid (Below w.heap.size w y5) := HBW.out.trans (hbz.mono HBW.out.size)
       have HP : Hid (Blk y5 gp (cb p) 23) := hs.blk
       clear nn hs hbz)
    | (clear tk6; go_at_call 30; refine (HC2.out y5 HBW.out (.slice (some ⟨gp, 0, none⟩) 32 32) (HP.out.reads HPL.out.symm (by rw [HPL.out]; exact Nat.le_refl _))).mono ?_; rintro e y6 ⟨rfl, hbz⟩
       replace HX : Hid (Blk y6 gx (cb x) 23) := HX.out.below hbz HX.out.lt
       replace HB : Hid (Blk y6 gr (cb zb32) 23) := HB.out.below hbz HB.out.lt
       replace HP : Hid (Blk y6 gp (cb p) 23) := HP.out.below hbz HP.out.lt
       replace HBW : Hid (Below w.heap.size w y6) := HBW.out.trans (hbz.mono HBW.out.size)
       clear hbz )
    | (clear tk7; with_reducible refine wpSeq_storeD (.tmp 8) (.tmp 16) gr zb32 r ?_ ?_ ?_ ?_ ?_ ?_ ?_ ?_
       · rfl
       · exact HRL.out
       · exact HB.out
       · rfl
       · rfl
       · rfl
       · rfl
       intro W9 h9))
  exact bodyPost_ret (v := .agg (cb r).toArray) (results_cell_row (by rfl) _ _ gr 23 _ (0, 0) _ rfl h9.blk Tryd.underlying23 rfl (by rw [List.size_toArray, cb_len, HRL.out]; exact info_digest)) rfl ⟨by rw [HRD.out], HBW.out.trans (h9.only.below HGR.out HBW.out.size)⟩
/-- from a place on -/
theorem from_run (ga off n cap l : Nat) (hn : l < n) (hc : n ≤ cap) (w : World) :
    (Instr.sliceAt 29 (.slice (some ⟨ga, off, none⟩) n cap) (some (.int .i64 (l : Int))) none none).run Tryd.prog w = .ok (.slice (some ⟨ga, off + l, none⟩) (n - l) (cap - l)) w := by
  have hs : (sizeOf 5).run Tryd.prog w = .ok 1 w := by kernel_rfl
  rw [run_sliceAt_slice w 29 _ _ _ _ (by kernel_rfl), run_slice_l w 29 _ _ _ (by kernel_rfl) .i64 _ (by omega) (by omega)]
  rw [show Tryd.prog.elem 29 = 5 from by kernel_rfl, hs]
  simp only [Result.andThen_ok, sliced, Int.toNat_natCast, Nat.mul_one]
  rw [if_neg (by omega)]
  simp [Addr.add_mid]
theorem from_op (f : Operand → Value) (o : Oper) (x lo : Operand) (ho : o.op = .slice 29 x (some lo) none none) (ga off n cap l : Nat) (hx : f x = .slice (some ⟨ga, off, none⟩) n cap) (L : Int) (hlo : f lo = .int .i64 L) (hL : L = (l : Int)) (hn : l < n) (hc : n ≤ cap) (w : World) :
    (execOp f o).run Tryd.prog w = .ok (.value (.slice (some ⟨ga, off + l, none⟩) (n - l) (cap - l))) w := by
  subst hL
  unfold execOp
  rw [ho]
  simp only [hx, hlo, Option.map_some, Option.map_none, Sem.run_bind, from_run ga off n cap l hn hc w]
  rfl
theorem wpSeq_from {ops : Array Oper} {Q : Exit → Act → World → Prop} {rest : List Oper} {o : Oper} {a : Act} {w : World} (x lo : Operand) (ga off n cap l : Nat) (L : Int) (hL : L = (l : Int)) (hn : l < n) (hc : n ≤ cap) (ho : o.op = .slice 29 x (some lo) none none) (hx : a.eval x = .slice (some ⟨ga, off, none⟩) n cap) (hlo : a.eval lo = .int .i64 L) (hw : Region.wanted o (yielded ops a.tmps) = true)
    (h : wpList Tryd.prog ops Q rest (a.put o.dst (.slice (some ⟨ga, off + l, none⟩) (n - l) (cap - l))) w) : wpList Tryd.prog ops Q (o :: rest) a w :=
  wpSeq_val _ _ hw (from_op a.eval o x lo ho ga off n cap l hx L hlo hL hn hc w) h
/-- thirty-two bytes copied over a digest -/
theorem copy_run (f : Operand → Value) (o : Oper) (s x : Operand) (ho : o.op = .call { callee := .builtin .copy, args := #[s, x], argTypes := #[29, 29] }) (w : World) (g b off n cap : Nat) (l bs : List (BitVec 8)) (hg : Blk w g (cb l) 23) (hl : l.length = 32) (hbs : bs.length = 32) (hn : 32 ≤ n) (hc2 : ∃ c, Reads w (.slice (some ⟨b, off, none⟩) 32 c) bs) (hs : f s = .slice (some ⟨g, 0, none⟩) 32 32) (hx : f x = .slice (some ⟨b, off, none⟩) n cap) :
    (execOp f o).run Tryd.prog w = .ok (.value (goInt 32)) (w.setCells g 0 (cb bs)) := by
  obtain ⟨c, ad, c', hv, _, _, hy⟩ := hc2
  obtain ⟨b', off', h1, h2⟩ := hy (by omega)
  subst h1
  simp only [Value.slice.injEq, Option.some.injEq, Addr.mk.injEq, and_true] at hv
  obtain ⟨⟨rfl, rfl⟩, _⟩ := hv
  have hcp : ∀ ty, (Builtin.copy_ #[29, 29] ty #[.slice (some ⟨g, 0, none⟩) 32 32, .slice (some ⟨b, off, none⟩) n cap]).run Tryd.prog w = .ok (goInt (cb bs).length) (w.setCells g 0 (cb bs)) := fun ty =>
      run_copy_cells w _ _ ty 5 g 0 32 32 ⟨b, off, none⟩ n cap (cb bs) Tryd.underlying29 (by kernel_rfl) (by rw [cb_len, hbs]; exact (Nat.min_eq_right hn).symm)
        (fun j u hj => by
          have hjl : j < bs.length := by have := (List.getElem?_eq_some_iff.1 hj).1; rwa [cb_len] at this
          rw [Addr.add_mid, h2 j hjl, ← hj, cb_get bs j hjl])
        (fun j hj => by rw [hg.cell, List.getElem?_eq_getElem (by rw [cb_len, hl]; rw [cb_len, hbs] at hj; omega)]; rfl) (fun j _ => hg.frozen _) (cb_one _)
  rw [cb_len, hbs] at hcp
  unfold execOp
  rw [ho]
  simp [resolve, invoke, builtin, hs, hx, hcp, Result.andThen]
theorem wpSeq_copyY {ops : Array Oper} {Q : Exit → Act → World → Prop} {rest : List Oper} {o : Oper} {a : Act} {w : World} (s x : Operand) (g b off n cap : Nat) (l bs : List (BitVec 8)) (hg : Blk w g (cb l) 23) (hl : l.length = 32) (hbs : bs.length = 32) (hn : 32 ≤ n) (hc2 : ∃ c, Reads w (.slice (some ⟨b, off, none⟩) 32 c) bs) (ho : o.op = .call { callee := .builtin .copy, args := #[s, x], argTypes := #[29, 29] }) (hs : a.eval s = .slice (some ⟨g, 0, none⟩) 32 32) (hx : a.eval x = .slice (some ⟨b, off, none⟩) n cap) (hw : Region.wanted o (yielded ops a.tmps) = true)
    (h : ∀ w', SetB bs w g w' → wpList Tryd.prog ops Q rest (a.put o.dst (goInt 32)) w') : wpList Tryd.prog ops Q (o :: rest) a w :=
  wpSeq_val _ _ hw (copy_run a.eval o s x ho w g b off n cap l bs hg hl hbs hn hc2 hs hx) (h _ (SetB.of l bs hl hbs hg))
theorem results_digs2 {fn : Func} {p q : Tmp} (h : fn.results = #[.cell p 23, .cell q 23]) (tmps : Array Value) (w : World) (g1 g2 : Nat) (l1 l2 : List (BitVec 8)) (h1 : l1.length = 32) (h2 : l2.length = 32)
    (hp : tmps.getD p undef = .pointer (some ⟨g1, 0, none⟩)) (hq : tmps.getD q undef = .pointer (some ⟨g2, 0, none⟩)) (hb1 : Blk w g1 (cb l1) 23) (hb2 : Blk w g2 (cb l2) 23) : (results fn tmps).run Tryd.prog w = .ok (.tuple #[.agg (cb l1).toArray, .agg (cb l2).toArray]) w := by
  have hp' : tmps[p]?.getD undef = .pointer (some ⟨g1, 0, none⟩) := by simpa using hp
  have hq' : tmps[q]?.getD undef = .pointer (some ⟨g2, 0, none⟩) := by simpa using hq
  have e1 := run_loadVar_row (P := Tryd.prog) w g1 23 23 (cb l1).toArray (0, 0) _ hb1 Tryd.underlying23 rfl (by rw [List.size_toArray, cb_len, h1]; exact info_digest)
  have e2 := run_loadVar_row (P := Tryd.prog) w g2 23 23 (cb l2).toArray (0, 0) _ hb2 Tryd.underlying23 rfl (by rw [List.size_toArray, cb_len, h2]; exact info_digest)
  simp [results, h, hp', hq', asAddr, e1, e2]
set_option maxRecDepth 100000 in
set_option maxHeartbeats 8000000 in
theorem lHalves_any (vs : Value) (sig : List (BitVec 8)) (i : Nat) (w : World) (hs : Reads w vs sig) (h16 : sig.length = 16384) (hi : i < 256) :
    Calls Tryd.prog 55 #[vs, .int .i64 (i : Int)] w fun e w' => e = .returned (.tuple #[.agg (cb (blk32 sig (2 * i))).toArray, .agg (cb (blk32 sig (2 * i + 1))).toArray]) ∧ Below w.heap.size w w' := by
  obtain ⟨bs, offs, cps, hcp, rfl⟩ : ∃ bs offs cps, 16384 ≤ cps ∧ vs = .slice (some ⟨bs, offs, none⟩) 16384 cps := by
    obtain ⟨ad', cp', hv', hc, _, hx⟩ := id hs
    obtain ⟨bs, offs, rfl, _⟩ := hx (by omega)
    rw [h16] at hv' hc
    exact ⟨bs, offs, cp', hc, hv'⟩
  obtain ⟨pa, HPA⟩ : ∃ r, Hid (r = blk32 sig (2 * i)) := ⟨_, rfl⟩
  obtain ⟨pb, HPB⟩ : ∃ r, Hid (r = blk32 sig (2 * i + 1)) := ⟨_, rfl⟩
  have HPAL : Hid (pa.length = 32) := by show _ = _; rw [HPA.out]; exact len_blk32 (by omega)
  have HPBL : Hid (pb.length = 32) := by show _ = _; rw [HPB.out]; exact len_blk32 (by omega)
  have HCA : Hid (∀ W, Below w.heap.size w W → ∃ c, Reads W (.slice (some ⟨bs, offs + 64 * i, none⟩) 32 c) pa) := fun W hh => by
    have h := (hs.below hh).cut (2 * i) (by omega)
    rw [← HPA.out, show 32 * (2 * i) = 64 * i by omega] at h
    exact ⟨_, h⟩
  have HCB : Hid (∀ W, Below w.heap.size w W → ∃ c, Reads W (.slice (some ⟨bs, offs + 64 * i + 32, none⟩) 32 c) pb) := fun W hh => by
    have h := (hs.below hh).cut (2 * i + 1) (by omega)
    rw [← HPB.out, show 32 * (2 * i + 1) = 64 * i + 32 by omega, ← Nat.add_assoc] at h
    exact ⟨_, h⟩
  rw [← HPA.out, ← HPB.out]
  have HBW : Hid (Below w.heap.size w w) := Below.refl _ _
  have HCP : Hid (16384 ≤ cps ∧ i < 256) := ⟨hcp, hi⟩
  have f6 : IntKind.i64.wrap ((i : Int) * 64) = (i : Int) * 64 := by rw [IntKind.wrap_i64]; omega
  clear hs h16 hi hcp HPA HPB
  go_enter Tryd.func55, Tryd.ntmps55
  have tk1 : Hid True := trivial
  have tk2 : Hid True := trivial
  have tk3 : Hid True := trivial
  have tk4 : Hid True := trivial
  go_wp2_with (first
    | (clear tk1; with_reducible refine wpSeq_allocD ?_ ?_ ?_
       · rfl
       · rfl
       intro ga y1 nn
       have HGA : Hid (w.heap.size ≤ ga) := Nat.le_trans HBW.out.size nn.ge
       replace HBW : Hid (Below w.heap.size w y1) := HBW.out.trans (nn.below.mono HBW.out.size)
       have HA : Hid (Blk y1 ga (cb zb32) 23) := nn.blk
       clear nn)
    | (clear tk2; with_reducible refine wpSeq_allocD ?_ ?_ ?_
       · rfl
       · rfl
       intro gb y2 nn
       have HGB : Hid (w.heap.size ≤ gb) := Nat.le_trans HBW.out.size nn.ge
       have HNE : Hid (ga ≠ gb) := by have h1 := HA.out.lt; have h2 := nn.ge; show _ ≠ _; omega
       replace HBW : Hid (Below w.heap.size w y2) := HBW.out.trans (nn.below.mono HBW.out.size)
       replace HA : Hid (Blk y2 ga (cb zb32) 23) := HA.out.below nn.below HA.out.lt
       have HB : Hid (Blk y2 gb (cb zb32) 23) := nn.blk
       clear nn)
    | (clear tk3; with_reducible refine wpSeq_from (.tmp 7) (.tmp 9) bs offs 16384 cps (64 * i) ((i : Int) * 64) ?_ ?_ ?_ ?_ ?_ ?_ ?_ ?_
       · have := HCP.out.2; omega
       · have := HCP.out.2; omega
       · exact HCP.out.1
       · rfl
       · rfl
       · rfl
       · rfl
       obtain ⟨n1, HN1⟩ : ∃ n, Hid (n = 16384 - 64 * i) := ⟨_, rfl⟩
       obtain ⟨c1, HC1⟩ : ∃ n, Hid (n = cps - 64 * i) := ⟨_, rfl⟩
       obtain ⟨o1, HO1⟩ : ∃ n, Hid (n = offs + 64 * i) := ⟨_, rfl⟩
       rw [← HN1.out, ← HC1.out, ← HO1.out]
       replace HCA : Hid (∀ W, Below w.heap.size w W → ∃ c, Reads W (.slice (some ⟨bs, o1, none⟩) 32 c) pa) := by rw [HO1.out]; exact HCA.out
       replace HCB : Hid (∀ W, Below w.heap.size w W → ∃ c, Reads W (.slice (some ⟨bs, o1 + 32, none⟩) 32 c) pb) := by rw [HO1.out]; exact HCB.out
       have HN2 : Hid (64 ≤ n1 ∧ n1 ≤ c1) := by have h1 := HCP.out.1; have h2 := HCP.out.2; have h3 := HN1.out; have h4 := HC1.out; exact ⟨by omega, by omega⟩
       clear HN1 HC1 HO1)
    | (clear tk4; with_reducible refine wpSeq_copyY (.tmp 11) (.tmp 12) ga bs o1 n1 c1 zb32 pa HA.out rfl HPAL.out (by have := HN2.out.1; omega) (HCA.out _ HBW.out) ?_ ?_ ?_ ?_ ?_
       · rfl
       · rfl
       · rfl
       · rfl
       intro y3 hs
       replace HA : Hid (Blk y3 ga (cb pa) 23) := hs.blk
       replace HB : Hid (Blk y3 gb (cb zb32) 23) := HB.out.only hs.only (fun e => HNE.out e.symm)
       replace HBW : Hid (Below w.heap.size w y3) := HBW.out.trans (hs.only.below HGA.out HBW.out.size)
       clear hs))
  refine wp_region_held_drew (S := fun _ => True) (by kernel_rfl) trivial ?_
  intro hS
  replace HA : Hid (Blk (World.drew y3) ga (cb pa) 23) := HA.out.drew
  replace HB : Hid (Blk (World.drew y3) gb (cb zb32) 23) := HB.out.drew
  replace HBW : Hid (Below w.heap.size w (World.drew y3)) := HBW.out.drew
  change wpAnyH _ _ _ _ _ _ _ _ (World.drew y3)
  generalize World.drew y3 = q at *
  try simp only [Act.put, List.setIfInBounds_toArray, List.set_cons_zero, List.set_cons_succ]
  refine wpAnyH_take (i := 0) (v := .slice (some ⟨gb, 0, none⟩) 32 32) rfl (by kernel_rfl) (by kernel_rfl) (by kernel_rfl) (fun _ _ _ h => h) (Or.inl ⟨by rfl, fun wx hx => by simp [execOp, Act.eval, slice_dig]⟩) hS ?_
  simp only [Act.put, List.getElem_toArray, List.getElem_cons_zero, List.setIfInBounds_toArray, List.set_cons_zero, List.set_cons_succ]
  refine wpAnyH_take (i := 1) (v := .slice (some ⟨bs, o1, none⟩) n1 c1) rfl (by kernel_rfl) (by kernel_rfl) (by kernel_rfl) (fun _ _ _ h => h) (Or.inl ⟨by rfl, fun wx hx => by simp [go_sem]⟩) hS ?_
  simp only [Act.put, List.getElem_toArray, List.getElem_cons_succ, List.getElem_cons_zero, List.setIfInBounds_toArray, List.set_cons_zero, List.set_cons_succ]
  refine wpAnyH_take (i := 2) (v := .slice (some ⟨bs, o1 + 32, none⟩) (n1 - 32) (c1 - 32)) rfl (by kernel_rfl) (by kernel_rfl) (by kernel_rfl) (fun _ _ _ h => h) (Or.inl ⟨by rfl, fun wx hx => by exact from_op _ _ (.tmp 15) (.const (.int .i64 32)) rfl bs o1 n1 c1 32 rfl 32 rfl rfl (by have := HN2.out.1; omega) HN2.out.2 _⟩) hS ?_
  simp only [Act.put, List.getElem_toArray, List.getElem_cons_succ, List.getElem_cons_zero, List.setIfInBounds_toArray, List.set_cons_zero, List.set_cons_succ]
  refine wpAnyH_step 3 (goInt 32) (q.setCells gb 0 (cb pb)) (by kernel_rfl) rfl (by rfl) (copy_run _ _ (.tmp 14) (.tmp 16) rfl q gb bs (o1 + 32) (n1 - 32) (c1 - 32) zb32 pb HB.out rfl HPBL.out (by have := HN2.out.1; omega) (HCB.out _ HBW.out) rfl rfl) trivial ?_
  simp only [Act.put, List.getElem_toArray, List.getElem_cons_succ, List.getElem_cons_zero, List.setIfInBounds_toArray, List.set_cons_zero, List.set_cons_succ]
  refine wpAnyH_done (by kernel_rfl) ?_ _
  have hs : SetB pb q gb (q.setCells gb 0 (cb pb)) := SetB.of zb32 pb rfl HPBL.out HB.out
  replace HB : Hid (Blk (q.setCells gb 0 (cb pb)) gb (cb pb) 23) := hs.blk
  replace HA : Hid (Blk (q.setCells gb 0 (cb pb)) ga (cb pa) 23) := HA.out.only hs.only HNE.out
  replace HBW : Hid (Below w.heap.size w (q.setCells gb 0 (cb pb))) := HBW.out.trans (hs.only.below HGB.out HBW.out.size)
  clear hs hS HCA HCB
  generalize q.setCells gb 0 (cb pb) = y4 at *
  have tk5 : Hid True := trivial
  have tk6 : Hid True := trivial
  have tk7 : Hid True := trivial
  have tk8 : Hid True := trivial
  go_wp2_with (first
    | (clear tk5; with_reducible refine wpSeq_loadD (.tmp 4) ga pa ?_ ?_ ?_ ?_ ?_ ?_
       · exact HPAL.out
       · exact HA.out
       · rfl
       · rfl
       · rfl)
    | (clear tk6; with_reducible refine wpSeq_loadD (.tmp 5) gb pb ?_ ?_ ?_ ?_ ?_ ?_
       · exact HPBL.out
       · exact HB.out
       · rfl
       · rfl
       · rfl)
    | (clear tk7; with_reducible refine wpSeq_storeD (.tmp 4) (.tmp 18) ga pa pa ?_ ?_ ?_ ?_ ?_ ?_ ?_ ?_
       · exact HPAL.out
       · exact HPAL.out
       · exact HA.out
       · rfl
       · rfl
       · rfl
       · rfl
       intro y5 hs
       replace HA : Hid (Blk y5 ga (cb pa) 23) := hs.blk
       replace HB : Hid (Blk y5 gb (cb pb) 23) := HB.out.only hs.only (fun e => HNE.out e.symm)
       replace HBW : Hid (Below w.heap.size w y5) := HBW.out.trans (hs.only.below HGA.out HBW.out.size)
       clear hs)
    | (clear tk8; with_reducible refine wpSeq_storeD (.tmp 5) (.tmp 19) gb pb pb ?_ ?_ ?_ ?_ ?_ ?_ ?_ ?_
       · exact HPBL.out
       · exact HPBL.out
       · exact HB.out
       · rfl
       · rfl
       · rfl
       · rfl
       intro y6 hs
       replace HA : Hid (Blk y6 ga (cb pa) 23) := HA.out.only hs.only HNE.out
       replace HB : Hid (Blk y6 gb (cb pb) 23) := hs.blk
       replace HBW : Hid (Below w.heap.size w y6) := HBW.out.trans (hs.only.below HGB.out HBW.out.size)
       clear hs))
  exact bodyPost_ret (results_digs2 (by rfl) _ _ ga gb pa pb HPAL.out HPBL.out rfl rfl HA.out HB.out) rfl ⟨rfl, HBW.out⟩
end Go.Proofs.YtfbdnhadcnmfoaaDoor
/- The walks of lamport's Text and Public (layer 10). -/
namespace Go.Proofs.YtfbdnhadcnmfoaaDoor
open Go.RowKit Go.Shelf
set_option maxRecDepth 100000
theorem OwnB.lower {w : World} {base B : Nat} {v : Value} {l : List (BitVec 8)} (h : OwnB w base v l) (hB : B ≤ base) : OwnB w B v l := by
  obtain ⟨h1, h2⟩ := h
  refine ⟨h1, ?_⟩
  rcases h2 with h2 | ⟨g, cap, cur, rfl, hb, r⟩
  · exact Or.inl h2
  · exact Or.inr ⟨g, cap, cur, rfl, Nat.le_trans hB hb, r⟩
set_option maxRecDepth 100000 in
set_option maxHeartbeats 8000000 in
theorem lText_any (x : List (BitVec 8)) (key : Nat) (w : World) (hK : KOk w) (hn : x.length = 32 ∧ key < 18446744073709551616) :
    Calls Tryd.prog 35 #[.agg (cb x).toArray, .int .u64 (key : Int)] w fun e w' => ∃ v, e = .returned v ∧ Reads w' v (textR (partB x key) 256) ∧ Below w.heap.size w w' := by
  obtain ⟨P, HP⟩ : ∃ P, Hid (P = partB x key) := ⟨_, rfl⟩
  have HPL : Hid (∀ i o, (dig (P i o)).length = 32) := fun i o => len_dig' _
  have HC : Hid (∀ W : World, Below w.heap.size w W → ∀ (i : Nat) (o : Bool), i < 256 → Calls Tryd.prog 39 #[.agg (cb x).toArray, .int .u64 (key : Int), .int .i64 (i : Int), .int .i64 (sdI o)] W fun e w' => e = .returned (.agg (cb (dig (P i o))).toArray) ∧ Below W.heap.size W w') := fun W hh i o hi => by rw [HP.out]; exact lHidden_any x key i o W (hK.below hh hK.lt) ⟨hn.1, hn.2, hi⟩
  rw [← HP.out]
  have HN : Hid (x.length = 32 ∧ key < 18446744073709551616) := hn
  have HBW : Hid (Below w.heap.size w w) := Below.refl _ _
  clear hn HP hK
  go_enter Tryd.func35, Tryd.ntmps35
  have tk0 : Hid True := trivial
  have tk1 : Hid True := trivial
  go_wp2_with (first
    | (clear tk0; with_reducible refine wpSeq_boxD (.tmp 0) x ?_ ?_ ?_ ?_
       · rfl
       · rfl
       · rfl
       intro gx y1 nn
       replace HBW : Hid (Below w.heap.size w y1) := HBW.out.trans (nn.below.mono HBW.out.size)
       have HX : Hid (Blk y1 gx (cb x) 23) := nn.blk
       clear nn)
    | (clear tk1; go_at_call 51; refine (lBegun_any _).mono ?_; rintro e y2 ⟨v0, rfl, hown, hbz⟩
       have HO : Hid (OwnB y2 w.heap.size v0 [80]) := hown.lower HBW.out.size
       replace HX : Hid (Blk y2 gx (cb x) 23) := HX.out.below hbz HX.out.lt
       replace HBW : Hid (Below w.heap.size w y2) := HBW.out.trans (hbz.mono HBW.out.size)
       clear hbz hown))
  go_loopw [5, 8] (fun u i wr => ∃ k : Nat, k ≤ 256 ∧ i = .int .i64 (k : Int) ∧ OwnB wr w.heap.size u (textR P k) ∧ Blk wr gx (cb x) 23 ∧ Below w.heap.size w wr) (fun _ i _ => 256 - (intOf i).toNat)
  case atStart => exact ⟨0, by omega, rfl, HO.out, HX.out, HBW.out⟩
  case round =>
    clear HX HBW HO
    obtain ⟨k, hkn, rfl, ho, hx, hbw⟩ := hrel
    have HO : Hid (OwnB wr w.heap.size u5 (textR P k)) := ho
    have HX : Hid (Blk wr gx (cb x) 23) := hx
    have HBW : Hid (Below w.heap.size w wr) := hbw
    clear ho hx hbw
    by_cases hlt : k < 256
    · have hi : (k : Int) < 256 := by omega
      have f5 : IntKind.i64.wrap ((k : Int) + 1) = (k : Int) + 1 := by rw [IntKind.wrap_i64]; omega
      obtain ⟨pa, HPA⟩ : ∃ p, Hid (p = dig (P k false)) := ⟨_, rfl⟩
      have HPAL : Hid (pa.length = 32) := by show _ = _; rw [HPA.out]; exact HPL.out _ _
      obtain ⟨pb, HPB⟩ : ∃ p, Hid (p = dig (P k true)) := ⟨_, rfl⟩
      have HPBL : Hid (pb.length = 32) := by show _ = _; rw [HPB.out]; exact HPL.out _ _
      go_wp2
      refine wp_region_held_drew (S := fun W => Blk W gx (cb x) 23) (by kernel_rfl) HX.out.drew ?_
      intro hS
      replace HO : Hid (OwnB (World.drew wr) w.heap.size u5 (textR P k)) := HO.out.below (Below.drew (Below.refl _ _)) (Nat.le_refl _)
      replace HBW : Hid (Below w.heap.size w (World.drew wr)) := HBW.out.drew
      clear HX
      change wpAnyH _ _ _ _ _ _ _ _ (World.drew wr)
      generalize World.drew wr = q at *
      try simp only [Act.put, List.setIfInBounds_toArray, List.set_cons_zero, List.set_cons_succ]
      refine wpAnyH_take (i := 0) (v := u5) rfl (by kernel_rfl) (by kernel_rfl) (by kernel_rfl) (fun _ _ _ h => h) (Or.inl ⟨by rfl, fun wx hx => by simp [go_sem]⟩) hS ?_
      simp only [Act.put, List.getElem_toArray, List.getElem_cons_zero, List.setIfInBounds_toArray, List.set_cons_zero, List.set_cons_succ]
      refine wpAnyH_take (i := 1) (v := .agg (cb x).toArray) rfl (by kernel_rfl) (by kernel_rfl) (by kernel_rfl) (fun _ _ _ h => h) (Or.inl ⟨by rfl, fun wx hx => by exact loadDigest _ gx x HN.out.1 hx rfl rfl⟩) hS ?_
      simp only [Act.put, List.getElem_toArray, List.getElem_cons_succ, List.getElem_cons_zero, List.setIfInBounds_toArray, List.set_cons_zero, List.set_cons_succ]
      refine wpAnyH_take (i := 2) (v := .int .u64 (key : Int)) rfl (by kernel_rfl) (by kernel_rfl) (by kernel_rfl) (fun _ _ _ h => h) (Or.inl ⟨by rfl, fun wx hx => by simp [go_sem]⟩) hS ?_
      simp only [Act.put, List.getElem_toArray, List.getElem_cons_succ, List.getElem_cons_zero, List.setIfInBounds_toArray, List.set_cons_zero, List.set_cons_succ]
      refine wpAnyH_take (i := 3) (v := .int .i64 (k : Int)) rfl (by kernel_rfl) (by kernel_rfl) (by kernel_rfl) (fun _ _ _ h => h) (Or.inl ⟨by rfl, fun wx hx => by simp [go_sem]⟩) hS ?_
      simp only [Act.put, List.getElem_toArray, List.getElem_cons_succ, List.getElem_cons_zero, List.setIfInBounds_toArray, List.set_cons_zero, List.set_cons_succ]
      refine wpAnyH_take (i := 5) (v := .agg (cb x).toArray) rfl (by kernel_rfl) (by kernel_rfl) (by kernel_rfl) (fun _ _ _ h => h) (Or.inl ⟨by rfl, fun wx hx => by exact loadDigest _ gx x HN.out.1 hx rfl rfl⟩) hS ?_
      simp only [Act.put, List.getElem_toArray, List.getElem_cons_succ, List.getElem_cons_zero, List.setIfInBounds_toArray, List.set_cons_zero, List.set_cons_succ]
      refine wpAnyH_take (i := 6) (v := .int .u64 (key : Int)) rfl (by kernel_rfl) (by kernel_rfl) (by kernel_rfl) (fun _ _ _ h => h) (Or.inl ⟨by rfl, fun wx hx => by simp [go_sem]⟩) hS ?_
      simp only [Act.put, List.getElem_toArray, List.getElem_cons_succ, List.getElem_cons_zero, List.setIfInBounds_toArray, List.set_cons_zero, List.set_cons_succ]
      refine wpAnyH_take (i := 7) (v := .int .i64 (k : Int)) rfl (by kernel_rfl) (by kernel_rfl) (by kernel_rfl) (fun _ _ _ h => h) (Or.inl ⟨by rfl, fun wx hx => by simp [go_sem]⟩) hS ?_
      simp only [Act.put, List.getElem_toArray, List.getElem_cons_succ, List.getElem_cons_zero, List.setIfInBounds_toArray, List.set_cons_zero, List.set_cons_succ]
      refine wpAnyH_enter 4 (by kernel_rfl) rfl (by rfl) (f := 39) (args := #[.agg (cb x).toArray, .int .u64 (key : Int), .int .i64 (k : Int), .int .i64 0]) (by simp [go_sem]) (HC.out _ HBW.out k false hlt) ?_
      rintro e y1 ⟨rfl, hbq⟩
      rw [← HPA.out]
      replace hS := hS.below hbq hS.lt
      replace HO : Hid (OwnB y1 w.heap.size u5 (textR P k)) := HO.out.below hbq (Nat.le_refl _)
      replace HBW : Hid (Below w.heap.size w y1) := HBW.out.trans (hbq.mono HBW.out.size)
      refine ⟨_, rfl, hS, ?_⟩
      clear hbq
      simp only [Act.put, List.getElem_toArray, List.getElem_cons_succ, List.getElem_cons_zero, List.setIfInBounds_toArray, List.set_cons_zero, List.set_cons_succ]
      refine wpAnyH_enter 8 (by kernel_rfl) rfl (by rfl) (f := 39) (args := #[.agg (cb x).toArray, .int .u64 (key : Int), .int .i64 (k : Int), .int .i64 1]) (by simp [go_sem]) (HC.out _ HBW.out k true hlt) ?_
      rintro e y2 ⟨rfl, hbq⟩
      rw [← HPB.out]
      replace hS := hS.below hbq hS.lt
      replace HO : Hid (OwnB y2 w.heap.size u5 (textR P k)) := HO.out.below hbq (Nat.le_refl _)
      replace HBW : Hid (Below w.heap.size w y2) := HBW.out.trans (hbq.mono HBW.out.size)
      refine ⟨_, rfl, hS, ?_⟩
      clear hbq
      simp only [Act.put, List.getElem_toArray, List.getElem_cons_succ, List.getElem_cons_zero, List.setIfInBounds_toArray, List.set_cons_zero, List.set_cons_succ]
      refine wpAnyH_enter 9 (by kernel_rfl) rfl (by rfl) (f := 37) (args := #[u5, .agg (cb pa).toArray, .agg (cb pb).toArray]) (by simp [go_sem]) (lPut_any u5 (textR P k) pa pb w.heap.size y2 HBW.out.size HO.out HPAL.out HPBL.out (by rw [len_textR]; omega)) ?_
      rintro e y3 ⟨u9, rfl, ho9, hk9⟩
      replace hS := hk9.blk _ _ _ (by decide) hS
      replace HO : Hid (OwnB y3 w.heap.size u9 (textR P k ++ pa ++ pb)) := ho9
      replace HBW : Hid (Below w.heap.size w y3) := HBW.out.trans hk9.bel
      refine ⟨_, rfl, hS, ?_⟩
      clear ho9 hk9
      simp only [Act.put, List.getElem_toArray, List.getElem_cons_succ, List.getElem_cons_zero, List.setIfInBounds_toArray, List.set_cons_zero, List.set_cons_succ]
      refine wpAnyH_take (i := 10) (v := u9) rfl (by kernel_rfl) (by kernel_rfl) (by kernel_rfl) (fun _ _ _ h => h) (Or.inl ⟨by rfl, fun wx hx => by simp [go_sem]⟩) hS ?_
      simp only [Act.put, List.getElem_toArray, List.getElem_cons_succ, List.getElem_cons_zero, List.setIfInBounds_toArray, List.set_cons_zero, List.set_cons_succ]
      refine wpAnyH_done (by kernel_rfl) ?_ _
      have HX : Hid (Blk y3 gx (cb x) 23) := hS
      clear hS
      go_wp2
      go_roundw
      case rel =>
        refine ⟨k + 1, by omega, by simp, ?_, HX.out, HBW.out⟩
        rw [textR, ← HPA.out, ← HPB.out, ← List.append_assoc]
        exact HO.out
      case measure => simp [intOf]; omega
    · have hi : ¬ ((k : Int) < 256) := by omega
      have hk : k = 256 := by omega
      subst hk
      go_wp2
      go_ret
      exact ⟨_, rfl, HO.out.reads, HBW.out⟩
set_option maxRecDepth 100000 in
set_option maxHeartbeats 8000000 in
theorem lPublic_any (x : List (BitVec 8)) (key : Nat) (w : World) (hK : KOk w) (hn : x.length = 32 ∧ key < 18446744073709551616) :
    Calls Tryd.prog 24 #[.agg (cb x).toArray, .int .u64 (key : Int)] w fun e w' => e = .returned (.agg (cb (dig (textR (partB x key) 256))).toArray) ∧ Below w.heap.size w w' := by
  obtain ⟨t, HTD⟩ : ∃ t, Hid (t = textR (partB x key) 256) := ⟨_, rfl⟩
  have HTL : Hid (t.length = 16385) := by show _ = _; rw [HTD.out, len_textR]
  have HC1 : Hid (∀ W : World, Below w.heap.size w W → Calls Tryd.prog 35 #[.agg (cb x).toArray, .int .u64 (key : Int)] W fun e w' => ∃ v, e = .returned v ∧ Reads w' v t ∧ Below W.heap.size W w') := fun W hh => by rw [HTD.out]; exact lText_any x key W (hK.below hh hK.lt) hn
  rw [← HTD.out]
  obtain ⟨r, HRD⟩ : ∃ r, Hid (r = dig t) := ⟨_, rfl⟩
  have HRL : Hid (r.length = 32) := by show _ = _; rw [HRD.out]; exact len_dig' _
  have HC2 : Hid (∀ W : World, Below w.heap.size w W → ∀ v, Reads W v t → Calls Tryd.prog 30 #[v] W fun e w' => e = .returned (.agg (cb r).toArray) ∧ Below W.heap.size W w') := fun W hh v hv => by rw [HRD.out]; exact tOf_any v t W (hK.below hh hK.lt) hv (by rw [HTL.out]; omega)
  have HN : Hid (x.length = 32 ∧ key < 18446744073709551616) := hn
  have HBW : Hid (Below w.heap.size w w) := Below.refl _ _
  clear hn HTD hK
  go_enter Tryd.func24, Tryd.ntmps24
  have tk0 : Hid True := trivial
  have tk1 : Hid True := trivial
  have tk2 : Hid True := trivial
  have tk3 : Hid True := trivial
  have tk4 : Hid True := trivial
  have tk5 : Hid True := trivial
  go_wp2_with (first
    | (clear tk0; with_reducible refine wpSeq_boxD (.tmp 0) x ?_ ?_ ?_ ?_
       · rfl
       · rfl
       · rfl
       intro gx y1 nn
       replace HBW : Hid (Below w.heap.size w y1) := HBW.out.trans (nn.below.mono HBW.out.size)
       have HX : Hid (Blk y1 gx (cb x) 23) := nn.blk
       clear nn)
    | (clear tk1; with_reducible refine wpSeq_allocD ?_ ?_ ?_
       · rfl
       · rfl
       intro gr y2 nn
       have HGR : Hid (w.heap.size ≤ gr) := Nat.le_trans HBW.out.size nn.ge
       replace HX : Hid (Blk y2 gx (cb x) 23) := HX.out.below nn.below HX.out.lt
       replace HBW : Hid (Below w.heap.size w y2) := HBW.out.trans (nn.below.mono HBW.out.size)
       have HB : Hid (Blk y2 gr (cb zb32) 23) := nn.blk
       clear nn)
    | (clear tk2; with_reducible refine wpSeq_loadD (.tmp 2) gx x ?_ ?_ ?_ ?_ ?_ ?_
       · exact HN.out.1
       · exact HX.out
       · rfl
       · rfl
       · rfl)
    | (clear tk3; go_at_call 35; refine (HC1.out y2 HBW.out).mono ?_; rintro e y3 ⟨vt, rfl, hrt, hbz⟩
       replace HX : Hid (Blk y3 gx (cb x) 23) := HX.out.below hbz HX.out.lt
       replace HB : Hid (Blk y3 gr (cb zb32) 23) := HB.out.below hbz HB.out.lt
       replace HBW : Hid (Below w.heap.size w y3) := HBW.out.trans (hbz.mono HBW.out.size)
       have HT : Hid (Reads y3 vt t) := hrt
       clear hbz hrt)
    | (clear tk4; go_at_call 30; refine (HC2.out y3 HBW.out vt HT.out).mono ?_; rintro e y4 ⟨rfl, hbz⟩
       replace HX : Hid (Blk y4 gx (cb x) 23) := HX.out.below hbz HX.out.lt
       replace HB : Hid (Blk y4 gr (cb zb32) 23) := HB.out.below hbz HB.out.lt
       replace HBW : Hid (Below w.heap.size w y4) := HBW.out.trans (hbz.mono HBW.out.size)
       clear hbz )
    | (clear tk5; with_reducible refine wpSeq_storeD (.tmp 4) (.tmp 8) gr zb32 r ?_ ?_ ?_ ?_ ?_ ?_ ?_ ?_
       · rfl
       · exact HRL.out
       · exact HB.out
       · rfl
       · rfl
       · rfl
       · rfl
       intro W9 h9))
  exact bodyPost_ret (v := .agg (cb r).toArray) (results_cell_row (by rfl) _ _ gr 23 _ (0, 0) _ rfl h9.blk Tryd.underlying23 rfl (by rw [List.size_toArray, cb_len, HRL.out]; exact info_digest)) rfl ⟨by rw [HRD.out], HBW.out.trans (h9.only.below HGR.out HBW.out.size)⟩
end Go.Proofs.YtfbdnhadcnmfoaaDoor
/- The walk of lamport's Sign (layer 10): a loop over path.Bits. -/
namespace Go.Proofs.YtfbdnhadcnmfoaaDoor
open Go.RowKit Go.Shelf
set_option maxRecDepth 100000
attribute [local go_sem] Oper.semAt_some
def signF (P : Nat → Bool → List (BitVec 8)) (on : Nat → Bool) (pre : List {k : Nat // k < 256}) : List (BitVec 8) := (pre.map fun q => P q.1 (on q.1) ++ dig (P q.1 (!on q.1))).flatten
theorem signF_snoc (P : Nat → Bool → List (BitVec 8)) (on : Nat → Bool) (pre : List {k : Nat // k < 256}) (q : {k : Nat // k < 256}) : signF P on (pre ++ [q]) = signF P on pre ++ P q.1 (on q.1) ++ dig (P q.1 (!on q.1)) := by simp [signF]
theorem signF_path (P : Nat → Bool → List (BitVec 8)) (on : Nat → Bool) (k : Nat) (h : k ≤ 256) : signF P on (pathT k) = signR P on k := by
  induction k with
  | zero => rfl
  | succ k ih => rw [pathT_succ k (by omega), signF_snoc, ih (by omega), signR, List.append_assoc]
theorem signF_len {P : Nat → Bool → List (BitVec 8)} (hP : ∀ i o, (P i o).length = 32) (on : Nat → Bool) (pre : List {k : Nat // k < 256}) : (signF P on pre).length = 64 * pre.length := by
  induction pre with
  | nil => rfl
  | cons q r ih =>
    have e : signF P on (q :: r) = (P q.1 (on q.1) ++ dig (P q.1 (!on q.1))) ++ signF P on r := rfl
    rw [e, List.length_append, List.length_append, hP, len_dig', ih, List.length_cons]
    omega
theorem wpSeq_boxN {ops : Array Oper} {Q : Exit → Act → World → Prop} {rest : List Oper} {o : Oper} {a : Act} {w : World} (ty : TypeId) (x : Operand) (k : IntKind) (n : Int) (ho : o.op = .box ty x) (hx : a.eval x = .int k n) (hw : Region.wanted o (yielded ops a.tmps) = true)
    (h : ∀ g w', NewC (.int k n) ty w g w' → wpList Tryd.prog ops Q rest (a.put o.dst (.pointer (some ⟨g, 0, none⟩))) w') : wpList Tryd.prog ops Q (o :: rest) a w :=
  wpSeq_val _ _ hw (by unfold execOp; rw [ho]; simp only [hx]; rfl) (h _ _ (NewC.of (.int k n) ty w))
theorem wpSeq_allocB {ops : Array Oper} {Q : Exit → Act → World → Prop} {rest : List Oper} {o : Oper} {a : Act} {w : World} (ho : o.op = .alloc 29) (hw : Region.wanted o (yielded ops a.tmps) = true)
    (h : ∀ g w', NewC (.slice none 0 0) 29 w g w' → wpList Tryd.prog ops Q rest (a.put o.dst (.pointer (some ⟨g, 0, none⟩))) w') : wpList Tryd.prog ops Q (o :: rest) a w :=
  wpSeq_val _ _ hw (by unfold execOp; rw [ho]; kernel_rfl) (h _ _ (NewC.of (.slice none 0 0) 29 w))
/-- a slice put into its box -/
theorem OwnB.boxed {y : World} {base gO : Nat} {v v' u : Value} {l : List (BitVec 8)} (h : OwnB y base v' l) (hb : Blk y gO [v] 29) : OwnB (y.setCell ⟨gO, 0, none⟩ u) base v' l := by
  have ho : Only gO y (y.setCell ⟨gO, 0, none⟩ u) := Only.setCell (Only.refl gO y) 0 u
  have hne := h.ne hb (by decide)
  obtain ⟨e1, e2⟩ := h
  refine ⟨e1, ?_⟩
  rcases e2 with e2 | ⟨g, cap, cur, rfl, hg2, hh, r⟩
  · exact Or.inl e2
  · refine Or.inr ⟨g, cap, cur, rfl, hg2, ?_, r⟩
    rw [ho.block g (fun e => hne (by rw [e]; rfl)) (Array.getElem?_eq_some_iff.1 hh).1]
    exact hh
theorem RoI.kept {w W y y1 : World} {gO : Nat} {l l' : List (BitVec 8)} {v v' : Value} (h : RoI w gO l W y) (hgO : w.heap.size ≤ gO) (h1 : Blk y gO [v] 29) (hk : KeptB w.heap.size y y1) (h3 : OwnB y1 w.heap.size v' l') : RoI w gO l' W (y1.setCell ⟨gO, 0, none⟩ v') := by
  have hb := hk.blk gO [v] _ (by decide) h1
  exact ⟨⟨v', by simpa using hb.set 0 v', h3.boxed hb⟩, (h.bel.trans hk.bel).trans ((Only.setCell (Only.refl gO y1) 0 v').below hgO (Nat.le_trans h.bel.size hk.bel.size)), (h.kp.trans hk.oth).trans (KeepsOthers.setCell _ _ _)⟩
theorem KeptB.boxed {base : Nat} {y y1 : World} {gO g : Nat} {v' : Value} {cs : List Value} {t : TypeId} (hk : KeptB base y y1) (h : Blk y g cs t) (ht : t ≠ 5) (hne : g ≠ gO) : Blk (y1.setCell ⟨gO, 0, none⟩ v') g cs t :=
  (hk.blk g cs t ht h).only (Only.setCell (Only.refl gO y1) 0 v') hne
theorem blk_ne {y : World} {g gO : Nat} {cs ds : List Value} {t u : TypeId} (h : Blk y g cs t) (h1 : Blk y gO ds u) (ht : t ≠ u) : g ≠ gO := by
  rintro rfl
  unfold Blk at h h1
  rw [h] at h1
  simp only [Option.some.injEq, Obj.cells.injEq] at h1
  exact ht h1.2.1
/-- a slice of bytes stored into its box -/
theorem wpSeq_storeS {ops : Array Oper} {Q : Exit → Act → World → Prop} {rest : List Oper} {o : Oper} {a : Act} {w : World} (x y : Operand) (gO : Nat) (v : Value) (ad : Option Addr) (n c : Nat) (hb : Blk w gO [v] 29) (ho : o.op = .store 29 x y) (hx : a.eval x = .pointer (some ⟨gO, 0, none⟩)) (hy : a.eval y = .slice ad n c) (hw : Region.wanted o (yielded ops a.tmps) = true)
    (h : ∀ w', w' = w.setCell ⟨gO, 0, none⟩ (.slice ad n c) → wpList Tryd.prog ops Q rest (a.put o.dst undef) w') : wpList Tryd.prog ops Q (o :: rest) a w := by
  have hc : w.cell? ⟨gO, 0, none⟩ = some v := hb.cell 0
  have hf : w.frozen? ⟨gO, 0, none⟩ = false := hb.frozen 0
  have he : (execOp a.eval o).run Tryd.prog w = .ok .skip (w.setCell ⟨gO, 0, none⟩ (.slice ad n c)) := by
    clear h hw
    generalize a.eval = f at hx hy ⊢
    unfold execOp
    rw [ho]
    simp [go_sem, hx, hy, hc, hf]
  unfold wpList
  simp only [hw, if_true]
  left
  unfold Oper.wp
  rw [he, Oper.upon_skip]
  exact h _ rfl
set_option maxRecDepth 100000 in
set_option maxHeartbeats 8000000 in
theorem lSign_own (x : List (BitVec 8)) (key : Nat) (vb : Value) (b : List (BitVec 8)) (w : World) (hK : KOk w) (hn : x.length = 32 ∧ key < 18446744073709551616) (hb : Reads w vb b) (hl : b.length < 140737488350000) :
    Calls Tryd.prog 25 #[.agg (cb x).toArray, .int .u64 (key : Int), vb] w fun e w' => ∃ v, e = .returned v ∧ OwnB w' w.heap.size v (signR (partB x key) (bt (dig b)) 256) ∧ Below w.heap.size w w' := by
  obtain ⟨P, HP⟩ : ∃ P, Hid (P = partB x key) := ⟨_, rfl⟩
  have HPP : Hid (∀ i o, (P i o).length = 32) := fun i o => by rw [HP.out]; exact len_partB _ _ _ _
  obtain ⟨d, HDD⟩ : ∃ d, Hid (d = dig b) := ⟨_, rfl⟩
  have HDL : Hid (d.length = 32) := by show _ = _; rw [HDD.out]; exact len_dig' _
  have HC0 : Hid (∀ W : World, Below w.heap.size w W → Calls Tryd.prog 30 #[vb] W fun e w' => e = .returned (.agg (cb d).toArray) ∧ Below W.heap.size W w') := fun W hh => by rw [HDD.out]; exact tOf_any vb b W (hK.below hh hK.lt) (hb.below hh) (by omega)
  have HC2 : Hid (∀ W : World, Below w.heap.size w W → ∀ (i : Nat) (o : Bool), i < 256 → Calls Tryd.prog 38 #[.agg (cb x).toArray, .int .u64 (key : Int), .int .i64 (i : Int), .int .i64 (sdI o)] W fun e w' => e = .returned (.agg (cb (P i o)).toArray) ∧ Below W.heap.size W w') := fun W hh i o hi => by rw [HP.out]; exact key_any x key i o W (hK.below hh hK.lt) ⟨hn.1, hn.2, hi⟩
  have HC3 : Hid (∀ W : World, Below w.heap.size w W → ∀ (i : Nat) (o : Bool), i < 256 → Calls Tryd.prog 39 #[.agg (cb x).toArray, .int .u64 (key : Int), .int .i64 (i : Int), .int .i64 (sdI o)] W fun e w' => e = .returned (.agg (cb (dig (P i o))).toArray) ∧ Below W.heap.size W w') := fun W hh i o hi => by rw [HP.out]; exact lHidden_any x key i o W (hK.below hh hK.lt) ⟨hn.1, hn.2, hi⟩
  rw [← HP.out, ← HDD.out]
  have HN : Hid (x.length = 32 ∧ key < 18446744073709551616) := hn
  have HBW : Hid (Below w.heap.size w w) := Below.refl _ _
  obtain ⟨ab, cbb, hvb, hqb⟩ := id hb
  clear hqb
  obtain ⟨nb, HNB⟩ : ∃ n, Hid (n = b.length) := ⟨_, rfl⟩
  rw [← HNB.out] at hvb
  subst hvb
  clear hn HP HDD hb hl hK
  refine (callsIn_wide (n := 4)).1 ?_
  refine callsIn_of_wp_marks Tryd.func25 rfl trivial ?_ rfl
  simp only [Tryd.ntmps25, List.size_toArray, List.length_cons, List.length_nil, Nat.reduceAdd, Nat.reduceSub, Array.replicate_succ, Array.replicate_zero, List.push_toArray, List.append_toArray, List.nil_append, List.cons_append]
  refine wpIn_wide.2 ?_
  go_wp2_with (first
    | (with_reducible refine wpSeq_boxD (.tmp 0) x ?_ ?_ ?_ ?_
       · rfl
       · rfl
       · rfl
       intro gx w1 nn
       have HX : Hid (Blk w1 gx (cb x) 23) := nn.blk
       replace HBW : Hid (Below w.heap.size w w1) := HBW.out.trans (nn.below.mono HBW.out.size)
       clear nn)
    | (with_reducible refine wpSeq_boxN 24 (.tmp 1) .u64 (key : Int) ?_ ?_ ?_ ?_
       · rfl
       · rfl
       · rfl
       intro gk w2 nn
       replace HX : Hid (Blk w2 gx (cb x) 23) := HX.out.below nn.below HX.out.lt
       replace HBW : Hid (Below w.heap.size w w2) := HBW.out.trans (nn.below.mono HBW.out.size)
       have HKB : Hid (Blk w2 gk [.int .u64 (key : Int)] 24) := nn.blk
       clear nn)
    | (with_reducible refine wpSeq_make (.const (.int .i64 0)) (.const (.int .i64 16384)) 0 16384 ?_ ?_ ?_ ?_ ?_ ?_ ?_
       · decide
       · decide
       · rfl
       · rfl
       · rfl
       · rfl
       intro gm w3 z hz hge hzb hzl
       have HM : Hid (OwnB w3 w.heap.size (.slice (some ⟨gm, 0, none⟩) 0 16384) []) := own_of_blk (k := 0) hzb (Nat.le_trans HBW.out.size hge) (by rw [hz, List.length_replicate]) (by decide) (by decide)
       replace HX : Hid (Blk w3 gx (cb x) 23) := HX.out.below hzl HX.out.lt
       replace HKB : Hid (Blk w3 gk [.int .u64 (key : Int)] 24) := HKB.out.below hzl HKB.out.lt
       replace HBW : Hid (Below w.heap.size w w3) := HBW.out.trans (hzl.mono HBW.out.size)
       clear hz hge hzb hzl)
    | (with_reducible refine wpSeq_allocB ?_ ?_ ?_
       · rfl
       · rfl
       intro gO w4 nn
       have HGO : Hid (w.heap.size ≤ gO) := Nat.le_trans HBW.out.size nn.ge
       have HNX : Hid (gx ≠ gO ∧ gk ≠ gO) := by have h1 := HX.out.lt; have h2 := HKB.out.lt; have h3 := nn.ge; exact ⟨by omega, by omega⟩
       replace HX : Hid (Blk w4 gx (cb x) 23) := HX.out.below nn.below HX.out.lt
       replace HKB : Hid (Blk w4 gk [.int .u64 (key : Int)] 24) := HKB.out.below nn.below HKB.out.lt
       replace HM : Hid (OwnB w4 w.heap.size (.slice (some ⟨gm, 0, none⟩) 0 16384) []) := HM.out.below nn.below (Nat.le_refl _)
       replace HBW : Hid (Below w.heap.size w w4) := HBW.out.trans (nn.below.mono HBW.out.size)
       have HO : Hid (Blk w4 gO [.slice none 0 0] 29) := nn.blk
       clear nn)
    | (with_reducible refine wpSeq_storeS (.tmp 7) (.tmp 12) gO (.slice none 0 0) (some ⟨gm, 0, none⟩) 0 16384 ?_ ?_ ?_ ?_ ?_ ?_
       · exact HO.out
       · rfl
       · rfl
       · rfl
       · rfl
       intro w5 h5
       subst h5
       have hon := Only.setCell (Only.refl gO w4) 0 (.slice (some ⟨gm, 0, none⟩) 0 16384)
       replace HM : Hid (OutI w.heap.size gO [] (w4.setCell ⟨gO, 0, none⟩ (.slice (some ⟨gm, 0, none⟩) 0 16384))) := ⟨_, by simpa using HO.out.set 0 (.slice (some ⟨gm, 0, none⟩) 0 16384), HM.out.boxed HO.out⟩
       replace HX : Hid (Blk (w4.setCell ⟨gO, 0, none⟩ (.slice (some ⟨gm, 0, none⟩) 0 16384)) gx (cb x) 23) := HX.out.only hon HNX.out.1
       replace HKB : Hid (Blk (w4.setCell ⟨gO, 0, none⟩ (.slice (some ⟨gm, 0, none⟩) 0 16384)) gk [.int .u64 (key : Int)] 24) := HKB.out.only hon HNX.out.2
       replace HBW : Hid (Below w.heap.size w (w4.setCell ⟨gO, 0, none⟩ (.slice (some ⟨gm, 0, none⟩) 0 16384))) := HBW.out.trans (hon.below HGO.out HBW.out.size)
       clear hon HO
       have HO : Hid (OutI w.heap.size gO [] (w4.setCell ⟨gO, 0, none⟩ (.slice (some ⟨gm, 0, none⟩) 0 16384))) := HM.out
       clear HM
       generalize w4.setCell ⟨gO, 0, none⟩ (.slice (some ⟨gm, 0, none⟩) 0 16384) = w5 at *)
    | (go_at_call 30; refine (HC0.out _ HBW.out).mono ?_; rintro e w6 ⟨rfl, hbz⟩
       replace HX : Hid (Blk w6 gx (cb x) 23) := HX.out.below hbz HX.out.lt
       replace HKB : Hid (Blk w6 gk [.int .u64 (key : Int)] 24) := HKB.out.below hbz HKB.out.lt
       replace HO : Hid (OutI w.heap.size gO [] w6) := HO.out.next hbz
       replace HBW : Hid (Below w.heap.size w w6) := HBW.out.trans (hbz.mono HBW.out.size)
       clear hbz)
    | (go_at_call 36; refine (pBits_any d _).mono ?_; rintro e w7 ⟨g3, rfl, nn⟩
       replace HX : Hid (Blk w7 gx (cb x) 23) := HX.out.below nn.below HX.out.lt
       replace HKB : Hid (Blk w7 gk [.int .u64 (key : Int)] 24) := HKB.out.below nn.below HKB.out.lt
       replace HO : Hid (OutI w.heap.size gO [] w7) := HO.out.next nn.below
       replace HBW : Hid (Below w.heap.size w w7) := HBW.out.trans (nn.below.mono HBW.out.size)
       have H3 : Hid (Blk w7 g3 (cb d) 23) := nn.blk
       clear nn))
  refine (wpIn_wide (n := 4)).1 ?_
  refine wpIn_rangeFunc_ownF (F := Fence.wide) rfl (by omega) (gf := 52) (lb := #[.pointer (some ⟨g3, 0, none⟩)]) rfl trivial (enters_of Tryd.func52 (by kernel_rfl) rfl)
    (bits_told 3 (by omega) g3 d HDL.out w7 H3.out) (fun _ _ => trivial) (fun _ _ _ _ _ _ _ _ => trivial) (Below.refl _ _) (fun _ => rfl)
    (fun pre W => OutI w.heap.size gO (signF P (bt d) pre) W ∧ Blk W gx (cb x) 23 ∧ Blk W gk [.int .u64 (key : Int)] 24 ∧ Below w.heap.size w W) (fun _ _ _ => False)
    (OwnFrom.and (Own.from (OutI.own w.heap.size gO (signF P (bt d))) _) (OwnFrom.and (Own.from (blk_own gx (fun _ => cb x) 23) _) (OwnFrom.and (Own.from (blk_own gk (fun _ => [.int .u64 (key : Int)]) 24) _) (ownFrom_below (Nat.le_refl _) HBW.out.size))))
    (fun c s X Y row hs _ _ => hs.elim)
    ⟨HO.out, HX.out, HKB.out, HBW.out⟩
    (fun z => { tmps := #[.agg (cb x).toArray, .int .u64 (key : Int), .slice ab nb cbb, .pointer (some ⟨gx, 0, none⟩), .pointer (some ⟨gk, 0, none⟩), undef, .slice none 0 0, .pointer (some ⟨gO, 0, none⟩), .int .i64 (z.1 : Int), .bool (bt d z.1), undef, undef, .slice (some ⟨gm, 0, none⟩) 0 16384, .slice ab nb cbb, .agg (cb d).toArray, .func (.func 52) #[] #[.pointer (some ⟨g3, 0, none⟩)], .int .i64 (z.1 : Int), .bool (bt d z.1), undef, undef, undef, undef, undef, undef, undef, undef, undef, undef, undef, undef, undef, undef], defers := [] }) ?assign ?body ?done ?stop
  case assign =>
    intro l z W K hK
    gi_wp2
    exact hK
  case body =>
    clear HX HKB HO H3 HNX
    rintro l pre z W ⟨hO, hX, hKb, hB⟩ hlen
    obtain ⟨lo, HLO⟩ : ∃ lo, Hid (lo = signF P (bt d) pre) := ⟨_, rfl⟩
    have HLL : Hid (lo.length < 16384) := by show _ < _; rw [HLO.out, signF_len HPP.out]; omega
    have HX : Hid (Blk W gx (cb x) 23) := hX
    have HKB : Hid (Blk W gk [.int .u64 (key : Int)] 24) := hKb
    have HRO : Hid (RoI w gO lo W W) := ⟨by rw [HLO.out]; exact hO, hB, KeepsOthers.refl _⟩
    have HSN : Hid (signF P (bt d) (pre ++ [z]) = lo ++ P z.1 (bt d z.1) ++ dig (P z.1 (!bt d z.1))) := by rw [HLO.out]; exact signF_snoc _ _ _ _
    obtain ⟨o, HOO⟩ : ∃ o, Hid (o = bt d z.1) := ⟨_, rfl⟩
    rw [← HOO.out] at HSN
    simp only [← HOO.out]
    clear hO hX hKb hB HLO hlen HOO
    cases o with
    | true =>
      obtain ⟨pa, HPA⟩ : ∃ p, Hid (p = P z.1 true) := ⟨_, rfl⟩
      have HPAL : Hid (pa.length = 32) := by show _ = _; rw [HPA.out]; exact HPP.out _ _
      obtain ⟨pb, HPB⟩ : ∃ p, Hid (p = dig (P z.1 false)) := ⟨_, rfl⟩
      have HPBL : Hid (pb.length = 32) := by show _ = _; rw [HPB.out]; exact len_dig' _
      have HS2 : Hid (signF P (bt d) (pre ++ [z]) = lo ++ pa ++ pb) := by show _ = _; rw [HSN.out, HPA.out, HPB.out]; rfl
      clear HSN
      gi_wp2
      refine wpIn_round_held (S := fun W => Blk W gx (cb x) 23 ∧ Blk W gk [.int .u64 (key : Int)] 24) (by kernel_rfl) (by kernel_rfl) (by rintro ⟨_, _, h⟩; exact h) ⟨HX.out.drew, HKB.out.drew⟩ ?_
      intro hS
      replace HRO : Hid (RoI w gO lo W (World.drew W)) := HRO.out.drew
      clear HX HKB
      change wpAnyH _ _ _ _ _ _ _ _ (World.drew W)
      generalize World.drew W = q at *
      obtain ⟨v, hv, ho⟩ := HRO.out.out
      obtain ⟨aq, cq, hf1⟩ := ho.form
      obtain ⟨nq, HNQ⟩ : ∃ n, Hid (n = lo.length) := ⟨_, rfl⟩
      rw [← HNQ.out] at hf1
      subst hf1
      have hcq : q.cell? ⟨gO, 0, none⟩ = some (.slice aq nq cq) := hv.cell 0
      try simp only [Act.put, List.setIfInBounds_toArray, List.set_cons_zero, List.set_cons_succ]
      refine wpAnyH_take (i := 1) (v := .agg (cb x).toArray) rfl (by kernel_rfl) (by kernel_rfl) (by kernel_rfl) (fun _ _ _ h => h) (Or.inl ⟨by rfl, fun wx hx => by exact loadDigest _ gx x HN.out.1 hx.1 rfl rfl⟩) hS ?_
      simp only [Act.put, List.getElem_toArray, List.getElem_cons_succ, List.getElem_cons_zero, List.setIfInBounds_toArray, List.set_cons_zero, List.set_cons_succ]
      refine wpAnyH_take (i := 2) (v := .int .u64 (key : Int)) rfl (by kernel_rfl) (by kernel_rfl) (by kernel_rfl) (fun _ _ _ h => h) (Or.inl ⟨by rfl, fun wx hx => by (have ck : wx.cell? ⟨gk, 0, none⟩ = some (.int .u64 (key : Int)) := hx.2.cell 0); simp [go_sem, ck]⟩) hS ?_
      simp only [Act.put, List.getElem_toArray, List.getElem_cons_succ, List.getElem_cons_zero, List.setIfInBounds_toArray, List.set_cons_zero, List.set_cons_succ]
      refine wpAnyH_take (i := 3) (v := .int .i64 (z.1 : Int)) rfl (by kernel_rfl) (by kernel_rfl) (by kernel_rfl) (fun _ _ _ h => h) (Or.inl ⟨by rfl, fun wx hx => by simp [go_sem]⟩) hS ?_
      simp only [Act.put, List.getElem_toArray, List.getElem_cons_succ, List.getElem_cons_zero, List.setIfInBounds_toArray, List.set_cons_zero, List.set_cons_succ]
      refine wpAnyH_take (i := 4) (v := .int .i64 1) rfl (by kernel_rfl) (by kernel_rfl) (by kernel_rfl) (fun _ _ _ h => h) (Or.inl ⟨by rfl, fun wx hx => by simp [go_sem]⟩) hS ?_
      simp only [Act.put, List.getElem_toArray, List.getElem_cons_succ, List.getElem_cons_zero, List.setIfInBounds_toArray, List.set_cons_zero, List.set_cons_succ]
      refine wpAnyH_take (i := 6) (v := .agg (cb x).toArray) rfl (by kernel_rfl) (by kernel_rfl) (by kernel_rfl) (fun _ _ _ h => h) (Or.inl ⟨by rfl, fun wx hx => by exact loadDigest _ gx x HN.out.1 hx.1 rfl rfl⟩) hS ?_
      simp only [Act.put, List.getElem_toArray, List.getElem_cons_succ, List.getElem_cons_zero, List.setIfInBounds_toArray, List.set_cons_zero, List.set_cons_succ]
      refine wpAnyH_take (i := 7) (v := .int .u64 (key : Int)) rfl (by kernel_rfl) (by kernel_rfl) (by kernel_rfl) (fun _ _ _ h => h) (Or.inl ⟨by rfl, fun wx hx => by (have ck : wx.cell? ⟨gk, 0, none⟩ = some (.int .u64 (key : Int)) := hx.2.cell 0); simp [go_sem, ck]⟩) hS ?_
      simp only [Act.put, List.getElem_toArray, List.getElem_cons_succ, List.getElem_cons_zero, List.setIfInBounds_toArray, List.set_cons_zero, List.set_cons_succ]
      refine wpAnyH_take (i := 8) (v := .int .i64 (z.1 : Int)) rfl (by kernel_rfl) (by kernel_rfl) (by kernel_rfl) (fun _ _ _ h => h) (Or.inl ⟨by rfl, fun wx hx => by simp [go_sem]⟩) hS ?_
      simp only [Act.put, List.getElem_toArray, List.getElem_cons_succ, List.getElem_cons_zero, List.setIfInBounds_toArray, List.set_cons_zero, List.set_cons_succ]
      refine wpAnyH_take (i := 9) (v := .int .i64 0) rfl (by kernel_rfl) (by kernel_rfl) (by kernel_rfl) (fun _ _ _ h => h) (Or.inl ⟨by rfl, fun wx hx => by simp [go_sem]⟩) hS ?_
      simp only [Act.put, List.getElem_toArray, List.getElem_cons_succ, List.getElem_cons_zero, List.setIfInBounds_toArray, List.set_cons_zero, List.set_cons_succ]
      refine wpAnyH_readC2 0 5 10 (.slice aq nq cq) (f := 38) (args := #[.agg (cb x).toArray, .int .u64 (key : Int), .int .i64 (z.1 : Int), .int .i64 1]) (by kernel_rfl) rfl rfl rfl (by rfl) (by rfl) (fun _ => by rfl) (fun _ _ => by rfl) (by rfl) (fun _ => by rfl) (fun _ => by rfl) (by simp [go_sem, hcq]) (by simp [go_sem]) (by simp [go_sem]) (HC2.out _ HRO.out.bel z.1 true z.2) (by kernel_rfl) (by kernel_rfl) (by kernel_rfl) (by kernel_rfl) (fun _ => by rfl) (fun _ _ => by rfl) (by rfl) (by rfl) hS ?_
      rintro e y1 ⟨rfl, hbq⟩
      rw [← HPA.out]
      clear hcq
      replace HRO : Hid (RoI w gO lo W y1) := HRO.out.next hbq
      replace hS : Blk y1 gx (cb x) 23 ∧ Blk y1 gk [.int .u64 (key : Int)] 24 := ⟨hS.1.below hbq hS.1.lt, hS.2.below hbq hS.2.lt⟩
      replace ho : OwnB y1 w.heap.size (.slice aq nq cq) lo := ho.below hbq (Nat.le_refl _)
      replace hv : Blk y1 gO [.slice aq nq cq] 29 := hv.below hbq hv.lt
      have hcy1 : y1.cell? ⟨gO, 0, none⟩ = some (.slice aq nq cq) := hv.cell 0
      clear hbq
      refine ⟨_, rfl, hS, by simp [go_sem, hcy1], 39, #[.agg (cb x).toArray, .int .u64 (key : Int), .int .i64 (z.1 : Int), .int .i64 0], _, by simp [go_sem], by simp [go_sem], HC3.out _ HRO.out.bel z.1 false z.2, ?_⟩
      rintro e y2 ⟨rfl, hbq⟩
      rw [← HPB.out]
      clear hcy1
      replace HRO : Hid (RoI w gO lo W y2) := HRO.out.next hbq
      replace hS : Blk y2 gx (cb x) 23 ∧ Blk y2 gk [.int .u64 (key : Int)] 24 := ⟨hS.1.below hbq hS.1.lt, hS.2.below hbq hS.2.lt⟩
      replace ho : OwnB y2 w.heap.size (.slice aq nq cq) lo := ho.below hbq (Nat.le_refl _)
      replace hv : Blk y2 gO [.slice aq nq cq] 29 := hv.below hbq hv.lt
      have hcy2 : y2.cell? ⟨gO, 0, none⟩ = some (.slice aq nq cq) := hv.cell 0
      clear hbq
      refine ⟨_, rfl, hS, by simp [go_sem, hcy2], ?_⟩
      simp only [Act.put, List.getElem_toArray, List.getElem_cons_succ, List.getElem_cons_zero, List.setIfInBounds_toArray, List.set_cons_zero, List.set_cons_succ]
      refine wpAnyH_enter 11 (by kernel_rfl) rfl (by rfl) (f := 37) (args := #[.slice aq nq cq, .agg (cb pa).toArray, .agg (cb pb).toArray]) (by simp [go_sem]) (lPut_any (.slice aq nq cq) lo pa pb w.heap.size y2 HRO.out.bel.size ho HPAL.out HPBL.out (by have := HLL.out; omega)) ?_
      rintro e y3 ⟨v9, rfl, ho9, hk9⟩
      obtain ⟨a9, c9, hv9⟩ := ho9.form
      obtain ⟨n9, HN9⟩ : ∃ n, Hid (n = (lo ++ pa ++ pb).length) := ⟨_, rfl⟩
      rw [← HN9.out] at hv9
      subst hv9
      have hb3 : Blk y3 gO [.slice aq nq cq] 29 := hk9.blk _ _ _ (by decide) hv
      have hc3 : y3.cell? ⟨gO, 0, none⟩ = some (.slice aq nq cq) := hb3.cell 0
      have hf3 : y3.frozen? ⟨gO, 0, none⟩ = false := hb3.frozen 0
      have hro := HRO.out.kept HGO.out hv hk9 ho9
      have hS2 : Blk (y3.setCell ⟨gO, 0, none⟩ (.slice a9 n9 c9)) gx (cb x) 23 ∧ Blk (y3.setCell ⟨gO, 0, none⟩ (.slice a9 n9 c9)) gk [.int .u64 (key : Int)] 24 := ⟨hk9.boxed hS.1 (by decide) (blk_ne hS.1 hv (by decide)), hk9.boxed hS.2 (by decide) (blk_ne hS.2 hv (by decide))⟩
      refine ⟨_, rfl, ⟨hk9.blk _ _ _ (by decide) hS.1, hk9.blk _ _ _ (by decide) hS.2⟩, ?_⟩
      simp only [Act.put, List.getElem_toArray, List.getElem_cons_succ, List.getElem_cons_zero, List.setIfInBounds_toArray, List.set_cons_zero, List.set_cons_succ]
      refine wpAnyH_skip 12 (y3.setCell ⟨gO, 0, none⟩ (.slice a9 n9 c9)) (by kernel_rfl) rfl (by rfl) (by simp [go_sem, hc3, hf3]) hS2 ?_
      simp only [Act.put, List.getElem_toArray, List.getElem_cons_succ, List.getElem_cons_zero]
      refine wpAnyH_done (by kernel_rfl) ?_ _
      exact ⟨hro.kp, trivial, by rw [HS2.out]; exact hro.out, hS2.1, hS2.2, hro.bel⟩
    | false =>
      obtain ⟨pa, HPA⟩ : ∃ p, Hid (p = P z.1 false) := ⟨_, rfl⟩
      have HPAL : Hid (pa.length = 32) := by show _ = _; rw [HPA.out]; exact HPP.out _ _
      obtain ⟨pb, HPB⟩ : ∃ p, Hid (p = dig (P z.1 true)) := ⟨_, rfl⟩
      have HPBL : Hid (pb.length = 32) := by show _ = _; rw [HPB.out]; exact len_dig' _
      have HS2 : Hid (signF P (bt d) (pre ++ [z]) = lo ++ pa ++ pb) := by show _ = _; rw [HSN.out, HPA.out, HPB.out]; rfl
      clear HSN
      gi_wp2
      refine wpIn_round_held (S := fun W => Blk W gx (cb x) 23 ∧ Blk W gk [.int .u64 (key : Int)] 24) (by kernel_rfl) (by kernel_rfl) (by rintro ⟨_, _, h⟩; exact h) ⟨HX.out.drew, HKB.out.drew⟩ ?_
      intro hS
      replace HRO : Hid (RoI w gO lo W (World.drew W)) := HRO.out.drew
      clear HX HKB
      change wpAnyH _ _ _ _ _ _ _ _ (World.drew W)
      generalize World.drew W = q at *
      obtain ⟨v, hv, ho⟩ := HRO.out.out
      obtain ⟨aq, cq, hf1⟩ := ho.form
      obtain ⟨nq, HNQ⟩ : ∃ n, Hid (n = lo.length) := ⟨_, rfl⟩
      rw [← HNQ.out] at hf1
      subst hf1
      have hcq : q.cell? ⟨gO, 0, none⟩ = some (.slice aq nq cq) := hv.cell 0
      try simp only [Act.put, List.setIfInBounds_toArray, List.set_cons_zero, List.set_cons_succ]
      refine wpAnyH_take (i := 1) (v := .agg (cb x).toArray) rfl (by kernel_rfl) (by kernel_rfl) (by kernel_rfl) (fun _ _ _ h => h) (Or.inl ⟨by rfl, fun wx hx => by exact loadDigest _ gx x HN.out.1 hx.1 rfl rfl⟩) hS ?_
      simp only [Act.put, List.getElem_toArray, List.getElem_cons_succ, List.getElem_cons_zero, List.setIfInBounds_toArray, List.set_cons_zero, List.set_cons_succ]
      refine wpAnyH_take (i := 2) (v := .int .u64 (key : Int)) rfl (by kernel_rfl) (by kernel_rfl) (by kernel_rfl) (fun _ _ _ h => h) (Or.inl ⟨by rfl, fun wx hx => by (have ck : wx.cell? ⟨gk, 0, none⟩ = some (.int .u64 (key : Int)) := hx.2.cell 0); simp [go_sem, ck]⟩) hS ?_
      simp only [Act.put, List.getElem_toArray, List.getElem_cons_succ, List.getElem_cons_zero, List.setIfInBounds_toArray, List.set_cons_zero, List.set_cons_succ]
      refine wpAnyH_take (i := 3) (v := .int .i64 (z.1 : Int)) rfl (by kernel_rfl) (by kernel_rfl) (by kernel_rfl) (fun _ _ _ h => h) (Or.inl ⟨by rfl, fun wx hx => by simp [go_sem]⟩) hS ?_
      simp only [Act.put, List.getElem_toArray, List.getElem_cons_succ, List.getElem_cons_zero, List.setIfInBounds_toArray, List.set_cons_zero, List.set_cons_succ]
      refine wpAnyH_take (i := 4) (v := .int .i64 0) rfl (by kernel_rfl) (by kernel_rfl) (by kernel_rfl) (fun _ _ _ h => h) (Or.inl ⟨by rfl, fun wx hx => by simp [go_sem]⟩) hS ?_
      simp only [Act.put, List.getElem_toArray, List.getElem_cons_succ, List.getElem_cons_zero, List.setIfInBounds_toArray, List.set_cons_zero, List.set_cons_succ]
      refine wpAnyH_take (i := 6) (v := .agg (cb x).toArray) rfl (by kernel_rfl) (by kernel_rfl) (by kernel_rfl) (fun _ _ _ h => h) (Or.inl ⟨by rfl, fun wx hx => by exact loadDigest _ gx x HN.out.1 hx.1 rfl rfl⟩) hS ?_
      simp only [Act.put, List.getElem_toArray, List.getElem_cons_succ, List.getElem_cons_zero, List.setIfInBounds_toArray, List.set_cons_zero, List.set_cons_succ]
      refine wpAnyH_take (i := 7) (v := .int .u64 (key : Int)) rfl (by kernel_rfl) (by kernel_rfl) (by kernel_rfl) (fun _ _ _ h => h) (Or.inl ⟨by rfl, fun wx hx => by (have ck : wx.cell? ⟨gk, 0, none⟩ = some (.int .u64 (key : Int)) := hx.2.cell 0); simp [go_sem, ck]⟩) hS ?_
      simp only [Act.put, List.getElem_toArray, List.getElem_cons_succ, List.getElem_cons_zero, List.setIfInBounds_toArray, List.set_cons_zero, List.set_cons_succ]
      refine wpAnyH_take (i := 8) (v := .int .i64 (z.1 : Int)) rfl (by kernel_rfl) (by kernel_rfl) (by kernel_rfl) (fun _ _ _ h => h) (Or.inl ⟨by rfl, fun wx hx => by simp [go_sem]⟩) hS ?_
      simp only [Act.put, List.getElem_toArray, List.getElem_cons_succ, List.getElem_cons_zero, List.setIfInBounds_toArray, List.set_cons_zero, List.set_cons_succ]
      refine wpAnyH_take (i := 9) (v := .int .i64 1) rfl (by kernel_rfl) (by kernel_rfl) (by kernel_rfl) (fun _ _ _ h => h) (Or.inl ⟨by rfl, fun wx hx => by simp [go_sem]⟩) hS ?_
      simp only [Act.put, List.getElem_toArray, List.getElem_cons_succ, List.getElem_cons_zero, List.setIfInBounds_toArray, List.set_cons_zero, List.set_cons_succ]
      refine wpAnyH_readC2 0 5 10 (.slice aq nq cq) (f := 38) (args := #[.agg (cb x).toArray, .int .u64 (key : Int), .int .i64 (z.1 : Int), .int .i64 0]) (by kernel_rfl) rfl rfl rfl (by rfl) (by rfl) (fun _ => by rfl) (fun _ _ => by rfl) (by rfl) (fun _ => by rfl) (fun _ => by rfl) (by simp [go_sem, hcq]) (by simp [go_sem]) (by simp [go_sem]) (HC2.out _ HRO.out.bel z.1 false z.2) (by kernel_rfl) (by kernel_rfl) (by kernel_rfl) (by kernel_rfl) (fun _ => by rfl) (fun _ _ => by rfl) (by rfl) (by rfl) hS ?_
      rintro e y1 ⟨rfl, hbq⟩
      rw [← HPA.out]
      clear hcq
      replace HRO : Hid (RoI w gO lo W y1) := HRO.out.next hbq
      replace hS : Blk y1 gx (cb x) 23 ∧ Blk y1 gk [.int .u64 (key : Int)] 24 := ⟨hS.1.below hbq hS.1.lt, hS.2.below hbq hS.2.lt⟩
      replace ho : OwnB y1 w.heap.size (.slice aq nq cq) lo := ho.below hbq (Nat.le_refl _)
      replace hv : Blk y1 gO [.slice aq nq cq] 29 := hv.below hbq hv.lt
      have hcy1 : y1.cell? ⟨gO, 0, none⟩ = some (.slice aq nq cq) := hv.cell 0
      clear hbq
      refine ⟨_, rfl, hS, by simp [go_sem, hcy1], 39, #[.agg (cb x).toArray, .int .u64 (key : Int), .int .i64 (z.1 : Int), .int .i64 1], _, by simp [go_sem], by simp [go_sem], HC3.out _ HRO.out.bel z.1 true z.2, ?_⟩
      rintro e y2 ⟨rfl, hbq⟩
      rw [← HPB.out]
      clear hcy1
      replace HRO : Hid (RoI w gO lo W y2) := HRO.out.next hbq
      replace hS : Blk y2 gx (cb x) 23 ∧ Blk y2 gk [.int .u64 (key : Int)] 24 := ⟨hS.1.below hbq hS.1.lt, hS.2.below hbq hS.2.lt⟩
      replace ho : OwnB y2 w.heap.size (.slice aq nq cq) lo := ho.below hbq (Nat.le_refl _)
      replace hv : Blk y2 gO [.slice aq nq cq] 29 := hv.below hbq hv.lt
      have hcy2 : y2.cell? ⟨gO, 0, none⟩ = some (.slice aq nq cq) := hv.cell 0
      clear hbq
      refine ⟨_, rfl, hS, by simp [go_sem, hcy2], ?_⟩
      simp only [Act.put, List.getElem_toArray, List.getElem_cons_succ, List.getElem_cons_zero, List.setIfInBounds_toArray, List.set_cons_zero, List.set_cons_succ]
      refine wpAnyH_enter 11 (by kernel_rfl) rfl (by rfl) (f := 37) (args := #[.slice aq nq cq, .agg (cb pa).toArray, .agg (cb pb).toArray]) (by simp [go_sem]) (lPut_any (.slice aq nq cq) lo pa pb w.heap.size y2 HRO.out.bel.size ho HPAL.out HPBL.out (by have := HLL.out; omega)) ?_
      rintro e y3 ⟨v9, rfl, ho9, hk9⟩
      obtain ⟨a9, c9, hv9⟩ := ho9.form
      obtain ⟨n9, HN9⟩ : ∃ n, Hid (n = (lo ++ pa ++ pb).length) := ⟨_, rfl⟩
      rw [← HN9.out] at hv9
      subst hv9
      have hb3 : Blk y3 gO [.slice aq nq cq] 29 := hk9.blk _ _ _ (by decide) hv
      have hc3 : y3.cell? ⟨gO, 0, none⟩ = some (.slice aq nq cq) := hb3.cell 0
      have hf3 : y3.frozen? ⟨gO, 0, none⟩ = false := hb3.frozen 0
      have hro := HRO.out.kept HGO.out hv hk9 ho9
      have hS2 : Blk (y3.setCell ⟨gO, 0, none⟩ (.slice a9 n9 c9)) gx (cb x) 23 ∧ Blk (y3.setCell ⟨gO, 0, none⟩ (.slice a9 n9 c9)) gk [.int .u64 (key : Int)] 24 := ⟨hk9.boxed hS.1 (by decide) (blk_ne hS.1 hv (by decide)), hk9.boxed hS.2 (by decide) (blk_ne hS.2 hv (by decide))⟩
      refine ⟨_, rfl, ⟨hk9.blk _ _ _ (by decide) hS.1, hk9.blk _ _ _ (by decide) hS.2⟩, ?_⟩
      simp only [Act.put, List.getElem_toArray, List.getElem_cons_succ, List.getElem_cons_zero, List.setIfInBounds_toArray, List.set_cons_zero, List.set_cons_succ]
      refine wpAnyH_skip 12 (y3.setCell ⟨gO, 0, none⟩ (.slice a9 n9 c9)) (by kernel_rfl) rfl (by rfl) (by simp [go_sem, hc3, hf3]) hS2 ?_
      simp only [Act.put, List.getElem_toArray, List.getElem_cons_succ, List.getElem_cons_zero]
      refine wpAnyH_done (by kernel_rfl) ?_ _
      exact ⟨hro.kp, trivial, by rw [HS2.out]; exact hro.out, hS2.1, hS2.2, hro.bel⟩
  case done =>
    rintro D ys W hD rfl ⟨hO, hX, hKb, hB⟩ hK
    rw [signF_path P (bt d) 256 (Nat.le_refl _)] at hO
    obtain ⟨v, hv, ho⟩ := hO
    have HD : Hid (w.heap.size ≤ D) := Nat.le_trans HBW.out.size hD
    have HOW : Hid (OwnB W w.heap.size v (signR P (bt d) 256)) := ho
    have HB : Hid (Below w.heap.size w W) := hB
    have HKD : Hid (W.heap[D]? = some (.deferred (some []))) := hK
    have cv : W.cell? ⟨gO, 0, none⟩ = some v := hv.cell 0
    clear hX hKb hB hK hD hv ho HX HKB HO H3 HBW HNX
    gi_wp2
    go_wp2
    refine ⟨by simp, .inl ⟨_, _, rfl, run_takeDeferred HKD.out, ?_⟩⟩
    refine ⟨v, ?_, _, rfl, HOW.out.kept (grownBy_putObj' _ D _) (fun r e => by cases e; exact ⟨_, HKD.out, rfl⟩), HB.out.trans (belowK_b (w := w) (Nat.le_refl _) _ D _ _ HD.out HKD.out rfl rfl)⟩
    simp [results, Tryd.f25, go_sem]
  case stop =>
    rintro D c pre W _ _ hX _
    exact hX.elim
theorem lSign_any (x : List (BitVec 8)) (key : Nat) (vb : Value) (b : List (BitVec 8)) (w : World) (hK : KOk w) (hn : x.length = 32 ∧ key < 18446744073709551616) (hb : Reads w vb b) (hl : b.length < 140737488350000) :
    Calls Tryd.prog 25 #[.agg (cb x).toArray, .int .u64 (key : Int), vb] w fun e w' => ∃ v, e = .returned v ∧ Reads w' v (signR (partB x key) (bt (dig b)) 256) ∧ Below w.heap.size w w' :=
  (lSign_own x key vb b w hK hn hb hl).mono fun _ _ ⟨v, h1, h2, h3⟩ => ⟨v, h1, h2.reads, h3⟩
end Go.Proofs.YtfbdnhadcnmfoaaDoor
/- The walk of lamport's Opened (layer 10): a loop over path.Bits that is gone on from by a label. -/
namespace Go.Proofs.YtfbdnhadcnmfoaaDoor
open Go.RowKit Go.Shelf
set_option maxRecDepth 100000
attribute [local go_sem] Oper.semAt_some
/-- what a list of places makes of a signature -/
def openB (on : Nat → Bool) (sig : List (BitVec 8)) (q : Nat) : List (BitVec 8) := if on q then blk32 sig (2 * q + 1) ++ dig (blk32 sig (2 * q)) else dig (blk32 sig (2 * q)) ++ blk32 sig (2 * q + 1)
def openF (on : Nat → Bool) (sig : List (BitVec 8)) (pre : List {k : Nat // k < 256}) : List (BitVec 8) := 80 :: (pre.map fun q => openB on sig q.1).flatten
theorem openF_snoc (on : Nat → Bool) (sig : List (BitVec 8)) (pre : List {k : Nat // k < 256}) (q : {k : Nat // k < 256}) : openF on sig (pre ++ [q]) = openF on sig pre ++ openB on sig q.1 := by simp [openF]
theorem openF_path (on : Nat → Bool) (sig : List (BitVec 8)) (k : Nat) (h : k ≤ 256) : openF on sig (pathT k) = openR on sig k := by
  induction k with
  | zero => rfl
  | succ k ih => rw [pathT_succ k (by omega), openF_snoc, ih (by omega), openR]; rfl
theorem openB_len (on : Nat → Bool) {sig : List (BitVec 8)} (h : sig.length = 16384) (q : {k : Nat // k < 256}) : (openB on sig q.1).length = 64 := by
  have h1 : (blk32 sig (2 * q.1 + 1)).length = 32 := len_blk32 (by have := q.2; omega)
  unfold openB
  split <;> rw [List.length_append, len_dig', h1]
theorem openF_len (on : Nat → Bool) {sig : List (BitVec 8)} (h : sig.length = 16384) (pre : List {k : Nat // k < 256}) : (openF on sig pre).length = 64 * pre.length + 1 := by
  unfold openF
  rw [List.length_cons]
  congr 1
  induction pre with
  | nil => rfl
  | cons q r ih => rw [List.map_cons, List.flatten_cons, List.length_append, openB_len on h, ih, List.length_cons]; omega
theorem noGoto_ret {Q : Exit → Act → World → Prop} {a : Act} {w : World} (h : Q .ret a w) : Exit.noGoto Q .ret a w := h
theorem wpSeq_boxS {ops : Array Oper} {Q : Exit → Act → World → Prop} {rest : List Oper} {o : Oper} {a : Act} {w : World} (x : Operand) (ad : Option Addr) (n c : Nat) (ho : o.op = .box 29 x) (hx : a.eval x = .slice ad n c) (hw : Region.wanted o (yielded ops a.tmps) = true)
    (h : ∀ g w', NewC (.slice ad n c) 29 w g w' → wpList Tryd.prog ops Q rest (a.put o.dst (.pointer (some ⟨g, 0, none⟩))) w') : wpList Tryd.prog ops Q (o :: rest) a w :=
  wpSeq_val _ _ hw (by unfold execOp; rw [ho]; simp only [hx]; rfl) (h _ _ (NewC.of (.slice ad n c) 29 w))
set_option maxRecDepth 100000 in
set_option maxHeartbeats 8000000 in
theorem lOpened_any (vb vs : Value) (b sig : List (BitVec 8)) (w : World) (hK : KOk w) (hb : Reads w vb b) (hs : Reads w vs sig) (hl : b.length < 140737488350000) :
    Calls Tryd.prog 46 #[vb, vs] w (OpenA w b sig) := by
  obtain ⟨ab, cbb, hvb, hqb⟩ := id hb
  clear hqb
  obtain ⟨nb, HNB⟩ : ∃ n, Hid (n = b.length) := ⟨_, rfl⟩
  rw [← HNB.out] at hvb
  by_cases h16 : sig.length = 16384
  · obtain ⟨bs, offs, cps, rfl⟩ : ∃ bs offs cps, vs = .slice (some ⟨bs, offs, none⟩) 16384 cps := by
      obtain ⟨ad', cp', hv', hc, _, hx⟩ := id hs
      obtain ⟨bs, offs, rfl, _⟩ := hx (by omega)
      rw [h16] at hv'
      exact ⟨bs, offs, cp', hv'⟩
    obtain ⟨d, HDD⟩ : ∃ d, Hid (d = dig b) := ⟨_, rfl⟩
    have HDL : Hid (d.length = 32) := by show _ = _; rw [HDD.out]; exact len_dig' _
    have HL : Hid (openL b sig = openR (bt d) sig 256 ∧ openE sig = 0) := by show _ ∧ _; rw [openL, openE, if_pos h16, if_pos h16, HDD.out]; exact ⟨rfl, rfl⟩
    have HSL : Hid (sig.length = 16384) := h16
    have HC0 : Hid (∀ W : World, Below w.heap.size w W → Calls Tryd.prog 30 #[vb] W fun e w' => e = .returned (.agg (cb d).toArray) ∧ Below W.heap.size W w') := fun W hh => by rw [HDD.out]; exact tOf_any vb b W (hK.below hh hK.lt) (hb.below hh) (by omega)
    have HC1 : Hid (∀ (W : World) (v : Value) (p : List (BitVec 8)), Below w.heap.size w W → p.length = 32 → Reads W v p → Calls Tryd.prog 30 #[v] W fun e w' => e = .returned (.agg (cb (dig p)).toArray) ∧ Below W.heap.size W w') := fun W v p hh hp hv => tOf_any v p W (hK.below hh hK.lt) hv (by rw [hp]; decide)
    have HC2 : Hid (∀ W : World, Below w.heap.size w W → ∀ i : Nat, i < 256 → Calls Tryd.prog 55 #[.slice (some ⟨bs, offs, none⟩) 16384 cps, .int .i64 (i : Int)] W fun e w' => e = .returned (.tuple #[.agg (cb (blk32 sig (2 * i))).toArray, .agg (cb (blk32 sig (2 * i + 1))).toArray]) ∧ Below W.heap.size W w') := fun W hh i hi => lHalves_any _ sig i W (hs.below hh) h16 hi
    have HBW : Hid (Below w.heap.size w w) := Below.refl _ _
    subst hvb
    clear hb hs hl h16 HDD hK
    refine (callsIn_wide (n := 4)).1 ?_
    refine callsIn_of_wp_marks Tryd.func46 rfl trivial ?_ rfl
    simp only [Tryd.ntmps46, List.size_toArray, List.length_cons, List.length_nil, Nat.reduceAdd, Nat.reduceSub, Array.replicate_succ, Array.replicate_zero, List.push_toArray, List.append_toArray, List.nil_append, List.cons_append]
    refine wpIn_wide.2 ?_
    go_wp2_with (first
    | (with_reducible refine wpSeq_boxS (.tmp 1) (some ⟨bs, offs, none⟩) 16384 cps ?_ ?_ ?_ ?_
       · rfl
       · rfl
       · rfl
       intro gS w1 nn
       have HSB : Hid (Blk w1 gS [.slice (some ⟨bs, offs, none⟩) 16384 cps] 29) := nn.blk
       have csb : w1.cell? ⟨gS, 0, none⟩ = some (.slice (some ⟨bs, offs, none⟩) 16384 cps) := nn.blk.cell 0
       replace HBW : Hid (Below w.heap.size w w1) := HBW.out.trans (nn.below.mono HBW.out.size)
       clear nn))
    refine wp_scope_straight ?_
    go_wp2_with (first
    | (go_at_call 51; refine (lBegun_any _).mono ?_; rintro e w2 ⟨v0, rfl, hown, hbz⟩
       obtain ⟨a0, c0, hf⟩ := hown.form
       rw [show ([80] : List (BitVec 8)).length = 1 from rfl] at hf
       subst hf
       clear csb
       have HM : Hid (OwnB w2 w.heap.size (.slice a0 1 c0) [80]) := hown.lower HBW.out.size
       replace HSB : Hid (Blk w2 gS [.slice (some ⟨bs, offs, none⟩) 16384 cps] 29) := HSB.out.below hbz HSB.out.lt
       replace HBW : Hid (Below w.heap.size w w2) := HBW.out.trans (hbz.mono HBW.out.size)
       clear hbz hown)
    | (with_reducible refine wpSeq_allocB ?_ ?_ ?_
       · rfl
       · rfl
       intro gO w3 nn
       have HGO : Hid (w.heap.size ≤ gO) := Nat.le_trans HBW.out.size nn.ge
       have HNE : Hid (gS ≠ gO) := by have h1 := HSB.out.lt; have h3 := nn.ge; show _ ≠ _; omega
       replace HSB : Hid (Blk w3 gS [.slice (some ⟨bs, offs, none⟩) 16384 cps] 29) := HSB.out.below nn.below HSB.out.lt
       replace HM : Hid (OwnB w3 w.heap.size (.slice a0 1 c0) [80]) := HM.out.below nn.below (Nat.le_refl _)
       replace HBW : Hid (Below w.heap.size w w3) := HBW.out.trans (nn.below.mono HBW.out.size)
       have HO : Hid (Blk w3 gO [.slice none 0 0] 29) := nn.blk
       clear nn)
    | (with_reducible refine wpSeq_storeS (.tmp 6) (.tmp 14) gO (.slice none 0 0) a0 1 c0 ?_ ?_ ?_ ?_ ?_ ?_
       · exact HO.out
       · rfl
       · rfl
       · rfl
       · rfl
       intro w4 h4
       have hon : Only gO w3 w4 := by rw [h4]; exact Only.setCell (Only.refl gO w3) 0 _
       replace HO : Hid (OutI w.heap.size gO [80] w4) := by rw [h4]; exact ⟨_, by simpa using HO.out.set 0 (.slice a0 1 c0), HM.out.boxed HO.out⟩
       replace HSB : Hid (Blk w4 gS [.slice (some ⟨bs, offs, none⟩) 16384 cps] 29) := HSB.out.only hon HNE.out
       replace HBW : Hid (Below w.heap.size w w4) := HBW.out.trans (hon.below HGO.out HBW.out.size)
       clear hon HM h4))
    refine wp_label ?_
    go_wp2_with (first
    | (go_at_call 30; refine (HC0.out _ HBW.out).mono ?_; rintro e w6 ⟨rfl, hbz⟩
       replace HSB : Hid (Blk w6 gS [.slice (some ⟨bs, offs, none⟩) 16384 cps] 29) := HSB.out.below hbz HSB.out.lt
       replace HO : Hid (OutI w.heap.size gO [80] w6) := HO.out.next hbz
       replace HBW : Hid (Below w.heap.size w w6) := HBW.out.trans (hbz.mono HBW.out.size)
       clear hbz)
    | (go_at_call 36; refine (pBits_any d _).mono ?_; rintro e w7 ⟨g3, rfl, nn⟩
       replace HSB : Hid (Blk w7 gS [.slice (some ⟨bs, offs, none⟩) 16384 cps] 29) := HSB.out.below nn.below HSB.out.lt
       replace HO : Hid (OutI w.heap.size gO [80] w7) := HO.out.next nn.below
       replace HBW : Hid (Below w.heap.size w w7) := HBW.out.trans (nn.below.mono HBW.out.size)
       have H3 : Hid (Blk w7 g3 (cb d) 23) := nn.blk
       clear nn))
    refine (wpIn_wide (n := 4)).1 ?_
    refine wpIn_rangeFunc_ownF (F := Fence.wide) rfl (by omega) (gf := 52) (lb := #[.pointer (some ⟨g3, 0, none⟩)]) rfl trivial (enters_of Tryd.func52 (by kernel_rfl) rfl)
      (bits_told 3 (by omega) g3 d HDL.out w7 H3.out) (fun _ _ => trivial) (fun _ _ _ _ _ _ _ _ => trivial) (Below.refl _ _) (fun _ => rfl)
      (fun pre W => OutI w.heap.size gO (openF (bt d) sig pre) W ∧ Blk W gS [.slice (some ⟨bs, offs, none⟩) 16384 cps] 29 ∧ Below w.heap.size w W) (fun _ _ _ => False)
      (OwnFrom.and (Own.from (OutI.own w.heap.size gO (openF (bt d) sig)) _) (OwnFrom.and (Own.from (blk_own gS (fun _ => [.slice (some ⟨bs, offs, none⟩) 16384 cps]) 29) _) (ownFrom_below (Nat.le_refl _) HBW.out.size)))
      (fun c s X Y row hs _ _ => hs.elim)
      ⟨HO.out, HSB.out, HBW.out⟩
      (fun z => { tmps := #[.slice ab nb cbb, .slice (some ⟨bs, offs, none⟩) 16384 cps, undef, .pointer (some ⟨gS, 0, none⟩), .slice none 0 0, .int .i64 0, .pointer (some ⟨gO, 0, none⟩), .int .i64 (z.1 : Int), .bool (bt d z.1), undef, undef, .slice (some ⟨bs, offs, none⟩) 16384 cps, .int .i64 16384, .bool false, .slice a0 1 c0, .slice ab nb cbb, .agg (cb d).toArray, .func (.func 52) #[] #[.pointer (some ⟨g3, 0, none⟩)], .int .i64 (z.1 : Int), .bool (bt d z.1), undef, undef, undef, undef, undef, undef, undef, undef, undef, undef, undef, undef, undef, undef, undef, undef, undef, undef], defers := [] }) ?assign ?body ?done ?stop
    case assign =>
      intro l z W K hK
      gi_wp2
      exact hK
    case body =>
      clear HSB HO H3
      rintro l pre z W ⟨hO, hX, hB⟩ hlen
      obtain ⟨lo, HLO⟩ : ∃ lo, Hid (lo = openF (bt d) sig pre) := ⟨_, rfl⟩
      have HLL : Hid (lo.length < 16386) := by show _ < _; rw [HLO.out, openF_len _ HSL.out]; omega
      have HSB : Hid (Blk W gS [.slice (some ⟨bs, offs, none⟩) 16384 cps] 29) := hX
      have HRO : Hid (RoI w gO lo W W) := ⟨by rw [HLO.out]; exact hO, hB, KeepsOthers.refl _⟩
      have HSN : Hid (openF (bt d) sig (pre ++ [z]) = lo ++ openB (bt d) sig z.1) := by rw [HLO.out]; exact openF_snoc _ _ _ _
      obtain ⟨pa, HPA⟩ : ∃ p, Hid (p = blk32 sig (2 * z.1)) := ⟨_, rfl⟩
      have HPAL : Hid (pa.length = 32) := by show _ = _; rw [HPA.out]; exact len_blk32 (by have := HSL.out; have := z.2; omega)
      obtain ⟨pb, HPB⟩ : ∃ p, Hid (p = blk32 sig (2 * z.1 + 1)) := ⟨_, rfl⟩
      have HPBL : Hid (pb.length = 32) := by show _ = _; rw [HPB.out]; exact len_blk32 (by have := HSL.out; have := z.2; omega)
      replace HSN : Hid (openF (bt d) sig (pre ++ [z]) = lo ++ if bt d z.1 then pb ++ dig pa else dig pa ++ pb) := by show _ = _; rw [HSN.out, HPA.out, HPB.out]; rfl
      obtain ⟨pd, HPD⟩ : ∃ p, Hid (p = dig pa) := ⟨_, rfl⟩
      have HPDL : Hid (pd.length = 32) := by show _ = _; rw [HPD.out]; exact len_dig' _
      rw [← HPD.out] at HSN
      obtain ⟨o, HOO⟩ : ∃ o, Hid (o = bt d z.1) := ⟨_, rfl⟩
      rw [← HOO.out] at HSN
      simp only [← HOO.out]
      clear hO hX hB HLO hlen HOO
      have tka : Hid True := trivial
      have tkb : Hid True := trivial
      have tkc : Hid True := trivial
      have tkd : Hid True := trivial
      refine wpIn_block (wpIn_seq ?_)
      refine wpIn_round_list (by kernel_rfl) (by rintro ⟨_, _, h⟩; exact h) ?_
      have csb : W.cell? ⟨gS, 0, none⟩ = some (.slice (some ⟨bs, offs, none⟩) 16384 cps) := HSB.out.cell 0
      go_wp2_with (first
      | (go_at_call 55; refine (HC2.out _ HRO.out.bel z.1 z.2).mono ?_; rintro e y1 ⟨rfl, hbz⟩
         rw [← HPA.out, ← HPB.out]
         replace HRO : Hid (RoI w gO lo W y1) := HRO.out.next hbz
         replace HSB : Hid (Blk y1 gS [.slice (some ⟨bs, offs, none⟩) 16384 cps] 29) := HSB.out.below hbz HSB.out.lt
         clear hbz csb)
      | (clear tka; with_reducible refine wpSeq_allocD ?_ ?_ ?_
         · rfl
         · rfl
         intro ga y2 nn
         have HGA : Hid (y1.heap.size ≤ ga) := nn.ge
         have HA : Hid (Blk y2 ga (cb zb32) 23) := nn.blk
         have HAB : Hid (Below y1.heap.size y1 y2) := nn.below
         clear nn)
      | (clear tkb; with_reducible refine wpSeq_allocD ?_ ?_ ?_
         · rfl
         · rfl
         intro gb y3 nn
         have HGB : Hid (y1.heap.size ≤ gb) := Nat.le_trans HAB.out.size nn.ge
         have HNAB : Hid (ga ≠ gb) := by have h1 := HA.out.lt; have h3 := nn.ge; show _ ≠ _; omega
         replace HA : Hid (Blk y3 ga (cb zb32) 23) := HA.out.below nn.below HA.out.lt
         have HB : Hid (Blk y3 gb (cb zb32) 23) := nn.blk
         replace HAB : Hid (Below y1.heap.size y1 y3) := HAB.out.trans (nn.below.mono HAB.out.size)
         clear nn)
      | (clear tkc; with_reducible refine wpSeq_storeD (.tmp 9) (.tmp 24) ga zb32 pa ?_ ?_ ?_ ?_ ?_ ?_ ?_ ?_
         · rfl
         · exact HPAL.out
         · exact HA.out
         · rfl
         · rfl
         · rfl
         · rfl
         intro y4 hs
         replace HA : Hid (Blk y4 ga (cb pa) 23) := hs.blk
         replace HB : Hid (Blk y4 gb (cb zb32) 23) := HB.out.only hs.only (fun e => HNAB.out e.symm)
         replace HAB : Hid (Below y1.heap.size y1 y4) := HAB.out.trans (hs.only.below HGA.out HAB.out.size)
         clear hs)
      | (clear tkd; with_reducible refine wpSeq_storeD (.tmp 10) (.tmp 25) gb zb32 pb ?_ ?_ ?_ ?_ ?_ ?_ ?_ ?_
         · rfl
         · exact HPBL.out
         · exact HB.out
         · rfl
         · rfl
         · rfl
         · rfl
         intro y5 hs
         replace HA : Hid (Blk y5 ga (cb pa) 23) := HA.out.only hs.only HNAB.out
         replace HB : Hid (Blk y5 gb (cb pb) 23) := hs.blk
         replace HAB : Hid (Below y1.heap.size y1 y5) := HAB.out.trans (hs.only.below HGB.out HAB.out.size)
         replace HRO : Hid (RoI w gO lo W y5) := HRO.out.next HAB.out
         replace HSB : Hid (Blk y5 gS [.slice (some ⟨bs, offs, none⟩) 16384 cps] 29) := HSB.out.below HAB.out HSB.out.lt
         clear hs HAB HGA HGB))
      clear HC2
      cases o with
      | true =>
        have HS2 : Hid (openF (bt d) sig (pre ++ [z]) = lo ++ pb ++ pd) := by show _ = _; rw [HSN.out, List.append_assoc]; rfl
        clear HSN
        gi_wp2
        refine wpIn_round_held (S := fun W => Blk W ga (cb pa) 23 ∧ Blk W gb (cb pb) 23) (by kernel_rfl) (by kernel_rfl) (by rintro ⟨_, _, h⟩; exact h) ⟨HA.out.drew, HB.out.drew⟩ ?_
        intro hS
        replace HRO : Hid (RoI w gO lo W (World.drew y5)) := HRO.out.drew
        replace HSB : Hid (Blk (World.drew y5) gS [.slice (some ⟨bs, offs, none⟩) 16384 cps] 29) := HSB.out.drew
        clear HA HB
        change wpAnyH _ _ _ _ _ _ _ _ (World.drew y5)
        generalize World.drew y5 = q at *
        obtain ⟨v, hv, ho⟩ := HRO.out.out
        obtain ⟨aq, cq, hf1⟩ := ho.form
        obtain ⟨nq, HNQ⟩ : ∃ n, Hid (n = lo.length) := ⟨_, rfl⟩
        rw [← HNQ.out] at hf1
        subst hf1
        have hcq : q.cell? ⟨gO, 0, none⟩ = some (.slice aq nq cq) := hv.cell 0
        try simp only [Act.put, List.setIfInBounds_toArray, List.set_cons_zero, List.set_cons_succ]
        refine wpAnyH_take (i := 1) (v := .agg (cb pb).toArray) rfl (by kernel_rfl) (by kernel_rfl) (by kernel_rfl) (fun _ _ _ h => h) (Or.inl ⟨by rfl, fun wx hx => by exact loadDigest _ gb pb HPBL.out hx.2 rfl rfl⟩) hS ?_
        simp only [Act.put, List.getElem_toArray, List.getElem_cons_succ, List.getElem_cons_zero, List.setIfInBounds_toArray, List.set_cons_zero, List.set_cons_succ]
        refine wpAnyH_take (i := 2) (v := .slice (some ⟨ga, 0, none⟩) 32 32) rfl (by kernel_rfl) (by kernel_rfl) (by kernel_rfl) (fun _ _ _ h => h) (Or.inl ⟨by rfl, fun wx hx => by simp [execOp, Act.eval, slice_dig]⟩) hS ?_
        simp only [Act.put, List.getElem_toArray, List.getElem_cons_succ, List.getElem_cons_zero, List.setIfInBounds_toArray, List.set_cons_zero, List.set_cons_succ]
        refine wpAnyH_readC 0 3 (.slice aq nq cq) (f := 30) (args := #[.slice (some ⟨ga, 0, none⟩) 32 32]) (by kernel_rfl) rfl rfl (by rfl) (by rfl) (fun _ => by rfl) (by rfl) (by simp [go_sem, hcq]) (by simp [go_sem]) (by simp [go_sem]) (HC1.out _ _ pa HRO.out.bel HPAL.out (hS.1.reads HPAL.out.symm (by rw [HPAL.out]; exact Nat.le_refl _))) (by kernel_rfl) (by kernel_rfl) (fun _ => by rfl) (by rfl) hS ?_
        rintro e y6 ⟨rfl, hbq⟩
        rw [← HPD.out]
        clear hcq
        replace HRO : Hid (RoI w gO lo W y6) := HRO.out.next hbq
        replace hS : Blk y6 ga (cb pa) 23 ∧ Blk y6 gb (cb pb) 23 := ⟨hS.1.below hbq hS.1.lt, hS.2.below hbq hS.2.lt⟩
        replace ho : OwnB y6 w.heap.size (.slice aq nq cq) lo := ho.below hbq (Nat.le_refl _)
        replace hv : Blk y6 gO [.slice aq nq cq] 29 := hv.below hbq hv.lt
        have hcy6 : y6.cell? ⟨gO, 0, none⟩ = some (.slice aq nq cq) := hv.cell 0
        replace HSB : Hid (Blk y6 gS [.slice (some ⟨bs, offs, none⟩) 16384 cps] 29) := HSB.out.below hbq HSB.out.lt
        clear hbq
        refine ⟨_, rfl, hS, by simp [go_sem, hcy6], ?_⟩
        simp only [Act.put, List.getElem_toArray, List.getElem_cons_succ, List.getElem_cons_zero, List.setIfInBounds_toArray, List.set_cons_zero, List.set_cons_succ]
        refine wpAnyH_enter 4 (by kernel_rfl) rfl (by rfl) (f := 37) (args := #[.slice aq nq cq, .agg (cb pb).toArray, .agg (cb pd).toArray]) (by simp [go_sem]) (lPut_any (.slice aq nq cq) lo pb pd w.heap.size y6 HRO.out.bel.size ho HPBL.out HPDL.out (by have := HLL.out; omega)) ?_
        rintro e y7 ⟨v9, rfl, ho9, hk9⟩
        obtain ⟨a9, c9, hv9⟩ := ho9.form
        obtain ⟨n9, HN9⟩ : ∃ n, Hid (n = (lo ++ pb ++ pd).length) := ⟨_, rfl⟩
        rw [← HN9.out] at hv9
        subst hv9
        have hb3 : Blk y7 gO [.slice aq nq cq] 29 := hk9.blk _ _ _ (by decide) hv
        have hc3 : y7.cell? ⟨gO, 0, none⟩ = some (.slice aq nq cq) := hb3.cell 0
        have hf3 : y7.frozen? ⟨gO, 0, none⟩ = false := hb3.frozen 0
        have hro := HRO.out.kept HGO.out hv hk9 ho9
        have hS2 : Blk (y7.setCell ⟨gO, 0, none⟩ (.slice a9 n9 c9)) ga (cb pa) 23 ∧ Blk (y7.setCell ⟨gO, 0, none⟩ (.slice a9 n9 c9)) gb (cb pb) 23 := ⟨hk9.boxed hS.1 (by decide) (blk_ne hS.1 hv (by decide)), hk9.boxed hS.2 (by decide) (blk_ne hS.2 hv (by decide))⟩
        have hsb : Blk (y7.setCell ⟨gO, 0, none⟩ (.slice a9 n9 c9)) gS [.slice (some ⟨bs, offs, none⟩) 16384 cps] 29 := hk9.boxed HSB.out (by decide) HNE.out
        refine ⟨_, rfl, ⟨hk9.blk _ _ _ (by decide) hS.1, hk9.blk _ _ _ (by decide) hS.2⟩, ?_⟩
        simp only [Act.put, List.getElem_toArray, List.getElem_cons_succ, List.getElem_cons_zero, List.setIfInBounds_toArray, List.set_cons_zero, List.set_cons_succ]
        refine wpAnyH_skip 5 (y7.setCell ⟨gO, 0, none⟩ (.slice a9 n9 c9)) (by kernel_rfl) rfl (by rfl) (by simp [go_sem, hc3, hf3]) hS2 ?_
        simp only [Act.put, List.getElem_toArray, List.getElem_cons_succ, List.getElem_cons_zero]
        refine wpAnyH_done (by kernel_rfl) ?_ _
        gi_wp2
        exact ⟨hro.kp, trivial, by rw [HS2.out]; exact hro.out, hsb, hro.bel⟩
      | false =>
        have HS2 : Hid (openF (bt d) sig (pre ++ [z]) = lo ++ pd ++ pb) := by show _ = _; rw [HSN.out, List.append_assoc]; rfl
        clear HSN
        gi_wp2
        refine wpIn_round_held (S := fun W => Blk W ga (cb pa) 23 ∧ Blk W gb (cb pb) 23) (by kernel_rfl) (by kernel_rfl) (by rintro ⟨_, _, h⟩; exact h) ⟨HA.out.drew, HB.out.drew⟩ ?_
        intro hS
        replace HRO : Hid (RoI w gO lo W (World.drew y5)) := HRO.out.drew
        replace HSB : Hid (Blk (World.drew y5) gS [.slice (some ⟨bs, offs, none⟩) 16384 cps] 29) := HSB.out.drew
        clear HA HB
        change wpAnyH _ _ _ _ _ _ _ _ (World.drew y5)
        generalize World.drew y5 = q at *
        obtain ⟨v, hv, ho⟩ := HRO.out.out
        obtain ⟨aq, cq, hf1⟩ := ho.form
        obtain ⟨nq, HNQ⟩ : ∃ n, Hid (n = lo.length) := ⟨_, rfl⟩
        rw [← HNQ.out] at hf1
        subst hf1
        have hcq : q.cell? ⟨gO, 0, none⟩ = some (.slice aq nq cq) := hv.cell 0
        try simp only [Act.put, List.setIfInBounds_toArray, List.set_cons_zero, List.set_cons_succ]
        refine wpAnyH_take (i := 1) (v := .slice (some ⟨ga, 0, none⟩) 32 32) rfl (by kernel_rfl) (by kernel_rfl) (by kernel_rfl) (fun _ _ _ h => h) (Or.inl ⟨by rfl, fun wx hx => by simp [execOp, Act.eval, slice_dig]⟩) hS ?_
        simp only [Act.put, List.getElem_toArray, List.getElem_cons_succ, List.getElem_cons_zero, List.setIfInBounds_toArray, List.set_cons_zero, List.set_cons_succ]
        refine wpAnyH_take (i := 3) (v := .agg (cb pb).toArray) rfl (by kernel_rfl) (by kernel_rfl) (by kernel_rfl) (fun _ _ _ h => h) (Or.inl ⟨by rfl, fun wx hx => by exact loadDigest _ gb pb HPBL.out hx.2 rfl rfl⟩) hS ?_
        simp only [Act.put, List.getElem_toArray, List.getElem_cons_succ, List.getElem_cons_zero, List.setIfInBounds_toArray, List.set_cons_zero, List.set_cons_succ]
        refine wpAnyH_readC 0 2 (.slice aq nq cq) (f := 30) (args := #[.slice (some ⟨ga, 0, none⟩) 32 32]) (by kernel_rfl) rfl rfl (by rfl) (by rfl) (fun _ => by rfl) (by rfl) (by simp [go_sem, hcq]) (by simp [go_sem]) (by simp [go_sem]) (HC1.out _ _ pa HRO.out.bel HPAL.out (hS.1.reads HPAL.out.symm (by rw [HPAL.out]; exact Nat.le_refl _))) (by kernel_rfl) (by kernel_rfl) (fun _ => by rfl) (by rfl) hS ?_
        rintro e y6 ⟨rfl, hbq⟩
        rw [← HPD.out]
        clear hcq
        replace HRO : Hid (RoI w gO lo W y6) := HRO.out.next hbq
        replace hS : Blk y6 ga (cb pa) 23 ∧ Blk y6 gb (cb pb) 23 := ⟨hS.1.below hbq hS.1.lt, hS.2.below hbq hS.2.lt⟩
        replace ho : OwnB y6 w.heap.size (.slice aq nq cq) lo := ho.below hbq (Nat.le_refl _)
        replace hv : Blk y6 gO [.slice aq nq cq] 29 := hv.below hbq hv.lt
        have hcy6 : y6.cell? ⟨gO, 0, none⟩ = some (.slice aq nq cq) := hv.cell 0
        replace HSB : Hid (Blk y6 gS [.slice (some ⟨bs, offs, none⟩) 16384 cps] 29) := HSB.out.below hbq HSB.out.lt
        clear hbq
        refine ⟨_, rfl, hS, by simp [go_sem, hcy6], ?_⟩
        simp only [Act.put, List.getElem_toArray, List.getElem_cons_succ, List.getElem_cons_zero, List.setIfInBounds_toArray, List.set_cons_zero, List.set_cons_succ]
        refine wpAnyH_enter 4 (by kernel_rfl) rfl (by rfl) (f := 37) (args := #[.slice aq nq cq, .agg (cb pd).toArray, .agg (cb pb).toArray]) (by simp [go_sem]) (lPut_any (.slice aq nq cq) lo pd pb w.heap.size y6 HRO.out.bel.size ho HPDL.out HPBL.out (by have := HLL.out; omega)) ?_
        rintro e y7 ⟨v9, rfl, ho9, hk9⟩
        obtain ⟨a9, c9, hv9⟩ := ho9.form
        obtain ⟨n9, HN9⟩ : ∃ n, Hid (n = (lo ++ pd ++ pb).length) := ⟨_, rfl⟩
        rw [← HN9.out] at hv9
        subst hv9
        have hb3 : Blk y7 gO [.slice aq nq cq] 29 := hk9.blk _ _ _ (by decide) hv
        have hc3 : y7.cell? ⟨gO, 0, none⟩ = some (.slice aq nq cq) := hb3.cell 0
        have hf3 : y7.frozen? ⟨gO, 0, none⟩ = false := hb3.frozen 0
        have hro := HRO.out.kept HGO.out hv hk9 ho9
        have hS2 : Blk (y7.setCell ⟨gO, 0, none⟩ (.slice a9 n9 c9)) ga (cb pa) 23 ∧ Blk (y7.setCell ⟨gO, 0, none⟩ (.slice a9 n9 c9)) gb (cb pb) 23 := ⟨hk9.boxed hS.1 (by decide) (blk_ne hS.1 hv (by decide)), hk9.boxed hS.2 (by decide) (blk_ne hS.2 hv (by decide))⟩
        have hsb : Blk (y7.setCell ⟨gO, 0, none⟩ (.slice a9 n9 c9)) gS [.slice (some ⟨bs, offs, none⟩) 16384 cps] 29 := hk9.boxed HSB.out (by decide) HNE.out
        refine ⟨_, rfl, ⟨hk9.blk _ _ _ (by decide) hS.1, hk9.blk _ _ _ (by decide) hS.2⟩, ?_⟩
        simp only [Act.put, List.getElem_toArray, List.getElem_cons_succ, List.getElem_cons_zero, List.setIfInBounds_toArray, List.set_cons_zero, List.set_cons_succ]
        refine wpAnyH_skip 5 (y7.setCell ⟨gO, 0, none⟩ (.slice a9 n9 c9)) (by kernel_rfl) rfl (by rfl) (by simp [go_sem, hc3, hf3]) hS2 ?_
        simp only [Act.put, List.getElem_toArray, List.getElem_cons_succ, List.getElem_cons_zero]
        refine wpAnyH_done (by kernel_rfl) ?_ _
        exact ⟨hro.kp, trivial, by rw [HS2.out]; exact hro.out, hsb, hro.bel⟩
    case done =>
      rintro D ys W hD rfl ⟨hO, hX, hB⟩ hK
      rw [openF_path (bt d) sig 256 (Nat.le_refl _)] at hO
      obtain ⟨v, hv, ho⟩ := hO
      have HD : Hid (w.heap.size ≤ D) := Nat.le_trans HBW.out.size hD
      have HOW : Hid (OwnB W w.heap.size v (openR (bt d) sig 256)) := ho
      have HB : Hid (Below w.heap.size w W) := hB
      have HKD : Hid (W.heap[D]? = some (.deferred (some []))) := hK
      have cv : W.cell? ⟨gO, 0, none⟩ = some v := hv.cell 0
      clear hX hB hK hD hv ho HSB HO H3 HBW
      gi_wp2
      go_wp2
      refine noGoto_ret ?_
      refine ⟨by simp, .inl ⟨_, _, rfl, run_takeDeferred HKD.out, ?_⟩⟩
      refine ⟨.tuple #[v, .int .i64 0], ?_, v, by rw [HL.out.2], by rw [HL.out.1]; exact (HOW.out.kept (grownBy_putObj' _ D _) (fun r e => by cases e; exact ⟨_, HKD.out, rfl⟩)).reads, HB.out.trans (belowK_b (w := w) (Nat.le_refl _) _ D _ _ HD.out HKD.out rfl rfl)⟩
      simp [results, Tryd.f46, go_sem]
    case stop =>
      rintro D c pre W _ _ hX _
      exact hX.elim
  · have HL : Hid (openL b sig = [] ∧ openE sig = 15) := by show _ ∧ _; rw [openL, openE, if_neg h16, if_neg h16]; exact ⟨rfl, rfl⟩
    obtain ⟨ads, cps, hvs, _⟩ := id hs
    obtain ⟨n, HNL⟩ : ∃ n, Hid (n = sig.length) := ⟨_, rfl⟩
    rw [← HNL.out] at hvs h16
    have hne : ((n : Int) == 16384) = false := by rw [beq_eq_false_iff_ne]; omega
    subst hvb hvs
    clear hb hs hl
    go_enter Tryd.func46, Tryd.ntmps46
    go_wp2_with (first
    | (with_reducible refine wpSeq_boxS (.tmp 1) ads n cps ?_ ?_ ?_ ?_
       · rfl
       · rfl
       · rfl
       intro gS w1 nn
       have csb : w1.cell? ⟨gS, 0, none⟩ = some (.slice ads n cps) := nn.blk.cell 0
       have HBW : Hid (Below w.heap.size w w1) := nn.below
       clear nn))
    refine wp_scope_straight ?_
    go_wp2
    refine noGoto_ret ?_
    refine bodyPost_ret (results_tmp2 rfl _ _ _) rfl ?_
    exact ⟨_, by rw [HL.out.2]; rfl, by rw [HL.out.1]; exact ⟨Option.none, 0, rfl, Nat.le_refl _, fun _ => rfl, fun h => by cases h⟩, HBW.out⟩
end Go.Proofs.YtfbdnhadcnmfoaaDoor
/- The walk of lamport's Check; all that lamport does (layer 10). -/
namespace Go.Proofs.YtfbdnhadcnmfoaaDoor
open Go.RowKit Go.Shelf
set_option maxRecDepth 100000
set_option maxRecDepth 100000 in
set_option maxHeartbeats 8000000 in
theorem lCheck_any (p : List (BitVec 8)) (vb vs : Value) (b sig : List (BitVec 8)) (w : World) (hK : KOk w) (hp : p.length = 32) (hb : Reads w vb b) (hs : Reads w vs sig) (hl : b.length < 140737488350000) :
    Calls Tryd.prog 29 #[.agg (cb p).toArray, vb, vs] w fun e w' => e = .returned (.int .i64 (checkE p b sig)) ∧ Below w.heap.size w w' := by
  obtain ⟨ab, cbb, hvb, hq1⟩ := id hb
  obtain ⟨ads, cps, hvs, hq2⟩ := id hs
  clear hq1 hq2
  obtain ⟨nb, HNB⟩ : ∃ n, Hid (n = b.length) := ⟨_, rfl⟩
  obtain ⟨ns, HNS⟩ : ∃ n, Hid (n = sig.length) := ⟨_, rfl⟩
  rw [← HNB.out] at hvb
  rw [← HNS.out] at hvs
  have HPL : Hid (p.length = 32) := hp
  have HC1 : Hid (∀ W : World, Below w.heap.size w W → Calls Tryd.prog 46 #[vb, vs] W (OpenA W b sig)) := fun W hh => lOpened_any vb vs b sig W (hK.below hh hK.lt) (hb.below hh) (hs.below hh) hl
  have HKK : Hid (∀ W : World, Below w.heap.size w W → KOk W) := fun W hh => hK.below hh hK.lt
  subst hvb hvs
  clear hb hs hl hp hK
  by_cases h16 : sig.length = 16384
  · obtain ⟨t, HT⟩ : ∃ t, Hid (t = openR (bt (dig b)) sig 256) := ⟨_, rfl⟩
    have HTL : Hid (t.length = 16385) := by show _ = _; rw [HT.out, len_openR _ (by omega)]
    have HOL : Hid (openL b sig = t ∧ openE sig = 0) := by show _ ∧ _; rw [openL, openE, if_pos h16, if_pos h16, HT.out]; exact ⟨rfl, rfl⟩
    obtain ⟨r, HRD⟩ : ∃ r, Hid (r = dig t) := ⟨_, rfl⟩
    have HRL : Hid (r.length = 32) := by show _ = _; rw [HRD.out]; exact len_dig' _
    have HCK : Hid (checkE p b sig = if r = p then 0 else 15) := by show _ = _; unfold checkE; rw [← HT.out, ← HRD.out]; simp [h16]
    have HC2 : Hid (∀ (W : World) (v : Value), Below w.heap.size w W → Reads W v t → Calls Tryd.prog 30 #[v] W fun e w' => e = .returned (.agg (cb r).toArray) ∧ Below W.heap.size W w') := fun W v hh hv => by rw [HRD.out]; exact tOf_any v t W (HKK.out W hh) hv (by rw [HTL.out]; omega)
    have heq : ∀ wx : World, (Op.equalIn 10000 23 (.agg (cb r).toArray) (.agg (cb p).toArray)).run Tryd.prog wx = .ok (decide (r = p)) wx := fun wx => eq_dig r p HRL.out HPL.out wx
    obtain ⟨o, HO⟩ : ∃ o, Hid (o = decide (r = p)) := ⟨_, rfl⟩
    rw [← HO.out] at heq
    have HCK2 : Hid (checkE p b sig = if o then 0 else 15) := by
      show _ = _
      rw [HCK.out, HO.out]
      by_cases e : r = p
      · rw [if_pos e, decide_eq_true e]; rfl
      · rw [if_neg e, decide_eq_false e]; rfl
    rw [HCK2.out]
    clear h16 HT HRD HCK HO HCK2
    go_enter Tryd.func29, Tryd.ntmps29
    go_wp2_with (first
      | (with_reducible refine wpSeq_boxD (.tmp 0) p ?_ ?_ ?_ ?_
         · rfl
         · rfl
         · rfl
         intro gp w1 nn
         have HB1 : Hid (Below w.heap.size w w1) := nn.below
         have HGP : Hid (Blk w1 gp (cb p) 23) := nn.blk
         clear nn)
      | (go_at_call 46; refine (HC1.out _ HB1.out).mono ?_; rintro e w2 ⟨v, rfl, hv, hb2⟩
         rw [HOL.out.1] at hv
         have HV : Hid (Reads w2 v t) := hv
         replace HGP : Hid (Blk w2 gp (cb p) 23) := HGP.out.below hb2 HGP.out.lt
         replace HB1 : Hid (Below w.heap.size w w2) := HB1.out.trans (hb2.mono HB1.out.size)
         rw [HOL.out.2]
         clear hv hb2))
    have HYB : Hid (Below w.heap.size w (World.drew w2)) := HB1.out.drew
    replace HGP : Hid (Blk (World.drew w2) gp (cb p) 23) := HGP.out.drew
    replace HV : Hid (Reads (World.drew w2) v t) := reads_drew HV.out
    clear HB1
    refine wp_region_held_drew (S := Over (World.drew w2)) (by kernel_rfl) (Over.refl _) ?_
    intro hS
    change wpAnyH _ _ _ _ _ _ _ _ (World.drew w2)
    generalize World.drew w2 = y0 at *
    try simp only [Act.put, List.setIfInBounds_toArray, List.set_cons_zero, List.set_cons_succ]
    refine wpAnyH_take (i := 0) (v := v) rfl (by kernel_rfl) (by kernel_rfl) (by kernel_rfl) (fun _ _ _ h => h) (Or.inl ⟨by rfl, fun wx hx => by simp [go_sem]⟩) hS ?_
    simp only [Act.put, List.getElem_toArray, List.getElem_cons_zero, List.setIfInBounds_toArray, List.set_cons_zero, List.set_cons_succ]
    refine wpAnyH_take (i := 2) (v := .agg (cb p).toArray) rfl (by kernel_rfl) (by kernel_rfl) (by kernel_rfl) (fun _ _ _ h => h) (Or.inl ⟨by rfl, fun wx hx => by exact loadDigest _ gp p HPL.out (HGP.out.below hx HGP.out.lt) rfl rfl⟩) hS ?_
    simp only [Act.put, List.getElem_toArray, List.getElem_cons_succ, List.getElem_cons_zero, List.setIfInBounds_toArray, List.set_cons_zero, List.set_cons_succ]
    refine wpAnyH_enter 1 (by kernel_rfl) rfl (by rfl) (f := 30) (args := #[v]) (by simp [go_sem]) (HC2.out _ v (HYB.out.trans (Below.mono hS HYB.out.size)) (HV.out.below hS)) ?_
    rintro e y1 ⟨rfl, hbq⟩
    replace hS := Over.more hS hbq
    refine ⟨_, rfl, hS, ?_⟩
    clear hbq
    simp only [Act.put, List.getElem_toArray, List.getElem_cons_succ, List.getElem_cons_zero, List.setIfInBounds_toArray, List.set_cons_zero, List.set_cons_succ]
    refine wpAnyH_take (i := 3) (v := .bool (!o)) rfl (by kernel_rfl) (by kernel_rfl) (by kernel_rfl) (fun _ _ _ h => h) (Or.inl ⟨by rfl, fun wx hx => by simp [go_sem, heq]⟩) hS ?_
    simp only [Act.put, List.getElem_toArray, List.getElem_cons_succ, List.getElem_cons_zero, List.setIfInBounds_toArray, List.set_cons_zero, List.set_cons_succ]
    refine wpAnyH_done (by kernel_rfl) ?_ _
    have HBW : Hid (Below w.heap.size w y1) := HYB.out.trans (Below.mono hS HYB.out.size)
    clear hS HV HGP HYB
    cases o with
    | true =>
      simp only [Bool.not_true]
      go_wp2
      go_ret
      exact ⟨rfl, HBW.out⟩
    | false =>
      simp only [Bool.not_false]
      go_wp2
      go_ret
      exact ⟨rfl, HBW.out⟩
  · have HOL : Hid (openL b sig = [] ∧ openE sig = 15) := by show _ ∧ _; rw [openL, openE, if_neg h16, if_neg h16]; exact ⟨rfl, rfl⟩
    have HCK : Hid (checkE p b sig = 15) := by show _ = _; unfold checkE; rw [if_neg (fun h => h16 h.1)]
    rw [HCK.out]
    clear h16 HCK
    go_enter Tryd.func29, Tryd.ntmps29
    go_wp2_with (first
      | (with_reducible refine wpSeq_boxD (.tmp 0) p ?_ ?_ ?_ ?_
         · rfl
         · rfl
         · rfl
         intro gp w1 nn
         have HB1 : Hid (Below w.heap.size w w1) := nn.below
         clear nn)
      | (go_at_call 46; refine (HC1.out _ HB1.out).mono ?_; rintro e w2 ⟨v, rfl, hv, hb2⟩
         replace HB1 : Hid (Below w.heap.size w w2) := HB1.out.trans (hb2.mono HB1.out.size)
         rw [HOL.out.2]
         clear hv hb2))
    go_ret
    exact ⟨rfl, HB1.out⟩
/-- lamport's functions do what the chapter says -/
theorem lmOps : LmOps where
  text := fun W x key hK hn => lText_any x key W hK hn
  pub := fun W x key hK hn => lPublic_any x key W hK hn
  sign := fun W x key vb b hK hn hb hl => lSign_any x key vb b W hK hn hb hl
  opened := fun W vb vs b sig hK hb hs hl => lOpened_any vb vs b sig W hK hb hs hl
  check := fun W p vb vs b sig hK hp hb hs hl => lCheck_any p vb vs b sig W hK hp hb hs hl
end Go.Proofs.YtfbdnhadcnmfoaaDoor
/- Heads, roots and signed roots that are made, loaded and stored whole (layer 11). -/
namespace Go.Proofs.YtfbdnhadcnmfoaaDoor
open Go.RowKit
set_option maxRecDepth 100000
theorem fold_set (off : Nat) : ∀ (vs B A C : List Value) (k : Nat), A.length = off + k → B.length = vs.length → (vs.zipIdx k).foldl (fun (cs : Array Value) (p : Value × Nat) => cs.setIfInBounds (off + p.2) p.1) (A ++ (B ++ C)).toArray = (A ++ (vs ++ C)).toArray
  | [], B, A, C, k, _, hB => by
    obtain rfl : B = [] := List.length_eq_zero_iff.1 hB
    rfl
  | v :: vs, [], A, C, k, _, hB => by simp at hB
  | v :: vs, b :: B, A, C, k, hA, hB => by
    rw [List.zipIdx_cons, List.foldl_cons]
    have e : (A ++ (b :: B ++ C)).toArray.setIfInBounds (off + k) v = ((A ++ [v]) ++ (B ++ C)).toArray := by
      rw [List.setIfInBounds_toArray, ← hA]
      congr 1
      rw [List.set_append_right _ _ (Nat.le_refl _), Nat.sub_self]
      simp
    rw [e, fold_set off vs B (A ++ [v]) C (k + 1) (by rw [List.length_append, hA]; rfl) (by simpa using hB)]
    simp
theorem fill_seg {place : Nat → Option (Nat × Nat)} {A B C vs : List Value} {i off size : Nat} {rest : List (Nat × Value)} {v : Value} (hp : place i = some (off, size)) (hA : A.length = off) (hB : B.length = size) (hv : v.cells = vs.toArray) (hvl : vs.length = size) :
    Instr.fill place (A ++ (B ++ C)).toArray ((i, v) :: rest) = Instr.fill place (A ++ (vs ++ C)).toArray rest := by
  have h1 : v.cells.size = size := by rw [hv, List.size_toArray, hvl]
  have h2 : (A ++ (B ++ C)).toArray.size = off + size + C.length := by simp [hA, hB]; omega
  rw [Instr.fill, hp]
  simp only [h1, h2]
  rw [if_neg (by simp)]
  congr 1
  rw [hv, ← fold_set off vs B A C 0 (by omega) (by omega), ← Array.foldl_toList, Array.toList_zipIdx]
def hdPl (i : Nat) : Option (Nat × Nat) := (#[(0, 1), (1, 32), (33, 32)] : Array (Nat × Nat))[i]?
def rtPl (i : Nat) : Option (Nat × Nat) := (#[(0, 1), (1, 32), (33, 32), (65, 32)] : Array (Nat × Nat))[i]?
def sgPl (i : Nat) : Option (Nat × Nat) := (#[(0, 97), (97, 1)] : Array (Nat × Nat))[i]?
theorem built_head (parts : List (Nat × Value)) : Tryd.prog.built 26 parts = Instr.fill hdPl (hdC zeroH).toArray parts := by kernel_rfl
theorem built_root (parts : List (Nat × Value)) : Tryd.prog.built 28 parts = Instr.fill rtPl (rtC zeroS).toArray parts := by kernel_rfl
theorem built_signed (parts : List (Nat × Value)) : Tryd.prog.built 31 parts = Instr.fill sgPl (sgC zeroS (.slice none 0 0)).toArray parts := by kernel_rfl
theorem len_zb : (cb zb32).length = 32 := by rw [cb_len]; rfl
theorem fill_hd {n : Nat} {x y : List (BitVec 8)} (hx : x.length = 32) (hy : y.length = 32) : Instr.fill hdPl (hdC zeroH).toArray [(0, .int .u64 (n : Int)), (1, .agg (cb x).toArray), (2, .agg (cb y).toArray)] = some (hdC (n, x, y)).toArray := by
  have e0 : hdC zeroH = [] ++ ([Value.int .u64 0] ++ (cb zb32 ++ cb zb32)) := rfl
  rw [e0, fill_seg (vs := [.int .u64 (n : Int)]) (size := 1) (by rfl) rfl rfl rfl rfl]
  rw [List.nil_append, fill_seg (A := [.int .u64 (n : Int)]) (vs := cb x) (off := 1) (size := 32) (by rfl) rfl len_zb rfl (by rw [cb_len, hx])]
  have e1 : [Value.int .u64 (n : Int)] ++ (cb x ++ cb zb32) = ([Value.int .u64 (n : Int)] ++ cb x) ++ (cb zb32 ++ []) := by simp
  rw [e1, fill_seg (vs := cb y) (off := 33) (size := 32) (by rfl) (by rw [List.length_append, cb_len, hx]; rfl) len_zb rfl (by rw [cb_len, hy])]
  rw [Instr.fill]
  simp [hdC]
theorem fill_hk {y : List (BitVec 8)} (hy : y.length = 32) : Instr.fill hdPl (hdC zeroH).toArray [(2, .agg (cb y).toArray)] = some (hdC (0, zb32, y)).toArray := by
  have e1 : hdC zeroH = ([Value.int .u64 0] ++ cb zb32) ++ (cb zb32 ++ []) := by rw [List.append_nil]; rfl
  rw [e1, fill_seg (vs := cb y) (off := 33) (size := 32) (by rfl) (by rw [List.length_append, len_zb]; rfl) len_zb rfl (by rw [cb_len, hy])]
  rw [Instr.fill]
  simp [hdC]
theorem fill_rt {n : Nat} {x y z : List (BitVec 8)} {g : List (BitVec 8)} (hx : x.length = 32) (hy : y.length = 32) (hz : z.length = 32) : Instr.fill rtPl (rtC zeroS).toArray [(0, .int .u64 (n : Int)), (1, .agg (cb x).toArray), (2, .agg (cb y).toArray), (3, .agg (cb z).toArray)] = some (rtC ((n, x, y, z), g)).toArray := by
  have e0 : rtC zeroS = [] ++ ([Value.int .u64 0] ++ (cb zb32 ++ (cb zb32 ++ cb zb32))) := rfl
  rw [e0, fill_seg (vs := [.int .u64 (n : Int)]) (size := 1) (by rfl) rfl rfl rfl rfl]
  rw [List.nil_append, fill_seg (A := [.int .u64 (n : Int)]) (vs := cb x) (off := 1) (size := 32) (by rfl) rfl len_zb rfl (by rw [cb_len, hx])]
  have e1 : [Value.int .u64 (n : Int)] ++ (cb x ++ (cb zb32 ++ cb zb32)) = ([Value.int .u64 (n : Int)] ++ cb x) ++ (cb zb32 ++ cb zb32) := by simp
  rw [e1, fill_seg (vs := cb y) (off := 33) (size := 32) (by rfl) (by rw [List.length_append, cb_len, hx]; rfl) len_zb rfl (by rw [cb_len, hy])]
  have e2 : ([Value.int .u64 (n : Int)] ++ cb x) ++ (cb y ++ cb zb32) = ([Value.int .u64 (n : Int)] ++ (cb x ++ cb y)) ++ (cb zb32 ++ []) := by simp
  rw [e2, fill_seg (vs := cb z) (off := 65) (size := 32) (by rfl) (by rw [List.length_append, List.length_append, cb_len, cb_len, hx, hy]; rfl) len_zb rfl (by rw [cb_len, hz])]
  rw [Instr.fill]
  simp [rtC]
theorem fill_rn (n : Nat) : Instr.fill rtPl (rtC zeroS).toArray [(0, .int .u64 (n : Int))] = some (rtC ((n, zb32, zb32, zb32), [])).toArray := by
  have e0 : rtC zeroS = [] ++ ([Value.int .u64 0] ++ (cb zb32 ++ (cb zb32 ++ cb zb32))) := rfl
  rw [e0, fill_seg (vs := [.int .u64 (n : Int)]) (size := 1) (by rfl) rfl rfl rfl rfl]
  rw [Instr.fill]
  rfl
theorem fill_sg {s : SgT} (hs : okS s) {ad : Option Addr} {n c : Nat} : Instr.fill sgPl (sgC zeroS (.slice none 0 0)).toArray [(0, .agg (rtC s).toArray), (1, .slice ad n c)] = some (sgC s (.slice ad n c)).toArray := by
  have e0 : sgC zeroS (.slice none 0 0) = [] ++ (rtC zeroS ++ [.slice none 0 0]) := by rw [sgC_eq]; rfl
  rw [e0, fill_seg (vs := rtC s) (size := 97) (by rfl) rfl (len_rtC okS_zero) rfl (len_rtC hs)]
  have e1 : [] ++ (rtC s ++ [Value.slice none 0 0]) = rtC s ++ ([Value.slice none 0 0] ++ []) := by simp
  rw [e1, fill_seg (vs := [.slice ad n c]) (off := 97) (size := 1) (by rfl) (len_rtC hs) rfl rfl rfl]
  rw [Instr.fill, sgC_eq]
  simp
theorem fill_sr {s : SgT} (hs : okS s) : Instr.fill sgPl (sgC zeroS (.slice none 0 0)).toArray [(0, .agg (rtC s).toArray)] = some (sgC s (.slice none 0 0)).toArray := by
  have e0 : sgC zeroS (.slice none 0 0) = [] ++ (rtC zeroS ++ [.slice none 0 0]) := by rw [sgC_eq]; rfl
  rw [e0, fill_seg (vs := rtC s) (size := 97) (by rfl) rfl (len_rtC okS_zero) rfl (len_rtC hs)]
  rw [Instr.fill, sgC_eq]
  simp
/-- a literal's value, out of what it is built of -/
theorem build_op (f : Operand → Value) (o : Oper) (t : TypeId) (ps : List (Nat × Operand)) (ho : o.op = .build t ps.toArray) (cells : Array Value) (h : Tryd.prog.built t (ps.map fun p => (p.1, f p.2)) = some cells) (w : World) : (execOp f o).run Tryd.prog w = .ok (.value (.agg cells)) w := by
  unfold execOp
  rw [ho]
  have hm : (ps.toArray.map fun (p : Nat × Operand) => (p.1, f p.2)) = (ps.map fun p => (p.1, f p.2)).toArray := by simp
  have hr := run_build (P := Tryd.prog) w t (ps.map fun p => (p.1, f p.2)).toArray cells (by simpa using h)
  simp only [hm, Sem.run_bind, hr, Result.andThen_ok, Sem.run_pure]
theorem wpSeq_build {ops : Array Oper} {Q : Exit → Act → World → Prop} {rest : List Oper} {o : Oper} {a : Act} {w : World} (t : TypeId) (ps : List (Nat × Operand)) (cells : List Value) (h1 : Tryd.prog.built t (ps.map fun p => (p.1, a.eval p.2)) = some cells.toArray) (ho : o.op = .build t ps.toArray) (hw : Region.wanted o (yielded ops a.tmps) = true)
    (h : wpList Tryd.prog ops Q rest (a.put o.dst (.agg cells.toArray)) w) : wpList Tryd.prog ops Q (o :: rest) a w :=
  wpSeq_val _ _ hw (build_op a.eval o t ps ho cells.toArray h1 w) h
theorem alloc_hd (f : Operand → Value) (o : Oper) (ho : o.op = .alloc 26) (w : World) : (execOp f o).run Tryd.prog w = .ok (.value (.pointer (some ⟨w.heap.size, 0, none⟩))) (w.alloc (.cells (hdC zeroH).toArray 26)) := by
  unfold execOp
  rw [ho]
  kernel_rfl
theorem alloc_rt (f : Operand → Value) (o : Oper) (ho : o.op = .alloc 28) (w : World) : (execOp f o).run Tryd.prog w = .ok (.value (.pointer (some ⟨w.heap.size, 0, none⟩))) (w.alloc (.cells (rtC zeroS).toArray 28)) := by
  unfold execOp
  rw [ho]
  kernel_rfl
theorem alloc_sg (f : Operand → Value) (o : Oper) (ho : o.op = .alloc 31) (w : World) : (execOp f o).run Tryd.prog w = .ok (.value (.pointer (some ⟨w.heap.size, 0, none⟩))) (w.alloc (.cells (sgC zeroS (.slice none 0 0)).toArray 31)) := by
  unfold execOp
  rw [ho]
  kernel_rfl
/-- a new block -/
structure NewR (cs : List Value) (t : TypeId) (w : World) (g : Nat) (w' : World) : Prop where
  ge : w.heap.size ≤ g
  blk : Blk w' g cs t
  below : Below w.heap.size w w'
theorem NewR.of (cs : List Value) (t : TypeId) (w : World) : NewR cs t w w.heap.size (w.alloc (.cells cs.toArray t)) := ⟨Nat.le_refl _, Blk.new w cs t, below_alloc w _⟩
theorem wpSeq_allocH {ops : Array Oper} {Q : Exit → Act → World → Prop} {rest : List Oper} {o : Oper} {a : Act} {w : World} (ho : o.op = .alloc 26) (hw : Region.wanted o (yielded ops a.tmps) = true)
    (h : ∀ g w', NewR (hdC zeroH) 26 w g w' → wpList Tryd.prog ops Q rest (a.put o.dst (.pointer (some ⟨g, 0, none⟩))) w') : wpList Tryd.prog ops Q (o :: rest) a w :=
  wpSeq_val _ _ hw (alloc_hd _ _ ho _) (h _ _ (NewR.of _ _ w))
theorem wpSeq_allocR {ops : Array Oper} {Q : Exit → Act → World → Prop} {rest : List Oper} {o : Oper} {a : Act} {w : World} (ho : o.op = .alloc 28) (hw : Region.wanted o (yielded ops a.tmps) = true)
    (h : ∀ g w', NewR (rtC zeroS) 28 w g w' → wpList Tryd.prog ops Q rest (a.put o.dst (.pointer (some ⟨g, 0, none⟩))) w') : wpList Tryd.prog ops Q (o :: rest) a w :=
  wpSeq_val _ _ hw (alloc_rt _ _ ho _) (h _ _ (NewR.of _ _ w))
theorem wpSeq_allocS {ops : Array Oper} {Q : Exit → Act → World → Prop} {rest : List Oper} {o : Oper} {a : Act} {w : World} (ho : o.op = .alloc 31) (hw : Region.wanted o (yielded ops a.tmps) = true)
    (h : ∀ g w', NewR (sgC zeroS (.slice none 0 0)) 31 w g w' → wpList Tryd.prog ops Q rest (a.put o.dst (.pointer (some ⟨g, 0, none⟩))) w') : wpList Tryd.prog ops Q (o :: rest) a w :=
  wpSeq_val _ _ hw (alloc_sg _ _ ho _) (h _ _ (NewR.of _ _ w))
theorem wpSeq_boxW {ops : Array Oper} {Q : Exit → Act → World → Prop} {rest : List Oper} {o : Oper} {a : Act} {w : World} (ty : TypeId) (x : Operand) (cs : List Value) (ho : o.op = .box ty x) (hx : a.eval x = .agg cs.toArray) (hw : Region.wanted o (yielded ops a.tmps) = true)
    (h : ∀ g w', NewR cs ty w g w' → wpList Tryd.prog ops Q rest (a.put o.dst (.pointer (some ⟨g, 0, none⟩))) w') : wpList Tryd.prog ops Q (o :: rest) a w :=
  wpSeq_box ty x ho cs hx hw _ rfl (h _ _ (NewR.of cs ty w))
/-- a row stored whole -/
structure SetR (cs : List Value) (t : TypeId) (w : World) (g : Nat) (w' : World) : Prop where
  blk : Blk w' g cs t
  only : Only g w w'
theorem SetR.of {cs ns : List Value} {t : TypeId} {w : World} {g : Nat} (hb : Blk w g cs t) (hl : ns.length = cs.length) : SetR ns t w g (w.setCells g 0 ns) := ⟨hb.whole ns hl, Only.setCells _ _ _ (Only.refl g w)⟩
theorem wpSeq_storeRow {ops : Array Oper} {Q : Exit → Act → World → Prop} {rest : List Oper} {o : Oper} {a : Act} {w : World} (ty : TypeId) (x y : Operand) (g : Nat) (cs ns : List Value) (hb : Blk w g cs ty) (hl : ns.length = cs.length) (hi : (Tryd.prog.info? ty).map (·.size) = some ns.length) (h1 : ∀ v ∈ ns, v.oneCell' = true)
    (ho : o.op = .store ty x y) (hx : a.eval x = .pointer (some ⟨g, 0, none⟩)) (hy : a.eval y = .agg ns.toArray) (hgd : o.guard = none)
    (h : ∀ w', SetR ns ty w g w' → wpList Tryd.prog ops Q rest (a.put o.dst undef) w') : wpList Tryd.prog ops Q (o :: rest) a w :=
  wpList_store_mid hgd ty x y ho g 0 _ hx hy (hb.there 0 _ (by rw [List.size_toArray, hl]; omega)) (by rw [List.size_toArray]; exact hi) (all_oneCell_toArray h1)
    (by rw [List.toList_toArray]; exact h _ (SetR.of hb hl))
theorem hdC_one (h : HdT) : ∀ v ∈ hdC h, v.oneCell' = true := by
  intro v hv
  simp only [hdC, List.mem_cons, List.mem_append] at hv
  rcases hv with rfl | hv | hv
  · rfl
  · exact cb_one _ v hv
  · exact cb_one _ v hv
theorem rtC_one (s : SgT) : ∀ v ∈ rtC s, v.oneCell' = true := by
  intro v hv
  simp only [rtC, List.mem_cons, List.mem_append] at hv
  rcases hv with rfl | hv | hv | hv
  · rfl
  · exact cb_one _ v hv
  · exact cb_one _ v hv
  · exact cb_one _ v hv
theorem sgC_one (s : SgT) (ad : Option Addr) (n c : Nat) : ∀ v ∈ sgC s (.slice ad n c), v.oneCell' = true := by
  intro v hv
  rw [sgC_eq, List.mem_append, List.mem_singleton] at hv
  rcases hv with hv | rfl
  · exact rtC_one s v hv
  · rfl
/-- a row loaded whole, from wherever it lies -/
theorem wpSeq_loadW {ops : Array Oper} {Q : Exit → Act → World → Prop} {rest : List Oper} {o : Oper} {a : Act} {w : World} (ty : TypeId) (x : Operand) (b off : Nat) (cs : List Value) (d : TypeDesc) (hb : w.rangeAt b off cs) (hu : Tryd.prog.underlying ty = some d) (hd : d.isRow = true) (hi : (Tryd.prog.info? ty).map (·.size) = some cs.length) (ho : o.op = .load ty x) (hx : a.eval x = .pointer (some ⟨b, off, none⟩)) (hw : Region.wanted o (yielded ops a.tmps) = true)
    (h : wpList Tryd.prog ops Q rest (a.put o.dst (.agg cs.toArray)) w) : wpList Tryd.prog ops Q (o :: rest) a w :=
  wpSeq_val _ _ hw (load_run ty x ho b off hx cs d hb hu hd hi) h
theorem wpAnyH_storeRow {md : Region.Mode} {ops : Array Oper} {Q : Exit → Act → World → Prop} {S : World → Prop} {fuel : Nat} {listed : Array Bool} {a : Act} {w : World} (i : Nat) {oi : Oper} (ty : TypeId) (x y : Operand) (g : Nat) (cs ns : List Value) (hb : Blk w g cs ty) (hl : ns.length = cs.length) (hi0 : (Tryd.prog.info? ty).map (·.size) = some ns.length) (h1 : ∀ v ∈ ns, v.oneCell' = true)
    (hr : Region.ready md ops listed = [i]) (hi : ops[i]? = some oi) (hw : Region.wanted oi (yielded ops a.tmps) = true) (ho : oi.op = .store ty x y) (hx : a.eval x = .pointer (some ⟨g, 0, none⟩)) (hy : a.eval y = .agg ns.toArray)
    (h : ∀ w', SetR ns ty w g w' → S w' ∧ wpAnyH Tryd.prog md ops Q S fuel (listed.setIfInBounds i true) (a.put oi.dst undef) w') : wpAnyH Tryd.prog md ops Q S (fuel + 1) listed a w :=
  wpAnyH_law i hr hi hw (wp_store_mid ty x y ho g 0 ns.toArray hx hy (hb.there 0 _ (by rw [List.size_toArray, hl]; omega)) (by rw [List.size_toArray]; exact hi0) (all_oneCell_toArray h1) (by rw [List.toList_toArray]; exact h _ (SetR.of hb hl)))
/-- what results of a row and of plain ones tell -/
theorem var_hd {w : World} {g : Nat} {h : HdT} (hb : Blk w g (hdC h) 26) (oh : okH h) : (loadVar 26 ⟨g, 0, none⟩).run Tryd.prog w = .ok (.agg (hdC h).toArray) w :=
  run_loadVar_row (P := Tryd.prog) w g 26 26 (hdC h).toArray (0, 0) _ hb Tryd.underlying26 rfl (by rw [List.size_toArray]; exact info_hdC oh)
theorem var_sg {w : World} {g : Nat} {s : SgT} {vs : Value} (hb : Blk w g (sgC s vs) 31) (os : okS s) : (loadVar 31 ⟨g, 0, none⟩).run Tryd.prog w = .ok (.agg (sgC s vs).toArray) w :=
  run_loadVar_row (P := Tryd.prog) w g 31 31 (sgC s vs).toArray (0, 0) _ hb Tryd.underlying31 rfl (by rw [List.size_toArray]; exact info_sgC os vs)
theorem results_row_tmp {fn : Func} {p u : Tmp} {ty : TypeId} (h : fn.results = #[.cell p ty, .tmp u]) (tmps : Array Value) (w : World) (g : Nat) (v : Value) (hp : tmps.getD p undef = .pointer (some ⟨g, 0, none⟩)) (e1 : (loadVar ty ⟨g, 0, none⟩).run Tryd.prog w = .ok v w) :
    (results fn tmps).run Tryd.prog w = .ok (.tuple #[v, tmps.getD u undef]) w := by
  have hp' : tmps[p]?.getD undef = .pointer (some ⟨g, 0, none⟩) := by simpa using hp
  simp [results, h, hp', asAddr, e1]
theorem results_row_tmp2 {fn : Func} {p u x : Tmp} {ty : TypeId} (h : fn.results = #[.cell p ty, .tmp u, .tmp x]) (tmps : Array Value) (w : World) (g : Nat) (v : Value) (hp : tmps.getD p undef = .pointer (some ⟨g, 0, none⟩)) (e1 : (loadVar ty ⟨g, 0, none⟩).run Tryd.prog w = .ok v w) :
    (results fn tmps).run Tryd.prog w = .ok (.tuple #[v, tmps.getD u undef, tmps.getD x undef]) w := by
  have hp' : tmps[p]?.getD undef = .pointer (some ⟨g, 0, none⟩) := by simpa using hp
  simp [results, h, hp', asAddr, e1]
end Go.Proofs.YtfbdnhadcnmfoaaDoor

/- The four kinds of things; the walks of record's read, and of ReadBinding, ReadRequest, ReadSigned and ReadProof by what reads one. -/
import Derived.Test.YtldbcglakeggaaaRecAid
namespace Go.Proofs.Ytldbcglakeggaaa
open Go.RowKit
def bindV (nm : List (BitVec 8)) (vk : Value) (sr : Nat) : List Value := [.string (strB nm), vk, .int .u64 (sr : Int)]
def reqV (kd : Int) (nm : List (BitVec 8)) (vk : Value) (au : List (BitVec 8)) : List Value := .int .i64 kd :: .string (strB nm) :: vk :: cb au
def sgnV (ep : Nat) (x y z : List (BitVec 8)) (vs : Value) : List Value := .int .u64 (ep : Int) :: (cb x ++ (cb y ++ (cb z ++ [vs])))
def prfV (vs : Value) (en : Int) (ix va : List (BitVec 8)) : List Value := vs :: .int .i64 en :: (cb ix ++ cb va)
def flatD (ds : List (List (BitVec 8))) : List Value := (ds.map cb).flatten
/-- the slice v of digests, the call's own from block base on, holds ds -/
def OwnD (w : World) (base : Nat) (v : Value) (ds : List (List (BitVec 8))) : Prop := w.ownsRow base 28 32 v ds.length (flatD ds) ∧ ∀ d ∈ ds, d.length = 32
theorem OwnB.one {w : World} {base : Nat} {v : Value} {l : List (BitVec 8)} (h : OwnB w base v l) : v.oneCell' = true := by
  obtain ⟨ad, c, rfl, _⟩ := h.reads
  rfl
theorem OwnB.keep {w w' : World} {base : Nat} {v : Value} {l : List (BitVec 8)} (h : OwnB w base v l) (hs : ∀ k, base ≤ k → k < w.heap.size → w'.heap[k]? = w.heap[k]?) : OwnB w' base v l := h.same fun k hk => hs k (h.own k hk) (h.lt k hk)
theorem OwnD.one {w : World} {base : Nat} {v : Value} {ds : List (List (BitVec 8))} (h : OwnD w base v ds) : v.oneCell' = true := by
  rcases h.1 with ⟨_, ⟨rfl, _⟩ | ⟨g, cap, cur, rfl, _⟩⟩
  · rfl
  · rfl
theorem OwnD.keep {w w' : World} {base : Nat} {v : Value} {ds : List (List (BitVec 8))} (h : OwnD w base v ds) (hs : ∀ k, base ≤ k → k < w.heap.size → w'.heap[k]? = w.heap[k]?) : OwnD w' base v ds := by
  refine ⟨?_, h.2⟩
  have hlt := World.ownsRow.lt h.1
  rcases h.1 with ⟨h1, ⟨rfl, h2⟩ | ⟨g, cap, cur, rfl, hg, hh, h3⟩⟩
  · exact ⟨h1, Or.inl ⟨rfl, h2⟩⟩
  · exact ⟨h1, Or.inr ⟨g, cap, cur, rfl, hg, by rw [hs g hg (hlt g rfl).2]; exact hh, h3⟩⟩
theorem OwnD.mono {w : World} {base B : Nat} {v : Value} {ds : List (List (BitVec 8))} (h : OwnD w base v ds) (hB : B ≤ base) : OwnD w B v ds := by
  refine ⟨?_, h.2⟩
  rcases h.1 with ⟨h1, ⟨rfl, h2⟩ | ⟨g, cap, cur, rfl, hg, hh⟩⟩
  · exact ⟨h1, Or.inl ⟨rfl, h2⟩⟩
  · exact ⟨h1, Or.inr ⟨g, cap, cur, rfl, Nat.le_trans hB hg, hh⟩⟩
def nilV : Value := .slice none 0 0
def bindK : Kd (List (BitVec 8) × List (BitVec 8) × Nat) := { ty := 25, z := bindV [] nilV 0, G := fun w b a cs => ∃ vk, cs = bindV a.1 vk a.2.2 ∧ OwnB w b vk a.2.1 ∧ a.2.2 < 18446744073709551616 }
def reqK : Kd (Nat × List (BitVec 8) × List (BitVec 8) × List (BitVec 8)) := { ty := 38, z := reqV 0 [] nilV zb32, G := fun w b a cs => ∃ vk, cs = reqV (a.1 : Int) a.2.1 vk a.2.2.2 ∧ OwnB w b vk a.2.2.1 ∧ a.2.2.2.length = 32 ∧ a.1 ≤ 2 }
def sgnK : Kd (Nat × List (BitVec 8) × List (BitVec 8) × List (BitVec 8) × List (BitVec 8)) := { ty := 42, z := sgnV 0 zb32 zb32 zb32 nilV, G := fun w b a cs => ∃ vs, cs = sgnV a.1 a.2.1 a.2.2.1 a.2.2.2.1 vs ∧ OwnB w b vs a.2.2.2.2 ∧ a.2.1.length = 32 ∧ a.2.2.1.length = 32 ∧ a.2.2.2.1.length = 32 ∧ a.1 < 18446744073709551616 }
def prfK : Kd (Nat × List (List (BitVec 8)) × Nat × List (BitVec 8) × List (BitVec 8)) := { ty := 30, z := prfV nilV 0 zb32 zb32, G := fun w b a cs => ∃ vs, cs = prfV vs (a.2.2.1 : Int) a.2.2.2.1 a.2.2.2.2 ∧ OwnD w b vs a.2.1 ∧ a.2.2.2.1.length = 32 ∧ a.2.2.2.2.length = 32 ∧ a.2.2.1 ≤ 1 ∧ a.2.1.length ≤ 256 }
theorem cb_one' {l : List (BitVec 8)} {v : Value} (h : v ∈ cb l) : v.oneCell' = true := cb_one l v h
theorem bindK_ok : KdOk bindK where
  info := by kernel_rfl
  len := by rintro w b a cs ⟨vk, rfl, _⟩; rfl
  one := by
    rintro w b a cs ⟨vk, rfl, ho, _⟩ v hv
    simp only [bindV, List.mem_cons, List.not_mem_nil, or_false] at hv
    rcases hv with rfl | rfl | rfl
    · rfl
    · exact ho.one
    · rfl
  same := by rintro w w' b a cs ⟨vk, rfl, ho, h⟩ hs; exact ⟨vk, rfl, ho.keep hs, h⟩
  mono := by rintro w b b' a cs ⟨vk, rfl, ho, h⟩ hb; exact ⟨vk, rfl, ho.mono hb, h⟩
  zone := by
    intro v hv
    simp only [bindK, bindV, List.mem_cons, List.not_mem_nil, or_false] at hv
    rcases hv with rfl | rfl | rfl <;> rfl
theorem reqK_ok : KdOk reqK where
  info := by kernel_rfl
  len := by rintro w b a cs ⟨vk, rfl, _, h, _⟩; simp only [reqV, reqK, List.length_cons, cb_len, h, len_zb32]
  one := by
    rintro w b a cs ⟨vk, rfl, ho, _⟩ v hv
    simp only [reqV, List.mem_cons] at hv
    rcases hv with rfl | rfl | rfl | hv
    · rfl
    · rfl
    · exact ho.one
    · exact cb_one' hv
  same := by rintro w w' b a cs ⟨vk, rfl, ho, h⟩ hs; exact ⟨vk, rfl, ho.keep hs, h⟩
  mono := by rintro w b b' a cs ⟨vk, rfl, ho, h⟩ hb; exact ⟨vk, rfl, ho.mono hb, h⟩
  zone := by
    intro v hv
    simp only [reqK, reqV, List.mem_cons] at hv
    rcases hv with rfl | rfl | rfl | hv
    · rfl
    · rfl
    · rfl
    · exact cb_one' hv
theorem sgnK_ok : KdOk sgnK where
  info := by kernel_rfl
  len := by rintro w b a cs ⟨vk, rfl, _, h1, h2, h3, _⟩; simp only [sgnV, sgnK, List.length_cons, List.length_append, List.length_nil, cb_len, h1, h2, h3, len_zb32]
  one := by
    rintro w b a cs ⟨vk, rfl, ho, _⟩ v hv
    simp only [sgnV, List.mem_cons, List.mem_append, List.not_mem_nil, or_false] at hv
    rcases hv with rfl | hv | hv | hv | rfl
    · rfl
    · exact cb_one' hv
    · exact cb_one' hv
    · exact cb_one' hv
    · exact ho.one
  same := by rintro w w' b a cs ⟨vk, rfl, ho, h⟩ hs; exact ⟨vk, rfl, ho.keep hs, h⟩
  mono := by rintro w b b' a cs ⟨vk, rfl, ho, h⟩ hb; exact ⟨vk, rfl, ho.mono hb, h⟩
  zone := by
    intro v hv
    simp only [sgnK, sgnV, List.mem_cons, List.mem_append, List.not_mem_nil, or_false] at hv
    rcases hv with rfl | hv | hv | hv | rfl
    · rfl
    · exact cb_one' hv
    · exact cb_one' hv
    · exact cb_one' hv
    · rfl
theorem prfK_ok : KdOk prfK where
  info := by kernel_rfl
  len := by rintro w b a cs ⟨vk, rfl, _, h1, h2, _⟩; simp only [prfV, prfK, List.length_cons, List.length_append, cb_len, h1, h2, len_zb32]
  one := by
    rintro w b a cs ⟨vk, rfl, ho, _⟩ v hv
    simp only [prfV, List.mem_cons, List.mem_append] at hv
    rcases hv with rfl | rfl | hv | hv
    · exact ho.one
    · rfl
    · exact cb_one' hv
    · exact cb_one' hv
  same := by rintro w w' b a cs ⟨vk, rfl, ho, h⟩ hs; exact ⟨vk, rfl, ho.keep hs, h⟩
  mono := by rintro w b b' a cs ⟨vk, rfl, ho, h⟩ hb; exact ⟨vk, rfl, ho.mono hb, h⟩
  zone := by
    intro v hv
    simp only [prfK, prfV, List.mem_cons, List.mem_append] at hv
    rcases hv with rfl | rfl | hv | hv
    · rfl
    · rfl
    · exact cb_one' hv
    · exact cb_one' hv
theorem allocBinding (f : Operand → Value) (o : Oper) (ho : o.op = .alloc 25) (w : World) : (execOp f o).run Try.prog w = .ok (.value (.pointer (some ⟨w.heap.size, 0, none⟩))) (w.alloc (.cells bindK.z.toArray 25)) := by
  unfold execOp
  rw [ho]
  kernel_rfl
theorem enter_ofBinding1 : ∀ xs w, (callFunc 61 xs).run Try.prog w = .ok (.enter 61 xs) w := fun _ _ => by kernel_rfl
set_option maxRecDepth 100000 in
set_option maxHeartbeats 1000000 in
theorem ofBinding1_any {spec} (hOne : OneDoes bindK 46 spec) (hnil : spec [] = none) (g : Nat) (vb : Value) (l : List (BitVec 8)) (w1 : World) (h : At1 bindK 46 74 g vb l w1) :
    Calls Try.prog 61 #[.pointer (some ⟨g + 6, 0, none⟩), .pointer (some ⟨g, 0, none⟩), .pointer (some ⟨g + 2, 0, none⟩)] w1 (Does (g + 3) (RA bindK spec g l w1) (RB spec g l w1) w1) := by
  have HA : Hid (At1 bindK 46 74 g vb l w1) := h
  have HN : Hid (spec [] = none) := hnil
  have HO : Hid (OneDoes bindK 46 spec) := hOne
  have c0 : w1.cell? ⟨g, 0, none⟩ = some (.func (.func 46) #[] #[]) := h.fn.cell 0
  clear h hnil hOne
  go_enter Try.func61, Try.ntmps61
  go_wp2_with fail
  refine Calls.mono (HO.out (g + 6) (g + 4) vb l w1 HA.out.rd) ?_
  rintro e w2 (⟨a, r, va, v2, hs, rfl, ⟨cs, rfl, hG⟩, hrd, ho, hob⟩ | ⟨hs, hT⟩)
  case inr =>
    have HD : Hid (Does (g + 3) (RA bindK spec g l w1) (RB spec g l w1) w1 (thrown (g + 4)) w2) := HA.out.threw hT hs
    obtain rfl := hT.eq
    unfold thrown at HD ⊢
    clear hT HA hs
    go_wp2
    exact ⟨rfl, HD.out⟩
  have HD : Hid (Does (g + 3) (RA bindK spec g l w1) (RB spec g l w1) w1 (.returned (.tuple #[])) (w2.setCells (g + 2) 0 cs)) := HA.out.done bindK_ok HN.out hs hG hrd ho hob
  have HT : Hid (w2.there (g + 2) 0 cs.toArray.size) := HA.out.there bindK_ok ho hG
  have HI : Hid ((Try.prog.info? 25).map (·.size) = some cs.toArray.size) := bindK_ok.size hG
  have H1 : Hid (cs.toArray.all (·.oneCell') = true) := all_oneCell_toArray (bindK_ok.one hG)
  clear hs hG hrd ho hob HA c0
  go_wp2_with (refine wpList_store_mid rfl 25 _ _ rfl (g + 2) 0 cs.toArray rfl rfl HT.out HI.out H1.out ?_)
  go_end0
  exact HD.out
set_option maxRecDepth 100000 in
set_option maxHeartbeats 1000000 in
theorem ofBinding_any {spec} (hOne : OneDoes bindK 46 spec) (hnil : spec [] = none) (vb : Value) (l : List (BitVec 8)) (w : World) (hb : Reads w vb l) :
    Calls Try.prog 45 #[vb, .func (.func 46) #[] #[]] w (RdRes bindK w (whole (spec l))) := by
  have hmf : ∀ (fn : Fn) (first cap : Array Value) (w : World), (Instr.makeFunc fn first cap).run Try.prog w = .ok (.func fn first cap) w := fun _ _ _ _ => rfl
  obtain ⟨g, HG⟩ : ∃ g, Hid (w.heap.size = g) := ⟨_, rfl⟩
  have HRd : Hid (Calls Try.prog 60 #[vb, .func (.func 61) #[] #[.pointer (some ⟨g, 0, none⟩), .pointer (some ⟨g + 2, 0, none⟩)]] (w3 bindK 46 74 w) fun e w' => ∃ en, e = .returned (.int .i64 en) ∧ RdoT bindK spec g l w w' en) :=
    rd_of bindK_ok 46 61 74 spec enter_ofBinding1 (fun g vb l w1 h => ofBinding1_any hOne hnil g vb l w1 h) g vb l w HG.out hb
  clear hb hOne hnil
  go_enter Try.func45, Try.ntmps45
  go_wp2_with fail
  generalize hoz : Obj.cells _ 25 = oz
  have hz : oz = Obj.cells bindK.z.toArray 25 := hoz.symm
  clear hoz
  subst hz
  have e0 : (some ⟨w.heap.size, 0, none⟩ : Option Addr) = some ⟨g, 0, none⟩ := by rw [HG.out]
  have e1 : (some ⟨w.heap.size + 1, 0, none⟩ : Option Addr) = some ⟨g + 1, 0, none⟩ := by rw [HG.out]
  have e2 : (some ⟨w.heap.size + 1 + 1, 0, none⟩ : Option Addr) = some ⟨g + 2, 0, none⟩ := by rw [HG.out]
  simp only [e0, e1, e2]
  clear e0 e1 e2
  refine Calls.mono HRd.out ?_
  rintro e w5 ⟨en, rfl, hO⟩
  have HO : Hid (RdoT bindK spec g l w w5 en) := hO
  clear hO HRd
  rcases HO.out.out with ⟨rfl, a, cs, hw, b2, hG⟩ | ⟨rfl, hw⟩
  · have HW : Hid (whole (spec l) = some a) := hw
    have HGG : Hid (bindK.G w5 (g + 7) a cs) := hG
    have HR : Hid (Blk w5 (g + 1) bindK.z 25) := HO.out.res
    have HB2 : Hid (Blk w5 (g + 2) cs 25) := b2
    have HI : Hid ((Try.prog.info? 25).map (·.size) = some cs.length) := by have := bindK_ok.size hG; rw [List.size_toArray] at this; exact this
    have H1 : Hid (cs.toArray.all (·.oneCell') = true) := all_oneCell_toArray (bindK_ok.one hG)
    have HLN : Hid (cs.length = bindK.z.length) := bindK_ok.len hG
    clear hw hG b2
    go_wp2_with (first
      | (refine wpSeq_val (.agg cs.toArray) _ (by rfl) (load_run 25 _ rfl (g + 2) 0 rfl cs _ HB2.out.range Try.underlying25 rfl HI.out) ?_)
      | (refine wpList_store_mid rfl 25 _ _ rfl (g + 1) 0 cs.toArray rfl rfl (HR.out.there 0 _ (by rw [List.size_toArray, HLN.out]; omega)) (by rw [List.size_toArray]; exact HI.out) H1.out ?_))
    have hB6 := HR.out.whole cs HLN.out
    have ha : At (g + 1) w5 (w5.setCells (g + 1) 0 cs) := At.setCells _ _ _ (At.refl _ _)
    refine bodyPost_ret (v := .tuple #[.agg cs.toArray, .int .i64 0]) (results_row_tmp (by rfl) _ _ _ (g + 1) 25 cs _ (.int .i64 0) rfl rfl hB6 Try.underlying25 rfl HI.out) rfl ⟨?_, Or.inl ⟨a, cs, HW.out, rfl, ?_⟩⟩
    · rw [HG.out]
      exact Below.setCells _ (by omega) _ _ _ HO.out.bel
    · rw [HG.out]
      exact bindK_ok.mono (bindK_ok.same HGG.out fun k h1 _ => ha.block k (by omega)) (by omega)
  · have HW : Hid (whole (spec l) = none) := hw
    have HR : Hid (Blk w5 (g + 1) bindK.z 25) := HO.out.res
    have HI : Hid ((Try.prog.info? 25).map (·.size) = some bindK.z.length) := bindK_ok.info
    have H1 : Hid (bindK.z.toArray.all (·.oneCell') = true) := all_oneCell_toArray bindK_ok.zone
    have HRA : Hid (Blk (w5.alloc (.cells bindK.z.toArray 25)) (g + 1) bindK.z 25) := HR.out.alloc _
    have HNA : Hid (Blk (w5.alloc (.cells bindK.z.toArray 25)) w5.heap.size bindK.z 25) := Blk.new _ _ _
    clear hw HR
    go_wp2_with (first
      | (refine wpSeq_val (.pointer (some ⟨w5.heap.size, 0, none⟩)) (w5.alloc (.cells bindK.z.toArray 25)) (by rfl) (allocBinding _ _ rfl _) ?_)
      | (refine wpSeq_val (.agg bindK.z.toArray) _ (by rfl) (load_run 25 _ rfl w5.heap.size 0 rfl bindK.z _ HNA.out.range Try.underlying25 rfl HI.out) ?_)
      | (refine wpList_store_mid rfl 25 _ _ rfl (g + 1) 0 bindK.z.toArray rfl rfl (HRA.out.there 0 _ (by rw [List.size_toArray]; omega)) (by rw [List.size_toArray]; exact HI.out) H1.out ?_))
    have hB6 := HRA.out.whole bindK.z rfl
    refine bodyPost_ret (v := .tuple #[.agg bindK.z.toArray, .int .i64 3]) (results_row_tmp (by rfl) _ _ _ (g + 1) 25 bindK.z _ (.int .i64 3) rfl rfl hB6 Try.underlying25 rfl HI.out) rfl ⟨?_, Or.inr ⟨HW.out, rfl⟩⟩
    rw [HG.out]
    exact Below.setCells _ (by omega) _ _ _ (HO.out.bel.alloc (by have := HO.out.sz; omega) _)
set_option maxRecDepth 100000 in
set_option maxHeartbeats 1000000 in
theorem rdBinding_any {spec} (hOne : OneDoes bindK 46 spec) (hnil : spec [] = none) (vb : Value) (l : List (BitVec 8)) (w : World) (hb : Reads w vb l) :
    Calls Try.prog 23 #[vb] w (RdRes bindK w (whole (spec l))) := by
  have HO : Hid (OneDoes bindK 46 spec) := hOne
  have HN : Hid (spec [] = none) := hnil
  have HB : Hid (Reads w vb l) := hb
  clear hOne hnil hb
  go_enter Try.func23, Try.ntmps23
  go_wp2_with fail
  generalize hoz : Obj.cells _ 25 = oz
  have hz : oz = Obj.cells bindK.z.toArray 25 := hoz.symm
  clear hoz
  subst hz
  have HB0 : Hid (Below w.heap.size w (w.alloc (.cells bindK.z.toArray 25))) := below_alloc _ _
  have HZ0 : Hid (Blk (w.alloc (.cells bindK.z.toArray 25)) w.heap.size bindK.z 25) := Blk.new _ _ _
  have HR0 : Hid (Reads (w.alloc (.cells bindK.z.toArray 25)) vb l) := HB.out.below HB0.out
  generalize w.alloc (.cells bindK.z.toArray 25) = w0 at *
  refine Calls.mono (ofBinding_any HO.out HN.out vb l w0 HR0.out) ?_
  rintro e w1 ⟨hb1, h⟩
  have HB1 : Hid (Below w.heap.size w w1) := HB0.out.trans (hb1.mono HB0.out.size)
  have HZ1 : Hid (Blk w1 w.heap.size bindK.z 25) := HZ0.out.below hb1 HZ0.out.lt
  have HLT : Hid (w.heap.size < w0.heap.size) := HZ0.out.lt
  clear hb1 HB0 HZ0 HR0 HB HO HN
  rcases h with ⟨a, cs, hw, rfl, hG⟩ | ⟨hw, rfl⟩
  · have HW : Hid (whole (spec l) = some a) := hw
    have HGG : Hid (bindK.G w1 w0.heap.size a cs) := hG
    have HI : Hid ((Try.prog.info? 25).map (·.size) = some cs.length) := by have := bindK_ok.size hG; rw [List.size_toArray] at this; exact this
    have H1 : Hid (cs.toArray.all (·.oneCell') = true) := all_oneCell_toArray (bindK_ok.one hG)
    have HLN : Hid (cs.length = bindK.z.length) := bindK_ok.len hG
    clear hw hG
    go_wp2_with (refine wpList_store_mid rfl 25 _ _ rfl w.heap.size 0 cs.toArray rfl rfl (HZ1.out.there 0 _ (by rw [List.size_toArray, HLN.out]; omega)) (by rw [List.size_toArray]; exact HI.out) H1.out ?_)
    have hB6 := HZ1.out.whole cs HLN.out
    have ha : At w.heap.size w1 (w1.setCells w.heap.size 0 cs) := At.setCells _ _ _ (At.refl _ _)
    refine bodyPost_ret (v := .tuple #[.agg cs.toArray, .int .i64 0]) (results_row_tmp (by rfl) _ _ _ w.heap.size 25 cs _ (.int .i64 0) rfl rfl hB6 Try.underlying25 rfl HI.out) rfl ⟨Below.setCells _ (Nat.le_refl _) _ _ _ HB1.out, Or.inl ⟨a, cs, HW.out, rfl, ?_⟩⟩
    have hlt := HLT.out
    exact bindK_ok.mono (bindK_ok.same HGG.out fun k h1 _ => ha.block k (by omega)) (by omega)
  · have HW : Hid (whole (spec l) = none) := hw
    have HI : Hid ((Try.prog.info? 25).map (·.size) = some bindK.z.length) := bindK_ok.info
    have H1 : Hid (bindK.z.toArray.all (·.oneCell') = true) := all_oneCell_toArray bindK_ok.zone
    clear hw
    go_wp2_with (refine wpList_store_mid rfl 25 _ _ rfl w.heap.size 0 bindK.z.toArray rfl rfl (HZ1.out.there 0 _ (by rw [List.size_toArray]; omega)) (by rw [List.size_toArray]; exact HI.out) H1.out ?_)
    have hB6 := HZ1.out.whole bindK.z rfl
    exact bodyPost_ret (v := .tuple #[.agg bindK.z.toArray, .int .i64 3]) (results_row_tmp (by rfl) _ _ _ w.heap.size 25 bindK.z _ (.int .i64 3) rfl rfl hB6 Try.underlying25 rfl HI.out) rfl ⟨Below.setCells _ (Nat.le_refl _) _ _ _ HB1.out, Or.inr ⟨HW.out, rfl⟩⟩
theorem allocRequest (f : Operand → Value) (o : Oper) (ho : o.op = .alloc 38) (w : World) : (execOp f o).run Try.prog w = .ok (.value (.pointer (some ⟨w.heap.size, 0, none⟩))) (w.alloc (.cells reqK.z.toArray 38)) := by
  unfold execOp
  rw [ho]
  kernel_rfl
theorem enter_ofRequest1 : ∀ xs w, (callFunc 65 xs).run Try.prog w = .ok (.enter 65 xs) w := fun _ _ => by kernel_rfl
set_option maxRecDepth 100000 in
set_option maxHeartbeats 1000000 in
theorem ofRequest1_any {spec} (hOne : OneDoes reqK 51 spec) (hnil : spec [] = none) (g : Nat) (vb : Value) (l : List (BitVec 8)) (w1 : World) (h : At1 reqK 51 81 g vb l w1) :
    Calls Try.prog 65 #[.pointer (some ⟨g + 6, 0, none⟩), .pointer (some ⟨g, 0, none⟩), .pointer (some ⟨g + 2, 0, none⟩)] w1 (Does (g + 3) (RA reqK spec g l w1) (RB spec g l w1) w1) := by
  have HA : Hid (At1 reqK 51 81 g vb l w1) := h
  have HN : Hid (spec [] = none) := hnil
  have HO : Hid (OneDoes reqK 51 spec) := hOne
  have c0 : w1.cell? ⟨g, 0, none⟩ = some (.func (.func 51) #[] #[]) := h.fn.cell 0
  clear h hnil hOne
  go_enter Try.func65, Try.ntmps65
  go_wp2_with fail
  refine Calls.mono (HO.out (g + 6) (g + 4) vb l w1 HA.out.rd) ?_
  rintro e w2 (⟨a, r, va, v2, hs, rfl, ⟨cs, rfl, hG⟩, hrd, ho, hob⟩ | ⟨hs, hT⟩)
  case inr =>
    have HD : Hid (Does (g + 3) (RA reqK spec g l w1) (RB spec g l w1) w1 (thrown (g + 4)) w2) := HA.out.threw hT hs
    obtain rfl := hT.eq
    unfold thrown at HD ⊢
    clear hT HA hs
    go_wp2
    exact ⟨rfl, HD.out⟩
  have HD : Hid (Does (g + 3) (RA reqK spec g l w1) (RB spec g l w1) w1 (.returned (.tuple #[])) (w2.setCells (g + 2) 0 cs)) := HA.out.done reqK_ok HN.out hs hG hrd ho hob
  have HT : Hid (w2.there (g + 2) 0 cs.toArray.size) := HA.out.there reqK_ok ho hG
  have HI : Hid ((Try.prog.info? 38).map (·.size) = some cs.toArray.size) := reqK_ok.size hG
  have H1 : Hid (cs.toArray.all (·.oneCell') = true) := all_oneCell_toArray (reqK_ok.one hG)
  clear hs hG hrd ho hob HA c0
  go_wp2_with (refine wpList_store_mid rfl 38 _ _ rfl (g + 2) 0 cs.toArray rfl rfl HT.out HI.out H1.out ?_)
  go_end0
  exact HD.out
set_option maxRecDepth 100000 in
set_option maxHeartbeats 1000000 in
theorem ofRequest_any {spec} (hOne : OneDoes reqK 51 spec) (hnil : spec [] = none) (vb : Value) (l : List (BitVec 8)) (w : World) (hb : Reads w vb l) :
    Calls Try.prog 50 #[vb, .func (.func 51) #[] #[]] w (RdRes reqK w (whole (spec l))) := by
  have hmf : ∀ (fn : Fn) (first cap : Array Value) (w : World), (Instr.makeFunc fn first cap).run Try.prog w = .ok (.func fn first cap) w := fun _ _ _ _ => rfl
  obtain ⟨g, HG⟩ : ∃ g, Hid (w.heap.size = g) := ⟨_, rfl⟩
  have HRd : Hid (Calls Try.prog 60 #[vb, .func (.func 65) #[] #[.pointer (some ⟨g, 0, none⟩), .pointer (some ⟨g + 2, 0, none⟩)]] (w3 reqK 51 81 w) fun e w' => ∃ en, e = .returned (.int .i64 en) ∧ RdoT reqK spec g l w w' en) :=
    rd_of reqK_ok 51 65 81 spec enter_ofRequest1 (fun g vb l w1 h => ofRequest1_any hOne hnil g vb l w1 h) g vb l w HG.out hb
  clear hb hOne hnil
  go_enter Try.func50, Try.ntmps50
  go_wp2_with fail
  generalize hoz : Obj.cells _ 38 = oz
  have hz : oz = Obj.cells reqK.z.toArray 38 := hoz.symm
  clear hoz
  subst hz
  have e0 : (some ⟨w.heap.size, 0, none⟩ : Option Addr) = some ⟨g, 0, none⟩ := by rw [HG.out]
  have e1 : (some ⟨w.heap.size + 1, 0, none⟩ : Option Addr) = some ⟨g + 1, 0, none⟩ := by rw [HG.out]
  have e2 : (some ⟨w.heap.size + 1 + 1, 0, none⟩ : Option Addr) = some ⟨g + 2, 0, none⟩ := by rw [HG.out]
  simp only [e0, e1, e2]
  clear e0 e1 e2
  refine Calls.mono HRd.out ?_
  rintro e w5 ⟨en, rfl, hO⟩
  have HO : Hid (RdoT reqK spec g l w w5 en) := hO
  clear hO HRd
  rcases HO.out.out with ⟨rfl, a, cs, hw, b2, hG⟩ | ⟨rfl, hw⟩
  · have HW : Hid (whole (spec l) = some a) := hw
    have HGG : Hid (reqK.G w5 (g + 7) a cs) := hG
    have HR : Hid (Blk w5 (g + 1) reqK.z 38) := HO.out.res
    have HB2 : Hid (Blk w5 (g + 2) cs 38) := b2
    have HI : Hid ((Try.prog.info? 38).map (·.size) = some cs.length) := by have := reqK_ok.size hG; rw [List.size_toArray] at this; exact this
    have H1 : Hid (cs.toArray.all (·.oneCell') = true) := all_oneCell_toArray (reqK_ok.one hG)
    have HLN : Hid (cs.length = reqK.z.length) := reqK_ok.len hG
    clear hw hG b2
    go_wp2_with (first
      | (refine wpSeq_val (.agg cs.toArray) _ (by rfl) (load_run 38 _ rfl (g + 2) 0 rfl cs _ HB2.out.range Try.underlying38 rfl HI.out) ?_)
      | (refine wpList_store_mid rfl 38 _ _ rfl (g + 1) 0 cs.toArray rfl rfl (HR.out.there 0 _ (by rw [List.size_toArray, HLN.out]; omega)) (by rw [List.size_toArray]; exact HI.out) H1.out ?_))
    have hB6 := HR.out.whole cs HLN.out
    have ha : At (g + 1) w5 (w5.setCells (g + 1) 0 cs) := At.setCells _ _ _ (At.refl _ _)
    refine bodyPost_ret (v := .tuple #[.agg cs.toArray, .int .i64 0]) (results_row_tmp (by rfl) _ _ _ (g + 1) 38 cs _ (.int .i64 0) rfl rfl hB6 Try.underlying38 rfl HI.out) rfl ⟨?_, Or.inl ⟨a, cs, HW.out, rfl, ?_⟩⟩
    · rw [HG.out]
      exact Below.setCells _ (by omega) _ _ _ HO.out.bel
    · rw [HG.out]
      exact reqK_ok.mono (reqK_ok.same HGG.out fun k h1 _ => ha.block k (by omega)) (by omega)
  · have HW : Hid (whole (spec l) = none) := hw
    have HR : Hid (Blk w5 (g + 1) reqK.z 38) := HO.out.res
    have HI : Hid ((Try.prog.info? 38).map (·.size) = some reqK.z.length) := reqK_ok.info
    have H1 : Hid (reqK.z.toArray.all (·.oneCell') = true) := all_oneCell_toArray reqK_ok.zone
    have HRA : Hid (Blk (w5.alloc (.cells reqK.z.toArray 38)) (g + 1) reqK.z 38) := HR.out.alloc _
    have HNA : Hid (Blk (w5.alloc (.cells reqK.z.toArray 38)) w5.heap.size reqK.z 38) := Blk.new _ _ _
    clear hw HR
    go_wp2_with (first
      | (refine wpSeq_val (.pointer (some ⟨w5.heap.size, 0, none⟩)) (w5.alloc (.cells reqK.z.toArray 38)) (by rfl) (allocRequest _ _ rfl _) ?_)
      | (refine wpSeq_val (.agg reqK.z.toArray) _ (by rfl) (load_run 38 _ rfl w5.heap.size 0 rfl reqK.z _ HNA.out.range Try.underlying38 rfl HI.out) ?_)
      | (refine wpList_store_mid rfl 38 _ _ rfl (g + 1) 0 reqK.z.toArray rfl rfl (HRA.out.there 0 _ (by rw [List.size_toArray]; omega)) (by rw [List.size_toArray]; exact HI.out) H1.out ?_))
    have hB6 := HRA.out.whole reqK.z rfl
    refine bodyPost_ret (v := .tuple #[.agg reqK.z.toArray, .int .i64 3]) (results_row_tmp (by rfl) _ _ _ (g + 1) 38 reqK.z _ (.int .i64 3) rfl rfl hB6 Try.underlying38 rfl HI.out) rfl ⟨?_, Or.inr ⟨HW.out, rfl⟩⟩
    rw [HG.out]
    exact Below.setCells _ (by omega) _ _ _ (HO.out.bel.alloc (by have := HO.out.sz; omega) _)
set_option maxRecDepth 100000 in
set_option maxHeartbeats 1000000 in
theorem rdRequest_any {spec} (hOne : OneDoes reqK 51 spec) (hnil : spec [] = none) (vb : Value) (l : List (BitVec 8)) (w : World) (hb : Reads w vb l) :
    Calls Try.prog 26 #[vb] w (RdRes reqK w (whole (spec l))) := by
  have HO : Hid (OneDoes reqK 51 spec) := hOne
  have HN : Hid (spec [] = none) := hnil
  have HB : Hid (Reads w vb l) := hb
  clear hOne hnil hb
  go_enter Try.func26, Try.ntmps26
  go_wp2_with fail
  generalize hoz : Obj.cells _ 38 = oz
  have hz : oz = Obj.cells reqK.z.toArray 38 := hoz.symm
  clear hoz
  subst hz
  have HB0 : Hid (Below w.heap.size w (w.alloc (.cells reqK.z.toArray 38))) := below_alloc _ _
  have HZ0 : Hid (Blk (w.alloc (.cells reqK.z.toArray 38)) w.heap.size reqK.z 38) := Blk.new _ _ _
  have HR0 : Hid (Reads (w.alloc (.cells reqK.z.toArray 38)) vb l) := HB.out.below HB0.out
  generalize w.alloc (.cells reqK.z.toArray 38) = w0 at *
  refine Calls.mono (ofRequest_any HO.out HN.out vb l w0 HR0.out) ?_
  rintro e w1 ⟨hb1, h⟩
  have HB1 : Hid (Below w.heap.size w w1) := HB0.out.trans (hb1.mono HB0.out.size)
  have HZ1 : Hid (Blk w1 w.heap.size reqK.z 38) := HZ0.out.below hb1 HZ0.out.lt
  have HLT : Hid (w.heap.size < w0.heap.size) := HZ0.out.lt
  clear hb1 HB0 HZ0 HR0 HB HO HN
  rcases h with ⟨a, cs, hw, rfl, hG⟩ | ⟨hw, rfl⟩
  · have HW : Hid (whole (spec l) = some a) := hw
    have HGG : Hid (reqK.G w1 w0.heap.size a cs) := hG
    have HI : Hid ((Try.prog.info? 38).map (·.size) = some cs.length) := by have := reqK_ok.size hG; rw [List.size_toArray] at this; exact this
    have H1 : Hid (cs.toArray.all (·.oneCell') = true) := all_oneCell_toArray (reqK_ok.one hG)
    have HLN : Hid (cs.length = reqK.z.length) := reqK_ok.len hG
    clear hw hG
    go_wp2_with (refine wpList_store_mid rfl 38 _ _ rfl w.heap.size 0 cs.toArray rfl rfl (HZ1.out.there 0 _ (by rw [List.size_toArray, HLN.out]; omega)) (by rw [List.size_toArray]; exact HI.out) H1.out ?_)
    have hB6 := HZ1.out.whole cs HLN.out
    have ha : At w.heap.size w1 (w1.setCells w.heap.size 0 cs) := At.setCells _ _ _ (At.refl _ _)
    refine bodyPost_ret (v := .tuple #[.agg cs.toArray, .int .i64 0]) (results_row_tmp (by rfl) _ _ _ w.heap.size 38 cs _ (.int .i64 0) rfl rfl hB6 Try.underlying38 rfl HI.out) rfl ⟨Below.setCells _ (Nat.le_refl _) _ _ _ HB1.out, Or.inl ⟨a, cs, HW.out, rfl, ?_⟩⟩
    have hlt := HLT.out
    exact reqK_ok.mono (reqK_ok.same HGG.out fun k h1 _ => ha.block k (by omega)) (by omega)
  · have HW : Hid (whole (spec l) = none) := hw
    have HI : Hid ((Try.prog.info? 38).map (·.size) = some reqK.z.length) := reqK_ok.info
    have H1 : Hid (reqK.z.toArray.all (·.oneCell') = true) := all_oneCell_toArray reqK_ok.zone
    clear hw
    go_wp2_with (refine wpList_store_mid rfl 38 _ _ rfl w.heap.size 0 reqK.z.toArray rfl rfl (HZ1.out.there 0 _ (by rw [List.size_toArray]; omega)) (by rw [List.size_toArray]; exact HI.out) H1.out ?_)
    have hB6 := HZ1.out.whole reqK.z rfl
    exact bodyPost_ret (v := .tuple #[.agg reqK.z.toArray, .int .i64 3]) (results_row_tmp (by rfl) _ _ _ w.heap.size 38 reqK.z _ (.int .i64 3) rfl rfl hB6 Try.underlying38 rfl HI.out) rfl ⟨Below.setCells _ (Nat.le_refl _) _ _ _ HB1.out, Or.inr ⟨HW.out, rfl⟩⟩
theorem allocSigned (f : Operand → Value) (o : Oper) (ho : o.op = .alloc 42) (w : World) : (execOp f o).run Try.prog w = .ok (.value (.pointer (some ⟨w.heap.size, 0, none⟩))) (w.alloc (.cells sgnK.z.toArray 42)) := by
  unfold execOp
  rw [ho]
  kernel_rfl
theorem enter_ofSigned1 : ∀ xs w, (callFunc 69 xs).run Try.prog w = .ok (.enter 69 xs) w := fun _ _ => by kernel_rfl
set_option maxRecDepth 100000 in
set_option maxHeartbeats 1000000 in
theorem ofSigned1_any {spec} (hOne : OneDoes sgnK 55 spec) (hnil : spec [] = none) (g : Nat) (vb : Value) (l : List (BitVec 8)) (w1 : World) (h : At1 sgnK 55 85 g vb l w1) :
    Calls Try.prog 69 #[.pointer (some ⟨g + 6, 0, none⟩), .pointer (some ⟨g, 0, none⟩), .pointer (some ⟨g + 2, 0, none⟩)] w1 (Does (g + 3) (RA sgnK spec g l w1) (RB spec g l w1) w1) := by
  have HA : Hid (At1 sgnK 55 85 g vb l w1) := h
  have HN : Hid (spec [] = none) := hnil
  have HO : Hid (OneDoes sgnK 55 spec) := hOne
  have c0 : w1.cell? ⟨g, 0, none⟩ = some (.func (.func 55) #[] #[]) := h.fn.cell 0
  clear h hnil hOne
  go_enter Try.func69, Try.ntmps69
  go_wp2_with fail
  refine Calls.mono (HO.out (g + 6) (g + 4) vb l w1 HA.out.rd) ?_
  rintro e w2 (⟨a, r, va, v2, hs, rfl, ⟨cs, rfl, hG⟩, hrd, ho, hob⟩ | ⟨hs, hT⟩)
  case inr =>
    have HD : Hid (Does (g + 3) (RA sgnK spec g l w1) (RB spec g l w1) w1 (thrown (g + 4)) w2) := HA.out.threw hT hs
    obtain rfl := hT.eq
    unfold thrown at HD ⊢
    clear hT HA hs
    go_wp2
    exact ⟨rfl, HD.out⟩
  have HD : Hid (Does (g + 3) (RA sgnK spec g l w1) (RB spec g l w1) w1 (.returned (.tuple #[])) (w2.setCells (g + 2) 0 cs)) := HA.out.done sgnK_ok HN.out hs hG hrd ho hob
  have HT : Hid (w2.there (g + 2) 0 cs.toArray.size) := HA.out.there sgnK_ok ho hG
  have HI : Hid ((Try.prog.info? 42).map (·.size) = some cs.toArray.size) := sgnK_ok.size hG
  have H1 : Hid (cs.toArray.all (·.oneCell') = true) := all_oneCell_toArray (sgnK_ok.one hG)
  clear hs hG hrd ho hob HA c0
  go_wp2_with (refine wpList_store_mid rfl 42 _ _ rfl (g + 2) 0 cs.toArray rfl rfl HT.out HI.out H1.out ?_)
  go_end0
  exact HD.out
set_option maxRecDepth 100000 in
set_option maxHeartbeats 1000000 in
theorem ofSigned_any {spec} (hOne : OneDoes sgnK 55 spec) (hnil : spec [] = none) (vb : Value) (l : List (BitVec 8)) (w : World) (hb : Reads w vb l) :
    Calls Try.prog 54 #[vb, .func (.func 55) #[] #[]] w (RdRes sgnK w (whole (spec l))) := by
  have hmf : ∀ (fn : Fn) (first cap : Array Value) (w : World), (Instr.makeFunc fn first cap).run Try.prog w = .ok (.func fn first cap) w := fun _ _ _ _ => rfl
  obtain ⟨g, HG⟩ : ∃ g, Hid (w.heap.size = g) := ⟨_, rfl⟩
  have HRd : Hid (Calls Try.prog 60 #[vb, .func (.func 69) #[] #[.pointer (some ⟨g, 0, none⟩), .pointer (some ⟨g + 2, 0, none⟩)]] (w3 sgnK 55 85 w) fun e w' => ∃ en, e = .returned (.int .i64 en) ∧ RdoT sgnK spec g l w w' en) :=
    rd_of sgnK_ok 55 69 85 spec enter_ofSigned1 (fun g vb l w1 h => ofSigned1_any hOne hnil g vb l w1 h) g vb l w HG.out hb
  clear hb hOne hnil
  go_enter Try.func54, Try.ntmps54
  go_wp2_with fail
  generalize hoz : Obj.cells _ 42 = oz
  have hz : oz = Obj.cells sgnK.z.toArray 42 := hoz.symm
  clear hoz
  subst hz
  have e0 : (some ⟨w.heap.size, 0, none⟩ : Option Addr) = some ⟨g, 0, none⟩ := by rw [HG.out]
  have e1 : (some ⟨w.heap.size + 1, 0, none⟩ : Option Addr) = some ⟨g + 1, 0, none⟩ := by rw [HG.out]
  have e2 : (some ⟨w.heap.size + 1 + 1, 0, none⟩ : Option Addr) = some ⟨g + 2, 0, none⟩ := by rw [HG.out]
  simp only [e0, e1, e2]
  clear e0 e1 e2
  refine Calls.mono HRd.out ?_
  rintro e w5 ⟨en, rfl, hO⟩
  have HO : Hid (RdoT sgnK spec g l w w5 en) := hO
  clear hO HRd
  rcases HO.out.out with ⟨rfl, a, cs, hw, b2, hG⟩ | ⟨rfl, hw⟩
  · have HW : Hid (whole (spec l) = some a) := hw
    have HGG : Hid (sgnK.G w5 (g + 7) a cs) := hG
    have HR : Hid (Blk w5 (g + 1) sgnK.z 42) := HO.out.res
    have HB2 : Hid (Blk w5 (g + 2) cs 42) := b2
    have HI : Hid ((Try.prog.info? 42).map (·.size) = some cs.length) := by have := sgnK_ok.size hG; rw [List.size_toArray] at this; exact this
    have H1 : Hid (cs.toArray.all (·.oneCell') = true) := all_oneCell_toArray (sgnK_ok.one hG)
    have HLN : Hid (cs.length = sgnK.z.length) := sgnK_ok.len hG
    clear hw hG b2
    go_wp2_with (first
      | (refine wpSeq_val (.agg cs.toArray) _ (by rfl) (load_run 42 _ rfl (g + 2) 0 rfl cs _ HB2.out.range Try.underlying42 rfl HI.out) ?_)
      | (refine wpList_store_mid rfl 42 _ _ rfl (g + 1) 0 cs.toArray rfl rfl (HR.out.there 0 _ (by rw [List.size_toArray, HLN.out]; omega)) (by rw [List.size_toArray]; exact HI.out) H1.out ?_))
    have hB6 := HR.out.whole cs HLN.out
    have ha : At (g + 1) w5 (w5.setCells (g + 1) 0 cs) := At.setCells _ _ _ (At.refl _ _)
    refine bodyPost_ret (v := .tuple #[.agg cs.toArray, .int .i64 0]) (results_row_tmp (by rfl) _ _ _ (g + 1) 42 cs _ (.int .i64 0) rfl rfl hB6 Try.underlying42 rfl HI.out) rfl ⟨?_, Or.inl ⟨a, cs, HW.out, rfl, ?_⟩⟩
    · rw [HG.out]
      exact Below.setCells _ (by omega) _ _ _ HO.out.bel
    · rw [HG.out]
      exact sgnK_ok.mono (sgnK_ok.same HGG.out fun k h1 _ => ha.block k (by omega)) (by omega)
  · have HW : Hid (whole (spec l) = none) := hw
    have HR : Hid (Blk w5 (g + 1) sgnK.z 42) := HO.out.res
    have HI : Hid ((Try.prog.info? 42).map (·.size) = some sgnK.z.length) := sgnK_ok.info
    have H1 : Hid (sgnK.z.toArray.all (·.oneCell') = true) := all_oneCell_toArray sgnK_ok.zone
    have HRA : Hid (Blk (w5.alloc (.cells sgnK.z.toArray 42)) (g + 1) sgnK.z 42) := HR.out.alloc _
    have HNA : Hid (Blk (w5.alloc (.cells sgnK.z.toArray 42)) w5.heap.size sgnK.z 42) := Blk.new _ _ _
    clear hw HR
    go_wp2_with (first
      | (refine wpSeq_val (.pointer (some ⟨w5.heap.size, 0, none⟩)) (w5.alloc (.cells sgnK.z.toArray 42)) (by rfl) (allocSigned _ _ rfl _) ?_)
      | (refine wpSeq_val (.agg sgnK.z.toArray) _ (by rfl) (load_run 42 _ rfl w5.heap.size 0 rfl sgnK.z _ HNA.out.range Try.underlying42 rfl HI.out) ?_)
      | (refine wpList_store_mid rfl 42 _ _ rfl (g + 1) 0 sgnK.z.toArray rfl rfl (HRA.out.there 0 _ (by rw [List.size_toArray]; omega)) (by rw [List.size_toArray]; exact HI.out) H1.out ?_))
    have hB6 := HRA.out.whole sgnK.z rfl
    refine bodyPost_ret (v := .tuple #[.agg sgnK.z.toArray, .int .i64 3]) (results_row_tmp (by rfl) _ _ _ (g + 1) 42 sgnK.z _ (.int .i64 3) rfl rfl hB6 Try.underlying42 rfl HI.out) rfl ⟨?_, Or.inr ⟨HW.out, rfl⟩⟩
    rw [HG.out]
    exact Below.setCells _ (by omega) _ _ _ (HO.out.bel.alloc (by have := HO.out.sz; omega) _)
set_option maxRecDepth 100000 in
set_option maxHeartbeats 1000000 in
theorem rdSigned_any {spec} (hOne : OneDoes sgnK 55 spec) (hnil : spec [] = none) (vb : Value) (l : List (BitVec 8)) (w : World) (hb : Reads w vb l) :
    Calls Try.prog 29 #[vb] w (RdRes sgnK w (whole (spec l))) := by
  have HO : Hid (OneDoes sgnK 55 spec) := hOne
  have HN : Hid (spec [] = none) := hnil
  have HB : Hid (Reads w vb l) := hb
  clear hOne hnil hb
  go_enter Try.func29, Try.ntmps29
  go_wp2_with fail
  generalize hoz : Obj.cells _ 42 = oz
  have hz : oz = Obj.cells sgnK.z.toArray 42 := hoz.symm
  clear hoz
  subst hz
  have HB0 : Hid (Below w.heap.size w (w.alloc (.cells sgnK.z.toArray 42))) := below_alloc _ _
  have HZ0 : Hid (Blk (w.alloc (.cells sgnK.z.toArray 42)) w.heap.size sgnK.z 42) := Blk.new _ _ _
  have HR0 : Hid (Reads (w.alloc (.cells sgnK.z.toArray 42)) vb l) := HB.out.below HB0.out
  generalize w.alloc (.cells sgnK.z.toArray 42) = w0 at *
  refine Calls.mono (ofSigned_any HO.out HN.out vb l w0 HR0.out) ?_
  rintro e w1 ⟨hb1, h⟩
  have HB1 : Hid (Below w.heap.size w w1) := HB0.out.trans (hb1.mono HB0.out.size)
  have HZ1 : Hid (Blk w1 w.heap.size sgnK.z 42) := HZ0.out.below hb1 HZ0.out.lt
  have HLT : Hid (w.heap.size < w0.heap.size) := HZ0.out.lt
  clear hb1 HB0 HZ0 HR0 HB HO HN
  rcases h with ⟨a, cs, hw, rfl, hG⟩ | ⟨hw, rfl⟩
  · have HW : Hid (whole (spec l) = some a) := hw
    have HGG : Hid (sgnK.G w1 w0.heap.size a cs) := hG
    have HI : Hid ((Try.prog.info? 42).map (·.size) = some cs.length) := by have := sgnK_ok.size hG; rw [List.size_toArray] at this; exact this
    have H1 : Hid (cs.toArray.all (·.oneCell') = true) := all_oneCell_toArray (sgnK_ok.one hG)
    have HLN : Hid (cs.length = sgnK.z.length) := sgnK_ok.len hG
    clear hw hG
    go_wp2_with (refine wpList_store_mid rfl 42 _ _ rfl w.heap.size 0 cs.toArray rfl rfl (HZ1.out.there 0 _ (by rw [List.size_toArray, HLN.out]; omega)) (by rw [List.size_toArray]; exact HI.out) H1.out ?_)
    have hB6 := HZ1.out.whole cs HLN.out
    have ha : At w.heap.size w1 (w1.setCells w.heap.size 0 cs) := At.setCells _ _ _ (At.refl _ _)
    refine bodyPost_ret (v := .tuple #[.agg cs.toArray, .int .i64 0]) (results_row_tmp (by rfl) _ _ _ w.heap.size 42 cs _ (.int .i64 0) rfl rfl hB6 Try.underlying42 rfl HI.out) rfl ⟨Below.setCells _ (Nat.le_refl _) _ _ _ HB1.out, Or.inl ⟨a, cs, HW.out, rfl, ?_⟩⟩
    have hlt := HLT.out
    exact sgnK_ok.mono (sgnK_ok.same HGG.out fun k h1 _ => ha.block k (by omega)) (by omega)
  · have HW : Hid (whole (spec l) = none) := hw
    have HI : Hid ((Try.prog.info? 42).map (·.size) = some sgnK.z.length) := sgnK_ok.info
    have H1 : Hid (sgnK.z.toArray.all (·.oneCell') = true) := all_oneCell_toArray sgnK_ok.zone
    clear hw
    go_wp2_with (refine wpList_store_mid rfl 42 _ _ rfl w.heap.size 0 sgnK.z.toArray rfl rfl (HZ1.out.there 0 _ (by rw [List.size_toArray]; omega)) (by rw [List.size_toArray]; exact HI.out) H1.out ?_)
    have hB6 := HZ1.out.whole sgnK.z rfl
    exact bodyPost_ret (v := .tuple #[.agg sgnK.z.toArray, .int .i64 3]) (results_row_tmp (by rfl) _ _ _ w.heap.size 42 sgnK.z _ (.int .i64 3) rfl rfl hB6 Try.underlying42 rfl HI.out) rfl ⟨Below.setCells _ (Nat.le_refl _) _ _ _ HB1.out, Or.inr ⟨HW.out, rfl⟩⟩
theorem allocProof (f : Operand → Value) (o : Oper) (ho : o.op = .alloc 30) (w : World) : (execOp f o).run Try.prog w = .ok (.value (.pointer (some ⟨w.heap.size, 0, none⟩))) (w.alloc (.cells prfK.z.toArray 30)) := by
  unfold execOp
  rw [ho]
  kernel_rfl
theorem enter_ofProof1 : ∀ xs w, (callFunc 71 xs).run Try.prog w = .ok (.enter 71 xs) w := fun _ _ => by kernel_rfl
set_option maxRecDepth 100000 in
set_option maxHeartbeats 1000000 in
theorem ofProof1_any {spec} (hOne : OneDoes prfK 57 spec) (hnil : spec [] = none) (g : Nat) (vb : Value) (l : List (BitVec 8)) (w1 : World) (h : At1 prfK 57 87 g vb l w1) :
    Calls Try.prog 71 #[.pointer (some ⟨g + 6, 0, none⟩), .pointer (some ⟨g, 0, none⟩), .pointer (some ⟨g + 2, 0, none⟩)] w1 (Does (g + 3) (RA prfK spec g l w1) (RB spec g l w1) w1) := by
  have HA : Hid (At1 prfK 57 87 g vb l w1) := h
  have HN : Hid (spec [] = none) := hnil
  have HO : Hid (OneDoes prfK 57 spec) := hOne
  have c0 : w1.cell? ⟨g, 0, none⟩ = some (.func (.func 57) #[] #[]) := h.fn.cell 0
  clear h hnil hOne
  go_enter Try.func71, Try.ntmps71
  go_wp2_with fail
  refine Calls.mono (HO.out (g + 6) (g + 4) vb l w1 HA.out.rd) ?_
  rintro e w2 (⟨a, r, va, v2, hs, rfl, ⟨cs, rfl, hG⟩, hrd, ho, hob⟩ | ⟨hs, hT⟩)
  case inr =>
    have HD : Hid (Does (g + 3) (RA prfK spec g l w1) (RB spec g l w1) w1 (thrown (g + 4)) w2) := HA.out.threw hT hs
    obtain rfl := hT.eq
    unfold thrown at HD ⊢
    clear hT HA hs
    go_wp2
    exact ⟨rfl, HD.out⟩
  have HD : Hid (Does (g + 3) (RA prfK spec g l w1) (RB spec g l w1) w1 (.returned (.tuple #[])) (w2.setCells (g + 2) 0 cs)) := HA.out.done prfK_ok HN.out hs hG hrd ho hob
  have HT : Hid (w2.there (g + 2) 0 cs.toArray.size) := HA.out.there prfK_ok ho hG
  have HI : Hid ((Try.prog.info? 30).map (·.size) = some cs.toArray.size) := prfK_ok.size hG
  have H1 : Hid (cs.toArray.all (·.oneCell') = true) := all_oneCell_toArray (prfK_ok.one hG)
  clear hs hG hrd ho hob HA c0
  go_wp2_with (refine wpList_store_mid rfl 30 _ _ rfl (g + 2) 0 cs.toArray rfl rfl HT.out HI.out H1.out ?_)
  go_end0
  exact HD.out
set_option maxRecDepth 100000 in
set_option maxHeartbeats 1000000 in
theorem ofProof_any {spec} (hOne : OneDoes prfK 57 spec) (hnil : spec [] = none) (vb : Value) (l : List (BitVec 8)) (w : World) (hb : Reads w vb l) :
    Calls Try.prog 56 #[vb, .func (.func 57) #[] #[]] w (RdRes prfK w (whole (spec l))) := by
  have hmf : ∀ (fn : Fn) (first cap : Array Value) (w : World), (Instr.makeFunc fn first cap).run Try.prog w = .ok (.func fn first cap) w := fun _ _ _ _ => rfl
  obtain ⟨g, HG⟩ : ∃ g, Hid (w.heap.size = g) := ⟨_, rfl⟩
  have HRd : Hid (Calls Try.prog 60 #[vb, .func (.func 71) #[] #[.pointer (some ⟨g, 0, none⟩), .pointer (some ⟨g + 2, 0, none⟩)]] (w3 prfK 57 87 w) fun e w' => ∃ en, e = .returned (.int .i64 en) ∧ RdoT prfK spec g l w w' en) :=
    rd_of prfK_ok 57 71 87 spec enter_ofProof1 (fun g vb l w1 h => ofProof1_any hOne hnil g vb l w1 h) g vb l w HG.out hb
  clear hb hOne hnil
  go_enter Try.func56, Try.ntmps56
  go_wp2_with fail
  generalize hoz : Obj.cells _ 30 = oz
  have hz : oz = Obj.cells prfK.z.toArray 30 := hoz.symm
  clear hoz
  subst hz
  have e0 : (some ⟨w.heap.size, 0, none⟩ : Option Addr) = some ⟨g, 0, none⟩ := by rw [HG.out]
  have e1 : (some ⟨w.heap.size + 1, 0, none⟩ : Option Addr) = some ⟨g + 1, 0, none⟩ := by rw [HG.out]
  have e2 : (some ⟨w.heap.size + 1 + 1, 0, none⟩ : Option Addr) = some ⟨g + 2, 0, none⟩ := by rw [HG.out]
  simp only [e0, e1, e2]
  clear e0 e1 e2
  refine Calls.mono HRd.out ?_
  rintro e w5 ⟨en, rfl, hO⟩
  have HO : Hid (RdoT prfK spec g l w w5 en) := hO
  clear hO HRd
  rcases HO.out.out with ⟨rfl, a, cs, hw, b2, hG⟩ | ⟨rfl, hw⟩
  · have HW : Hid (whole (spec l) = some a) := hw
    have HGG : Hid (prfK.G w5 (g + 7) a cs) := hG
    have HR : Hid (Blk w5 (g + 1) prfK.z 30) := HO.out.res
    have HB2 : Hid (Blk w5 (g + 2) cs 30) := b2
    have HI : Hid ((Try.prog.info? 30).map (·.size) = some cs.length) := by have := prfK_ok.size hG; rw [List.size_toArray] at this; exact this
    have H1 : Hid (cs.toArray.all (·.oneCell') = true) := all_oneCell_toArray (prfK_ok.one hG)
    have HLN : Hid (cs.length = prfK.z.length) := prfK_ok.len hG
    clear hw hG b2
    go_wp2_with (first
      | (refine wpSeq_val (.agg cs.toArray) _ (by rfl) (load_run 30 _ rfl (g + 2) 0 rfl cs _ HB2.out.range Try.underlying30 rfl HI.out) ?_)
      | (refine wpList_store_mid rfl 30 _ _ rfl (g + 1) 0 cs.toArray rfl rfl (HR.out.there 0 _ (by rw [List.size_toArray, HLN.out]; omega)) (by rw [List.size_toArray]; exact HI.out) H1.out ?_))
    have hB6 := HR.out.whole cs HLN.out
    have ha : At (g + 1) w5 (w5.setCells (g + 1) 0 cs) := At.setCells _ _ _ (At.refl _ _)
    refine bodyPost_ret (v := .tuple #[.agg cs.toArray, .int .i64 0]) (results_row_tmp (by rfl) _ _ _ (g + 1) 30 cs _ (.int .i64 0) rfl rfl hB6 Try.underlying30 rfl HI.out) rfl ⟨?_, Or.inl ⟨a, cs, HW.out, rfl, ?_⟩⟩
    · rw [HG.out]
      exact Below.setCells _ (by omega) _ _ _ HO.out.bel
    · rw [HG.out]
      exact prfK_ok.mono (prfK_ok.same HGG.out fun k h1 _ => ha.block k (by omega)) (by omega)
  · have HW : Hid (whole (spec l) = none) := hw
    have HR : Hid (Blk w5 (g + 1) prfK.z 30) := HO.out.res
    have HI : Hid ((Try.prog.info? 30).map (·.size) = some prfK.z.length) := prfK_ok.info
    have H1 : Hid (prfK.z.toArray.all (·.oneCell') = true) := all_oneCell_toArray prfK_ok.zone
    have HRA : Hid (Blk (w5.alloc (.cells prfK.z.toArray 30)) (g + 1) prfK.z 30) := HR.out.alloc _
    have HNA : Hid (Blk (w5.alloc (.cells prfK.z.toArray 30)) w5.heap.size prfK.z 30) := Blk.new _ _ _
    clear hw HR
    go_wp2_with (first
      | (refine wpSeq_val (.pointer (some ⟨w5.heap.size, 0, none⟩)) (w5.alloc (.cells prfK.z.toArray 30)) (by rfl) (allocProof _ _ rfl _) ?_)
      | (refine wpSeq_val (.agg prfK.z.toArray) _ (by rfl) (load_run 30 _ rfl w5.heap.size 0 rfl prfK.z _ HNA.out.range Try.underlying30 rfl HI.out) ?_)
      | (refine wpList_store_mid rfl 30 _ _ rfl (g + 1) 0 prfK.z.toArray rfl rfl (HRA.out.there 0 _ (by rw [List.size_toArray]; omega)) (by rw [List.size_toArray]; exact HI.out) H1.out ?_))
    have hB6 := HRA.out.whole prfK.z rfl
    refine bodyPost_ret (v := .tuple #[.agg prfK.z.toArray, .int .i64 3]) (results_row_tmp (by rfl) _ _ _ (g + 1) 30 prfK.z _ (.int .i64 3) rfl rfl hB6 Try.underlying30 rfl HI.out) rfl ⟨?_, Or.inr ⟨HW.out, rfl⟩⟩
    rw [HG.out]
    exact Below.setCells _ (by omega) _ _ _ (HO.out.bel.alloc (by have := HO.out.sz; omega) _)
set_option maxRecDepth 100000 in
set_option maxHeartbeats 1000000 in
theorem rdProof_any {spec} (hOne : OneDoes prfK 57 spec) (hnil : spec [] = none) (vb : Value) (l : List (BitVec 8)) (w : World) (hb : Reads w vb l) :
    Calls Try.prog 32 #[vb] w (RdRes prfK w (whole (spec l))) := by
  have HO : Hid (OneDoes prfK 57 spec) := hOne
  have HN : Hid (spec [] = none) := hnil
  have HB : Hid (Reads w vb l) := hb
  clear hOne hnil hb
  go_enter Try.func32, Try.ntmps32
  go_wp2_with fail
  generalize hoz : Obj.cells _ 30 = oz
  have hz : oz = Obj.cells prfK.z.toArray 30 := hoz.symm
  clear hoz
  subst hz
  have HB0 : Hid (Below w.heap.size w (w.alloc (.cells prfK.z.toArray 30))) := below_alloc _ _
  have HZ0 : Hid (Blk (w.alloc (.cells prfK.z.toArray 30)) w.heap.size prfK.z 30) := Blk.new _ _ _
  have HR0 : Hid (Reads (w.alloc (.cells prfK.z.toArray 30)) vb l) := HB.out.below HB0.out
  generalize w.alloc (.cells prfK.z.toArray 30) = w0 at *
  refine Calls.mono (ofProof_any HO.out HN.out vb l w0 HR0.out) ?_
  rintro e w1 ⟨hb1, h⟩
  have HB1 : Hid (Below w.heap.size w w1) := HB0.out.trans (hb1.mono HB0.out.size)
  have HZ1 : Hid (Blk w1 w.heap.size prfK.z 30) := HZ0.out.below hb1 HZ0.out.lt
  have HLT : Hid (w.heap.size < w0.heap.size) := HZ0.out.lt
  clear hb1 HB0 HZ0 HR0 HB HO HN
  rcases h with ⟨a, cs, hw, rfl, hG⟩ | ⟨hw, rfl⟩
  · have HW : Hid (whole (spec l) = some a) := hw
    have HGG : Hid (prfK.G w1 w0.heap.size a cs) := hG
    have HI : Hid ((Try.prog.info? 30).map (·.size) = some cs.length) := by have := prfK_ok.size hG; rw [List.size_toArray] at this; exact this
    have H1 : Hid (cs.toArray.all (·.oneCell') = true) := all_oneCell_toArray (prfK_ok.one hG)
    have HLN : Hid (cs.length = prfK.z.length) := prfK_ok.len hG
    clear hw hG
    go_wp2_with (refine wpList_store_mid rfl 30 _ _ rfl w.heap.size 0 cs.toArray rfl rfl (HZ1.out.there 0 _ (by rw [List.size_toArray, HLN.out]; omega)) (by rw [List.size_toArray]; exact HI.out) H1.out ?_)
    have hB6 := HZ1.out.whole cs HLN.out
    have ha : At w.heap.size w1 (w1.setCells w.heap.size 0 cs) := At.setCells _ _ _ (At.refl _ _)
    refine bodyPost_ret (v := .tuple #[.agg cs.toArray, .int .i64 0]) (results_row_tmp (by rfl) _ _ _ w.heap.size 30 cs _ (.int .i64 0) rfl rfl hB6 Try.underlying30 rfl HI.out) rfl ⟨Below.setCells _ (Nat.le_refl _) _ _ _ HB1.out, Or.inl ⟨a, cs, HW.out, rfl, ?_⟩⟩
    have hlt := HLT.out
    exact prfK_ok.mono (prfK_ok.same HGG.out fun k h1 _ => ha.block k (by omega)) (by omega)
  · have HW : Hid (whole (spec l) = none) := hw
    have HI : Hid ((Try.prog.info? 30).map (·.size) = some prfK.z.length) := prfK_ok.info
    have H1 : Hid (prfK.z.toArray.all (·.oneCell') = true) := all_oneCell_toArray prfK_ok.zone
    clear hw
    go_wp2_with (refine wpList_store_mid rfl 30 _ _ rfl w.heap.size 0 prfK.z.toArray rfl rfl (HZ1.out.there 0 _ (by rw [List.size_toArray]; omega)) (by rw [List.size_toArray]; exact HI.out) H1.out ?_)
    have hB6 := HZ1.out.whole prfK.z rfl
    exact bodyPost_ret (v := .tuple #[.agg prfK.z.toArray, .int .i64 3]) (results_row_tmp (by rfl) _ _ _ w.heap.size 30 prfK.z _ (.int .i64 3) rfl rfl hB6 Try.underlying30 rfl HI.out) rfl ⟨Below.setCells _ (Nat.le_refl _) _ _ _ HB1.out, Or.inr ⟨HW.out, rfl⟩⟩
end Go.Proofs.Ytldbcglakeggaaa

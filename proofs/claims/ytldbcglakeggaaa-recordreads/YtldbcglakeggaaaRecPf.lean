/- The walk of record's readProof. -/
import Derived.Test.YtldbcglakeggaaaRecRq
import Derived.Great.BuildSlice
namespace Go.Proofs.Ytldbcglakeggaaa
open Go.RowKit
theorem fill_one (cs : List Value) (h : cs.length = 32) (a0 : Array Value) (ha : a0.size = 32) : Instr.fill (fun i => some (i * 32, 32)) a0 [(0, .agg cs.toArray)] = some cs.toArray := by
  have hc : (Value.agg cs.toArray).cells = cs.toArray := rfl
  simp only [Instr.fill, hc, List.size_toArray, h, ha]
  rw [if_neg (by decide)]
  congr 1
  match cs, h with
  | [x0, x1, x2, x3, x4, x5, x6, x7, x8, x9, x10, x11, x12, x13, x14, x15, x16, x17, x18, x19, x20, x21, x22, x23, x24, x25, x26, x27, x28, x29, x30, x31], _ =>
    obtain ⟨l⟩ := a0
    match l, ha with
    | [y0, y1, y2, y3, y4, y5, y6, y7, y8, y9, y10, y11, y12, y13, y14, y15, y16, y17, y18, y19, y20, y21, y22, y23, y24, y25, y26, y27, y28, y29, y30, y31], _ =>
      refine id ?_
      show _ = _
      kernel_rfl
theorem Try.infod3 : (Try.prog.info? 28).map (fun i => (i.zero, i.size, i.bytes)) = some (some (.agg (cb zb32).toArray), 32, 32) := by kernel_rfl
theorem buildD (f : Operand → Value) (o : Oper) (x : Operand) (ho : o.op = .buildSlice 26 1 #[(0, x)]) (d : List (BitVec 8)) (hd : d.length = 32) (hx : f x = .agg (cb d).toArray) (w : World) :
    (execOp f o).run Try.prog w = .ok (.value (.slice (some ⟨w.heap.size, 0, none⟩) 1 1)) (w.alloc (.cells (cb d).toArray 28)) := by
  obtain ⟨i0, hi, hz, hs, _⟩ := info_parts Try.infod3
  have hr := run_buildSlice (P := Try.prog) w 26 28 1 #[(0, .agg (cb d).toArray)] (cb d).toArray i0 _ Try.underlying26 hi hz (by rw [hs]; decide) (by rw [hs]; decide) (by rw [hs]; exact fill_one (cb d) (by rw [cb_len, hd]) _ (by simp))
  unfold execOp
  rw [ho]
  simp only [List.map_toArray, List.map_cons, List.map_nil, hx, Sem.run_bind, hr, Result.andThen_ok, Sem.run_pure]
theorem flatD_len (ds : List (List (BitVec 8))) (h : ∀ d ∈ ds, d.length = 32) : (flatD ds).length = ds.length * 32 := by
  unfold flatD
  induction ds with
  | nil => rfl
  | cons d r ih =>
    rw [List.map_cons, List.flatten_cons, List.length_append, cb_len, h d (by simp), ih (fun x hx => h x (by simp [hx])), List.length_cons]
    omega
theorem flatD_snoc (ds : List (List (BitVec 8))) (d : List (BitVec 8)) : flatD (ds ++ [d]) = flatD ds ++ cb d := by
  unfold flatD
  simp
theorem OwnD.lt {w : World} {base : Nat} {v : Value} {ds : List (List (BitVec 8))} (h : OwnD w base v ds) : ∀ k, v.ownBlock = some k → base ≤ k ∧ k < w.heap.size := World.ownsRow.lt h.1
theorem OwnD.nil (w : World) (base : Nat) : OwnD w base nilV [] := ⟨World.ownsRow_nil _ _ _ _, by simp⟩
theorem OwnD.slice {w : World} {base : Nat} {v : Value} {ds : List (List (BitVec 8))} (h : OwnD w base v ds) : ∃ ad c, v = .slice ad ds.length c := by
  rcases h.1 with ⟨_, ⟨rfl, h2⟩ | ⟨g, cap, cur, rfl, _⟩⟩
  · exact ⟨none, 0, by rw [h2]⟩
  · exact ⟨_, _, rfl⟩
theorem wp_appendD {o : Oper} {a : Act} {w : World} {K : Act → World → Prop} {Q : Exit → Act → World → Prop} (s x : Operand) (ho : o.op = .call { callee := .builtin .append, args := #[s, x], argTypes := #[26, 26] }) (base : Nat) (v : Value) (ds : List (List (BitVec 8))) (d : List (BitVec 8)) (g : Nat)
    (hs : a.eval s = v) (hown : OwnD w base v ds) (hx : a.eval x = .slice (some ⟨g, 0, none⟩) 1 1) (hu : Blk w g (cb d) 28) (hd : d.length = 32) (hl : ds.length < 1000000) (hbase : base ≤ w.heap.size)
    (h : ∀ v' w', OwnD w' base v' (ds ++ [d]) → w.grownBy w' v.ownBlock → K (a.put o.dst v') w') : o.wp Try.prog a w K Q := by
  obtain ⟨i0, hi, hz0, hz1, hz2⟩ := info_parts Try.infod3
  refine wp_append_own w s x 26 ho base 28 i0 (.agg (cb zb32).toArray) 32 32 Try.underlying26 hi hz0 hz1 hz2 (by show (cb zb32).toArray.size = 32; rw [List.size_toArray, cb_len, len_zb32]) (by decide) v ds.length (flatD ds) hs hown.1 ⟨g, 0, none⟩ 1 1 (cb d) hx (by rw [cb_len, hd]) ?_ (cb_one d) (by unfold maxLen; omega) (by omega) hbase ?_
  · intro j u hj
    rw [Addr.add_mid, Nat.zero_add, hu.cell, hj]
  · intro v' w' h2 h3 _
    refine h v' w' ⟨?_, ?_⟩ h3
    · rw [flatD_snoc, List.length_append]; exact h2
    · intro e he
      rcases List.mem_append.1 he with he | he
      · exact hown.2 e he
      · rw [List.mem_singleton] at he; subst he; exact hd
theorem Nk.keep {w wc w' : World} {gr gi B : Nat} {v vc : Value} {lc : List (BitVec 8)} {t : TypeId} {z : List Value} (h : Nk w gr gi v vc lc t z wc) (hb : Below B wc w') (hB : w.heap.size < B) (hv : ∀ j, v.ownBlock = some j → j < w.heap.size) : Nk w gr gi v vc lc t z w' :=
  ⟨⟨h.rd.rd.below hb (by have := h.gr; omega), h.rd.inp.below hb (by have := h.gi; omega), h.rd.byt.keep hb (fun _ j hj => by have := hv j (h.ob ▸ hj); omega)⟩, ⟨hb.os.trans h.onl.os, hb.tape.trans h.onl.tape, hb.output.trans h.onl.output, Nat.le_trans h.onl.size hb.size, fun k h1 h2 => (hb.block k (by omega)).trans (h.onl.block k h1 h2)⟩, h.ob, h.res.below hb hB, h.gr, h.gi⟩
structure PfInv (w : World) (gr gi : Nat) (v : Value) (n : Nat) (r1 : List (BitVec 8)) (k : Nat) (ds : List (List (BitVec 8))) (rest : List (BitVec 8)) (wr : World) : Prop where
  le : k ≤ n
  len : ds.length = k
  eq : readAll (cut 32) n r1 = (readAll (cut 32) (n - k) rest).map (fun p => (ds ++ p.1, p.2))
  nk : ∃ vc, Nk w gr gi v vc rest 30 prfK.z wr
  row : ∃ vl, Blk wr (w.heap.size + 1) (prfV vl 0 zb32 zb32) 30 ∧ OwnD wr (w.heap.size + 2) vl ds
  sz : w.heap.size + 2 ≤ wr.heap.size
theorem PfInv.next {w wr w4 w6 : World} {gr gi n k : Nat} {v v2 vc vl vl2 : Value} {r1 rest rest2 d : List (BitVec 8)} {ds : List (List (BitVec 8))} (h : PfInv w gr gi v n r1 k ds rest wr) (hk : k < n) (hv : ∀ j, v.ownBlock = some j → j < w.heap.size)
    (hnk : Nk w gr gi v vc rest 30 prfK.z wr) (hbl : Blk wr (w.heap.size + 1) (prfV vl 0 zb32 zb32) 30) (hown : OwnD wr (w.heap.size + 2) vl ds)
    (hc : cut 32 rest = some (d, rest2)) (hrd : Rd w4 gr gi v2 rest2) (ho : Only gi wr w4) (hob : v2.ownBlock = vc.ownBlock) (hown6 : OwnD w6 (w.heap.size + 2) vl2 (ds ++ [d])) (hgr : (w4.alloc (.cells (cb d).toArray 28)).grownBy w6 vl.ownBlock) :
    PfInv w gr gi v n r1 (k + 1) (ds ++ [d]) rest2 (w6.setCell ⟨w.heap.size + 1, 0, none⟩ vl2) := by
  have hs4 : w.heap.size + 2 ≤ w4.heap.size := Nat.le_trans h.sz ho.size
  have b45 : Below (w.heap.size + 2) w4 (w4.alloc (.cells (cb d).toArray 28)) := (below_alloc w4 _).mono hs4
  have b46 := b45.trans ((Below.refl _ _).grown hgr (Nat.le_trans hs4 b45.size) (fun k hk => (hown.lt k hk).1))
  have hat : At (w.heap.size + 1) w6 (w6.setCell ⟨w.heap.size + 1, 0, none⟩ vl2) := (At.refl _ _).setCell _ _
  have hbl6 : Blk w6 (w.heap.size + 1) (prfV vl 0 zb32 zb32) 30 := (hbl.only ho (by have := hnk.gi; omega)).below b46 (by omega)
  refine ⟨by omega, by rw [List.length_append, h.len]; rfl, ?_, ⟨v2, ((hnk.call hrd ho hob).keep b46 (by omega) hv).at hat (by omega) hv⟩, ⟨vl2, hbl6.set 0 vl2, hown6.keep fun k h1 _ => hat.block k (by omega)⟩, by rw [hat.size]; exact Nat.le_trans hs4 b46.size⟩
  have he := h.eq
  rw [show n - k = (n - (k + 1)) + 1 by omega] at he
  exact readAll_more (cut 32) (n - (k + 1)) rest rest2 d n ds r1 he hc
theorem PfInv.none {w wr : World} {gr gi n k : Nat} {v : Value} {r1 rest : List (BitVec 8)} {ds : List (List (BitVec 8))} (h : PfInv w gr gi v n r1 k ds rest wr) (hk : k < n) (hc : cut 32 rest = none) : readAll (cut 32) n r1 = none := by
  rw [h.eq, show n - k = (n - (k + 1)) + 1 by omega, readAll, hc]
  rfl
theorem PfInv.done {w wr : World} {gr gi n : Nat} {v : Value} {r1 rest : List (BitVec 8)} {ds : List (List (BitVec 8))} (h : PfInv w gr gi v n r1 n ds rest wr) : readAll (cut 32) n r1 = some (ds, rest) := by
  rw [h.eq, Nat.sub_self]
  simp [readAll]
theorem prfV_ix {vs : Value} {en : Int} {x y x2 : List (BitVec 8)} {w : World} {g : Nat} {t : TypeId} (h : Blk w g (prfV vs en x y) t) (hx : x.length = 32) (h2 : x2.length = 32) : Blk (w.setCells g 2 (cb x2)) g (prfV vs en x2 y) t :=
  Blk.mid (A := [vs, .int .i64 en]) (B := cb x) (C := cb y) h (by rw [cb_len, cb_len, hx, h2]) rfl
theorem prfV_va {vs : Value} {en : Int} {x y y2 : List (BitVec 8)} {w : World} {g : Nat} {t : TypeId} (h : Blk w g (prfV vs en x y) t) (hx : x.length = 32) (hy : y.length = 32) (h2 : y2.length = 32) : Blk (w.setCells g 34 (cb y2)) g (prfV vs en x y2) t := by
  have e : ∀ u, prfV vs en x u = (vs :: .int .i64 en :: cb x) ++ (cb u ++ []) := fun u => by simp only [prfV, List.cons_append, List.append_nil]
  rw [e] at h ⊢
  exact h.mid (by rw [cb_len, cb_len, hy, h2]) (by rw [List.length_cons, List.length_cons, cb_len, hx])
theorem prfV_len {vs : Value} {en : Int} {x y : List (BitVec 8)} (hx : x.length = 32) (hy : y.length = 32) : (prfV vs en x y).length = 66 := by simp only [prfV, List.length_cons, List.length_append, cb_len, hx, hy]
theorem proofR_nil : proofR [] = none := by decide
set_option maxRecDepth 100000 in
set_option maxHeartbeats 2000000 in
theorem readProof_one : OneDoes prfK 57 proofR := by
  intro gr gi v l w h
  have HVB : Hid (0 < l.length → ∀ k, v.ownBlock = some k → k < w.heap.size) := h.byt.inB
  have HGI : Hid (gi < w.heap.size) := h.inp.lt
  have HNK : Hid (Nk w gr gi v v l 30 prfK.z ((w.alloc (.cells prfK.z.toArray 30)).alloc (.cells prfK.z.toArray 30))) := Nk.below (wc := w.alloc (.cells prfK.z.toArray 30)) ⟨h.below (below_alloc _ _), Only.of_below (below_alloc _ _), rfl, Blk.new _ _ _, h.rd.lt, h.inp.lt⟩ (below_alloc _ _)
  have HGA : Hid (Blk ((w.alloc (.cells prfK.z.toArray 30)).alloc (.cells prfK.z.toArray 30)) (w.heap.size + 1) (prfV nilV 0 zb32 zb32) 30) := Blk.new_at (by simp) _ _
  have HSZ : Hid (w.heap.size + 2 ≤ ((w.alloc (.cells prfK.z.toArray 30)).alloc (.cells prfK.z.toArray 30)).heap.size) := by show _ ≤ _; simp
  clear h
  go_enter Try.func57, Try.ntmps57
  go_wp2_with fail
  change Calls _ _ _ ((w.alloc (.cells prfK.z.toArray 30)).alloc (.cells prfK.z.toArray 30)) _
  generalize (w.alloc (.cells prfK.z.toArray 30)).alloc (.cells prfK.z.toArray 30) = w0 at *
  refine (count_any gr gi 256 (by omega) v l w0 HNK.out.rd).mono ?_
  rintro e w1 (⟨n, r1, va1, v1, hc, rfl, rfl, hrd, ho, hob⟩ | ⟨hc, hT⟩)
  case inr =>
    have HD : Hid (RdDoes gr gi v w (proofR l) (fun a w' v => ∃ cs : List Value, v = .agg cs.toArray ∧ prfK.G w' w.heap.size a cs) (thrown gi) w1) := Or.inr ⟨thenR_none hc, Threw.after HNK.out.onl (hT.eq ▸ hT)⟩
    obtain rfl := hT.eq
    unfold thrown at HD ⊢
    clear hT
    go_wp2
    exact ⟨rfl, HD.out⟩
  have HS1 : Hid (readCount 256 l = some (n, r1)) := hc
  have HN : Hid (n ≤ 256) := readCount_le hc
  have HVV : Hid (∀ k, v.ownBlock = some k → k < w.heap.size) := HVB.out (readCount_nil _ _ _ _ hc)
  have HI0 : Hid (PfInv w gr gi v n r1 0 [] r1 w1) := ⟨by omega, rfl, by simp, ⟨v1, HNK.out.call hrd ho hob⟩, ⟨nilV, HGA.out.only ho (by have := HGI.out; omega), OwnD.nil _ _⟩, Nat.le_trans HSZ.out ho.size⟩
  clear HNK HGA HSZ hrd ho hob hc
  go_wp2
  go_loopw [6] (fun i wr => ∃ (k : Nat) (ds : List (List (BitVec 8))) (rest : List (BitVec 8)), i = .int .i64 (k : Int) ∧ PfInv w gr gi v n r1 k ds rest wr) (fun i _ => n - (intOf i).toNat)
  case atStart => exact ⟨0, [], r1, rfl, HI0.out⟩
  case round =>
    clear HI0
    obtain ⟨k, ds, rest, rfl, hI⟩ := hrel
    have HI : Hid (PfInv w gr gi v n r1 k ds rest wr) := hI
    by_cases hlt : k < n
    · have hlti : (k : Int) < (n : Int) := by omega
      have HLT : Hid (k < n) := hlt
      obtain ⟨vc, hnk⟩ := hI.nk
      obtain ⟨vl, hbl, hown⟩ := hI.row
      have HNK : Hid (Nk w gr gi v vc rest 30 prfK.z wr.drew) := ⟨⟨hnk.rd.rd, hnk.rd.inp, hnk.rd.byt⟩, hnk.onl.drew, hnk.ob, hnk.res, hnk.gr, hnk.gi⟩
      have HBL : Hid (Blk wr.drew (w.heap.size + 1) (prfV vl 0 zb32 zb32) 30) := hbl
      have HOW : Hid (OwnD wr.drew (w.heap.size + 2) vl ds) := hown
      have HI3 : Hid (PfInv w gr gi v n r1 k ds rest wr.drew) := ⟨HI.out.le, HI.out.len, HI.out.eq, ⟨vc, HNK.out⟩, ⟨vl, HBL.out, HOW.out⟩, HI.out.sz⟩
      have cl : wr.drew.cell? ⟨w.heap.size + 1, 0, none⟩ = some vl := HBL.out.cell 0
      have HVO : Hid (vl.oneCell' = true) := hown.one
      obtain ⟨adl, cpl, hvl⟩ := hown.slice
      obtain ⟨nl, HNL⟩ : ∃ x, Hid (x = ds.length) := ⟨_, rfl⟩
      rw [← HNL.out] at hvl
      subst hvl
      have HDL : Hid (ds.length < 1000000) := by show _ < _; have h1 := HI.out.len; have h2 := HN.out; omega
      clear hI hnk hbl hown hlt HI
      go_wp2_with fail
      refine wp_region_any (by kernel_rfl) ?_
      change wpAny _ _ _ _ _ _ _ (World.drew _)
      generalize wr.drew = w3 at *
      refine wpAny_take (i := 0) (v := .pointer (some ⟨w.heap.size + 1, 0, none⟩)) rfl (by kernel_rfl) (by kernel_rfl) (by kernel_rfl) (fun _ _ _ h => h) (Or.inl ⟨by rfl, fun wx => by simp [go_sem]⟩) ?_
      simp only [Act.put, List.getElem_toArray, List.getElem_cons_zero, List.setIfInBounds_toArray, List.set_cons_zero, List.set_cons_succ]
      refine wpAny_take (i := 2) (v := .pointer (some ⟨gr, 0, none⟩)) rfl (by kernel_rfl) (by kernel_rfl) (by kernel_rfl) (fun _ _ _ h => h) (Or.inl ⟨by rfl, fun wx => by simp [go_sem]⟩) ?_
      simp only [Act.put, List.getElem_toArray, List.getElem_cons_succ, List.getElem_cons_zero, List.setIfInBounds_toArray, List.set_cons_zero, List.set_cons_succ]
      refine wpAny_pair 1 3 (by kernel_rfl) ?_ ?_
      · skip
        refine wpOp_vl 1 (.slice adl nl cpl) w3 (by rfl) (by rfl) (by simp [go_sem, cl]) ?_
        simp only [Act.put, List.getElem_toArray, List.getElem_cons_succ, List.getElem_cons_zero, List.setIfInBounds_toArray, List.set_cons_zero, List.set_cons_succ]
        refine wpAny_enterP 3 (by kernel_rfl) rfl (by rfl) (f := 68) (args := #[.pointer (some ⟨gr, 0, none⟩)]) (by simp [go_sem]) (crdigest_any gr gi vc rest w3 HNK.out.rd) ?_
        rintro e w4 (⟨d, rest2, va, v2, hc, rfl, rfl, hrd, ho, hob⟩ | ⟨hc, hT⟩)
        case inr =>
          have HD : Hid (RdDoes gr gi v w (proofR l) (fun a w' v => ∃ cs : List Value, v = .agg cs.toArray ∧ prfK.G w' w.heap.size a cs) (thrown gi) w4) := Or.inr ⟨thenR_no HS1.out (thenR_none (HI3.out.none HLT.out hc)), Threw.after HNK.out.onl (hT.eq ▸ hT)⟩
          obtain rfl := hT.eq
          exact Or.inr ⟨_, rfl, ⟨rfl, HD.out⟩⟩
        refine Or.inl ⟨_, rfl, ?_⟩
        have HD32 : Hid (d.length = 32) := cut32_len hc
        have hb4 : Blk w4 (w.heap.size + 1) (prfV (.slice adl nl cpl) 0 zb32 zb32) 30 := HBL.out.only ho (by have := HGI.out; omega)
        have cl4 : w4.cell? ⟨w.heap.size + 1, 0, none⟩ = some (.slice adl nl cpl) := hb4.cell 0
        have cl5 : (w4.alloc (.cells (cb d).toArray 28)).cell? ⟨w.heap.size + 1, 0, none⟩ = some (.slice adl nl cpl) := (hb4.alloc _).cell 0
        have ho4 : OwnD w4 (w.heap.size + 2) (.slice adl nl cpl) ds := HOW.out.keep fun k h1 h2 => ho.block k (by have := HGI.out; omega) h2
        have HO5 : Hid (OwnD (w4.alloc (.cells (cb d).toArray 28)) (w.heap.size + 2) (.slice adl nl cpl) ds) := ho4.keep fun k _ h2 => (below_alloc _ _).block k h2
        have HB5 : Hid (Blk (w4.alloc (.cells (cb d).toArray 28)) (w.heap.size + 1) (prfV (.slice adl nl cpl) 0 zb32 zb32) 30) := hb4.alloc _
        have HU5 : Hid (Blk (w4.alloc (.cells (cb d).toArray 28)) w4.heap.size (cb d) 28) := Blk.new _ _ _
        have HS5 : Hid (w.heap.size + 2 ≤ (w4.alloc (.cells (cb d).toArray 28)).heap.size) := by show _ ≤ _; have h1 := HI3.out.sz; have h2 := ho.size; simp; omega
        have HNext : Hid (∀ w6 vl2, OwnD w6 (w.heap.size + 2) vl2 (ds ++ [d]) → (w4.alloc (.cells (cb d).toArray 28)).grownBy w6 (Value.ownBlock (.slice adl nl cpl)) → PfInv w gr gi v n r1 (k + 1) (ds ++ [d]) rest2 (w6.setCell ⟨w.heap.size + 1, 0, none⟩ vl2)) := fun w6 vl2 h1 h2 => HI3.out.next HLT.out HVV.out HNK.out HBL.out HOW.out hc hrd ho hob h1 h2
        have HLO : Hid (∀ k, Value.ownBlock (.slice adl nl cpl) = some k → w.heap.size + 2 ≤ k) := fun k hk => (ho4.lt k hk).1
        clear hc hrd ho hob hb4 ho4
        simp only [Act.put, List.getElem_toArray, List.getElem_cons_succ, List.getElem_cons_zero, List.setIfInBounds_toArray, List.set_cons_zero, List.set_cons_succ]
        refine wpAny_step 4 (.slice (some ⟨w4.heap.size, 0, none⟩) 1 1) (w4.alloc (.cells (cb d).toArray 28)) (by kernel_rfl) rfl (by rfl) (buildD _ _ _ rfl d HD32.out rfl _) ?_
        simp only [Act.put, List.getElem_toArray, List.getElem_cons_succ, List.getElem_cons_zero, List.setIfInBounds_toArray, List.set_cons_zero, List.set_cons_succ]
        refine wpAny_law 5 (by kernel_rfl) rfl (by rfl) (wp_appendD (.tmp 9) (.tmp 12) rfl (w.heap.size + 2) (.slice adl nl cpl) ds d w4.heap.size rfl HO5.out rfl HU5.out HD32.out HDL.out HS5.out ?_)
        intro vl2 w6 hown6 hgrow
        have HJ := HNext.out w6 vl2 hown6 hgrow
        have hb6 : Blk w6 (w.heap.size + 1) (prfV (.slice adl nl cpl) 0 zb32 zb32) 30 := HB5.out.grown hgrow (by intro he; have := HLO.out _ he.symm; omega)
        have c6 : w6.cell? ⟨w.heap.size + 1, 0, none⟩ = some (.slice adl nl cpl) := hb6.cell 0
        have f6 : w6.frozen? ⟨w.heap.size + 1, 0, none⟩ = false := hb6.frozen 0
        have HJ2 : Hid (PfInv w gr gi v n r1 (k + 1) (ds ++ [d]) rest2 (w6.setCell ⟨w.heap.size + 1, 0, none⟩ vl2)) := HJ
        obtain ⟨ad6, cp6, hv6⟩ := hown6.slice
        obtain ⟨nn6, HN6⟩ : ∃ x : Nat, Hid (x = (ds ++ [d]).length) := ⟨_, rfl⟩
        rw [← HN6.out] at hv6
        subst hv6
        clear hown6 hgrow hb6 HJ HNext
        simp only [Act.put, List.getElem_toArray, List.getElem_cons_succ, List.getElem_cons_zero, List.setIfInBounds_toArray, List.set_cons_zero, List.set_cons_succ]
        refine wpAny_take (i := 6) (v := .pointer (some ⟨w.heap.size + 1, 0, none⟩)) rfl (by kernel_rfl) (by kernel_rfl) (by kernel_rfl) (fun _ _ _ h => h) (Or.inl ⟨by rfl, fun wx => by simp [go_sem]⟩) ?_
        simp only [Act.put, List.getElem_toArray, List.getElem_cons_succ, List.getElem_cons_zero, List.setIfInBounds_toArray, List.set_cons_zero, List.set_cons_succ]
        refine wpAny_skip 7 (w6.setCell ⟨w.heap.size + 1, 0, none⟩ (.slice ad6 nn6 cp6)) (by kernel_rfl) rfl (by rfl) (by simp [go_sem, c6, f6]) ?_
        simp only [Act.put, List.getElem_toArray, List.getElem_cons_succ, List.getElem_cons_zero]
        refine wpAny_done (by kernel_rfl) ?_ _
        clear HO5 HU5 HB5 c6 f6 cl4 cl5
        generalize w6.setCell ⟨w.heap.size + 1, 0, none⟩ (.slice ad6 nn6 cp6) = w7 at *
        have hn256 := HN.out
        have hltn := HLT.out
        go_wp2
        go_roundw
        case rel => exact ⟨k + 1, ds ++ [d], rest2, by go_num, HJ2.out⟩
        case measure => simp [intOf]; have := HLT.out; omega
      · skip
        refine wpOp_enP 3 (by rfl) (by rfl) (f := 68) (args := #[.pointer (some ⟨gr, 0, none⟩)]) (by simp [go_sem]) (crdigest_any gr gi vc rest w3 HNK.out.rd) ?_
        rintro e w4 (⟨d, rest2, va, v2, hc, rfl, rfl, hrd, ho, hob⟩ | ⟨hc, hT⟩)
        case inr =>
          have HD : Hid (RdDoes gr gi v w (proofR l) (fun a w' v => ∃ cs : List Value, v = .agg cs.toArray ∧ prfK.G w' w.heap.size a cs) (thrown gi) w4) := Or.inr ⟨thenR_no HS1.out (thenR_none (HI3.out.none HLT.out hc)), Threw.after HNK.out.onl (hT.eq ▸ hT)⟩
          obtain rfl := hT.eq
          exact Or.inr ⟨_, rfl, ⟨rfl, HD.out⟩⟩
        refine Or.inl ⟨_, rfl, ?_⟩
        have HD32 : Hid (d.length = 32) := cut32_len hc
        have hb4 : Blk w4 (w.heap.size + 1) (prfV (.slice adl nl cpl) 0 zb32 zb32) 30 := HBL.out.only ho (by have := HGI.out; omega)
        have cl4 : w4.cell? ⟨w.heap.size + 1, 0, none⟩ = some (.slice adl nl cpl) := hb4.cell 0
        have cl5 : (w4.alloc (.cells (cb d).toArray 28)).cell? ⟨w.heap.size + 1, 0, none⟩ = some (.slice adl nl cpl) := (hb4.alloc _).cell 0
        have ho4 : OwnD w4 (w.heap.size + 2) (.slice adl nl cpl) ds := HOW.out.keep fun k h1 h2 => ho.block k (by have := HGI.out; omega) h2
        have HO5 : Hid (OwnD (w4.alloc (.cells (cb d).toArray 28)) (w.heap.size + 2) (.slice adl nl cpl) ds) := ho4.keep fun k _ h2 => (below_alloc _ _).block k h2
        have HB5 : Hid (Blk (w4.alloc (.cells (cb d).toArray 28)) (w.heap.size + 1) (prfV (.slice adl nl cpl) 0 zb32 zb32) 30) := hb4.alloc _
        have HU5 : Hid (Blk (w4.alloc (.cells (cb d).toArray 28)) w4.heap.size (cb d) 28) := Blk.new _ _ _
        have HS5 : Hid (w.heap.size + 2 ≤ (w4.alloc (.cells (cb d).toArray 28)).heap.size) := by show _ ≤ _; have h1 := HI3.out.sz; have h2 := ho.size; simp; omega
        have HNext : Hid (∀ w6 vl2, OwnD w6 (w.heap.size + 2) vl2 (ds ++ [d]) → (w4.alloc (.cells (cb d).toArray 28)).grownBy w6 (Value.ownBlock (.slice adl nl cpl)) → PfInv w gr gi v n r1 (k + 1) (ds ++ [d]) rest2 (w6.setCell ⟨w.heap.size + 1, 0, none⟩ vl2)) := fun w6 vl2 h1 h2 => HI3.out.next HLT.out HVV.out HNK.out HBL.out HOW.out hc hrd ho hob h1 h2
        have HLO : Hid (∀ k, Value.ownBlock (.slice adl nl cpl) = some k → w.heap.size + 2 ≤ k) := fun k hk => (ho4.lt k hk).1
        clear hc hrd ho hob hb4 ho4
        simp only [Act.put, List.getElem_toArray, List.getElem_cons_succ, List.getElem_cons_zero, List.setIfInBounds_toArray, List.set_cons_zero, List.set_cons_succ]
        refine wpAny_pair 1 4 (by kernel_rfl) ?_ ?_
        · skip
          refine wpOp_vl 1 (.slice adl nl cpl) w4 (by rfl) (by rfl) (by simp [go_sem, cl4]) ?_
          simp only [Act.put, List.getElem_toArray, List.getElem_cons_succ, List.getElem_cons_zero, List.setIfInBounds_toArray, List.set_cons_zero, List.set_cons_succ]
          refine wpAny_step 4 (.slice (some ⟨w4.heap.size, 0, none⟩) 1 1) (w4.alloc (.cells (cb d).toArray 28)) (by kernel_rfl) rfl (by rfl) (buildD _ _ _ rfl d HD32.out rfl _) ?_
          simp only [Act.put, List.getElem_toArray, List.getElem_cons_succ, List.getElem_cons_zero, List.setIfInBounds_toArray, List.set_cons_zero, List.set_cons_succ]
          refine wpAny_law 5 (by kernel_rfl) rfl (by rfl) (wp_appendD (.tmp 9) (.tmp 12) rfl (w.heap.size + 2) (.slice adl nl cpl) ds d w4.heap.size rfl HO5.out rfl HU5.out HD32.out HDL.out HS5.out ?_)
          intro vl2 w6 hown6 hgrow
          have HJ := HNext.out w6 vl2 hown6 hgrow
          have hb6 : Blk w6 (w.heap.size + 1) (prfV (.slice adl nl cpl) 0 zb32 zb32) 30 := HB5.out.grown hgrow (by intro he; have := HLO.out _ he.symm; omega)
          have c6 : w6.cell? ⟨w.heap.size + 1, 0, none⟩ = some (.slice adl nl cpl) := hb6.cell 0
          have f6 : w6.frozen? ⟨w.heap.size + 1, 0, none⟩ = false := hb6.frozen 0
          have HJ2 : Hid (PfInv w gr gi v n r1 (k + 1) (ds ++ [d]) rest2 (w6.setCell ⟨w.heap.size + 1, 0, none⟩ vl2)) := HJ
          obtain ⟨ad6, cp6, hv6⟩ := hown6.slice
          obtain ⟨nn6, HN6⟩ : ∃ x : Nat, Hid (x = (ds ++ [d]).length) := ⟨_, rfl⟩
          rw [← HN6.out] at hv6
          subst hv6
          clear hown6 hgrow hb6 HJ HNext
          simp only [Act.put, List.getElem_toArray, List.getElem_cons_succ, List.getElem_cons_zero, List.setIfInBounds_toArray, List.set_cons_zero, List.set_cons_succ]
          refine wpAny_take (i := 6) (v := .pointer (some ⟨w.heap.size + 1, 0, none⟩)) rfl (by kernel_rfl) (by kernel_rfl) (by kernel_rfl) (fun _ _ _ h => h) (Or.inl ⟨by rfl, fun wx => by simp [go_sem]⟩) ?_
          simp only [Act.put, List.getElem_toArray, List.getElem_cons_succ, List.getElem_cons_zero, List.setIfInBounds_toArray, List.set_cons_zero, List.set_cons_succ]
          refine wpAny_skip 7 (w6.setCell ⟨w.heap.size + 1, 0, none⟩ (.slice ad6 nn6 cp6)) (by kernel_rfl) rfl (by rfl) (by simp [go_sem, c6, f6]) ?_
          simp only [Act.put, List.getElem_toArray, List.getElem_cons_succ, List.getElem_cons_zero]
          refine wpAny_done (by kernel_rfl) ?_ _
          clear HO5 HU5 HB5 c6 f6 cl4 cl5
          generalize w6.setCell ⟨w.heap.size + 1, 0, none⟩ (.slice ad6 nn6 cp6) = w7 at *
          have hn256 := HN.out
          have hltn := HLT.out
          go_wp2
          go_roundw
          case rel => exact ⟨k + 1, ds ++ [d], rest2, by go_num, HJ2.out⟩
          case measure => simp [intOf]; have := HLT.out; omega
        · skip
          refine wpOp_vl 4 (.slice (some ⟨w4.heap.size, 0, none⟩) 1 1) (w4.alloc (.cells (cb d).toArray 28)) (by rfl) (by rfl) (buildD _ _ _ rfl d HD32.out rfl _) ?_
          simp only [Act.put, List.getElem_toArray, List.getElem_cons_succ, List.getElem_cons_zero, List.setIfInBounds_toArray, List.set_cons_zero, List.set_cons_succ]
          refine wpAny_step 1 (.slice adl nl cpl) (w4.alloc (.cells (cb d).toArray 28)) (by kernel_rfl) rfl (by rfl) (by simp [go_sem, cl5]) ?_
          simp only [Act.put, List.getElem_toArray, List.getElem_cons_succ, List.getElem_cons_zero, List.setIfInBounds_toArray, List.set_cons_zero, List.set_cons_succ]
          refine wpAny_law 5 (by kernel_rfl) rfl (by rfl) (wp_appendD (.tmp 9) (.tmp 12) rfl (w.heap.size + 2) (.slice adl nl cpl) ds d w4.heap.size rfl HO5.out rfl HU5.out HD32.out HDL.out HS5.out ?_)
          intro vl2 w6 hown6 hgrow
          have HJ := HNext.out w6 vl2 hown6 hgrow
          have hb6 : Blk w6 (w.heap.size + 1) (prfV (.slice adl nl cpl) 0 zb32 zb32) 30 := HB5.out.grown hgrow (by intro he; have := HLO.out _ he.symm; omega)
          have c6 : w6.cell? ⟨w.heap.size + 1, 0, none⟩ = some (.slice adl nl cpl) := hb6.cell 0
          have f6 : w6.frozen? ⟨w.heap.size + 1, 0, none⟩ = false := hb6.frozen 0
          have HJ2 : Hid (PfInv w gr gi v n r1 (k + 1) (ds ++ [d]) rest2 (w6.setCell ⟨w.heap.size + 1, 0, none⟩ vl2)) := HJ
          obtain ⟨ad6, cp6, hv6⟩ := hown6.slice
          obtain ⟨nn6, HN6⟩ : ∃ x : Nat, Hid (x = (ds ++ [d]).length) := ⟨_, rfl⟩
          rw [← HN6.out] at hv6
          subst hv6
          clear hown6 hgrow hb6 HJ HNext
          simp only [Act.put, List.getElem_toArray, List.getElem_cons_succ, List.getElem_cons_zero, List.setIfInBounds_toArray, List.set_cons_zero, List.set_cons_succ]
          refine wpAny_take (i := 6) (v := .pointer (some ⟨w.heap.size + 1, 0, none⟩)) rfl (by kernel_rfl) (by kernel_rfl) (by kernel_rfl) (fun _ _ _ h => h) (Or.inl ⟨by rfl, fun wx => by simp [go_sem]⟩) ?_
          simp only [Act.put, List.getElem_toArray, List.getElem_cons_succ, List.getElem_cons_zero, List.setIfInBounds_toArray, List.set_cons_zero, List.set_cons_succ]
          refine wpAny_skip 7 (w6.setCell ⟨w.heap.size + 1, 0, none⟩ (.slice ad6 nn6 cp6)) (by kernel_rfl) rfl (by rfl) (by simp [go_sem, c6, f6]) ?_
          simp only [Act.put, List.getElem_toArray, List.getElem_cons_succ, List.getElem_cons_zero]
          refine wpAny_done (by kernel_rfl) ?_ _
          clear HO5 HU5 HB5 c6 f6 cl4 cl5
          generalize w6.setCell ⟨w.heap.size + 1, 0, none⟩ (.slice ad6 nn6 cp6) = w7 at *
          have hn256 := HN.out
          have hltn := HLT.out
          go_wp2
          go_roundw
          case rel => exact ⟨k + 1, ds ++ [d], rest2, by go_num, HJ2.out⟩
          case measure => simp [intOf]; have := HLT.out; omega
    · have hkn : k = n := by have := hI.le; omega
      subst hkn
      have HS2 : Hid (readAll (cut 32) k r1 = some (ds, rest)) := hI.done
      obtain ⟨vc, hnk⟩ := hI.nk
      obtain ⟨vl, hbl, hown⟩ := hI.row
      have HNK : Hid (Nk w gr gi v vc rest 30 prfK.z wr) := hnk
      have HGA : Hid (Blk wr (w.heap.size + 1) (prfV vl 0 zb32 zb32) 30) := hbl
      have HOW : Hid (OwnD wr (w.heap.size + 2) vl ds) := hown
      have HDL : Hid (ds.length ≤ 256) := by show _ ≤ _; have h1 := hI.len; have h2 := HN.out; omega
      clear hI HI hnk hbl hown hlt
      go_wp2_with fail
      refine (count_any gr gi 1 (by omega) vc rest wr HNK.out.rd).mono ?_
      rintro e w1 (⟨en, r2, va2, v2, hc, rfl, rfl, hrd, ho, hob⟩ | ⟨hc, hT⟩)
      case inr =>
        have HD : Hid (RdDoes gr gi v w (proofR l) (fun a w' v => ∃ cs : List Value, v = .agg cs.toArray ∧ prfK.G w' w.heap.size a cs) (thrown gi) w1) := Or.inr ⟨thenR_no HS1.out (thenR_no HS2.out (thenR_none hc)), Threw.after HNK.out.onl (hT.eq ▸ hT)⟩
        obtain rfl := hT.eq
        unfold thrown at HD ⊢
        clear hT
        go_wp2
        exact ⟨rfl, HD.out⟩
      have HS3 : Hid (readCount 1 rest = some (en, r2)) := hc
      have HEN : Hid (en ≤ 1) := readCount_le hc
      have hG1 : Blk w1 (w.heap.size + 1) (prfV vl 0 zb32 zb32) 30 := HGA.out.only ho (by have := HGI.out; omega)
      have c1 : w1.cell? ⟨w.heap.size + 1, 1, none⟩ = some (.int .i64 0) := hG1.cell 1
      have f1 : w1.frozen? ⟨w.heap.size + 1, 1, none⟩ = false := hG1.frozen 1
      obtain ⟨z, HZ⟩ : ∃ z : Int, Hid (z = (en : Int)) := ⟨_, rfl⟩
      rw [← HZ.out]
      have hat : At (w.heap.size + 1) w1 (w1.setCell ⟨w.heap.size + 1, 1, none⟩ (.int .i64 z)) := (At.refl _ _).setCell _ _
      have HGB : Hid (Blk (w1.setCell ⟨w.heap.size + 1, 1, none⟩ (.int .i64 z)) (w.heap.size + 1) (prfV vl z zb32 zb32) 30) := hG1.set 1 _
      have HNK2 : Hid _ := (HNK.out.call hrd ho hob).at hat (by omega) HVV.out
      have HOW2 : Hid (OwnD (w1.setCell ⟨w.heap.size + 1, 1, none⟩ (.int .i64 z)) (w.heap.size + 2) vl ds) := (HOW.out.keep fun k h1 h2 => ho.block k (by have := HGI.out; omega) h2).keep fun k h1 _ => hat.block k (by omega)
      have cE : (w1.setCell ⟨w.heap.size + 1, 1, none⟩ (.int .i64 z)).cell? ⟨w.heap.size + 1, 1, none⟩ = some (.int .i64 z) := HGB.out.cell 1
      clear HNK HGA HOW hrd ho hob hc hG1 hat
      have HNK := HNK2
      have HGA := HGB
      have HOW := HOW2
      clear HNK2 HGB HOW2
      by_cases hen : en = 1
      · have hz1 : z = 1 := by have := HZ.out; omega
        subst hz1
        have HE : Hid (endR en = thenR (cut 32) (fun _ => cut 32)) := by show _ = _; unfold endR; rw [if_pos hen]
        go_wp2_with fail
        clear c1 f1 cE
        generalize w1.setCell ⟨w.heap.size + 1, 1, none⟩ (.int .i64 1) = w2 at *
        refine (crdigest_any gr gi v2 r2 w2 HNK.out.rd).mono ?_
        rintro e w4 (⟨ix, r4, va, v4, hc, rfl, rfl, hrd, ho, hob⟩ | ⟨hc, hT⟩)
        case inr =>
          have HD : Hid (RdDoes gr gi v w (proofR l) (fun a w' v => ∃ cs : List Value, v = .agg cs.toArray ∧ prfK.G w' w.heap.size a cs) (thrown gi) w4) := Or.inr ⟨thenR_no HS1.out (thenR_no HS2.out (thenR_no HS3.out (by rw [HE.out]; exact thenR_none hc))), Threw.after HNK.out.onl (hT.eq ▸ hT)⟩
          obtain rfl := hT.eq
          unfold thrown at HD ⊢
          clear hT
          go_wp2
          exact ⟨rfl, HD.out⟩
        have HSix : Hid (cut 32 r2 = some (ix, r4)) := hc
        have HLix : Hid (ix.length = 32) := cut32_len hc
        have hGA := HGA.out.only ho (by have := HGI.out; omega)
        have hat : At (w.heap.size + 1) w4 (w4.setCells (w.heap.size + 1) 2 (cb ix)) := At.setCells _ _ _ (At.refl _ _)
        have HGB : Hid (Blk (w4.setCells (w.heap.size + 1) 2 (cb ix)) (w.heap.size + 1) (prfV vl 1 ix zb32) 30) := prfV_ix hGA len0 HLix.out
        have HNK2 : Hid _ := (HNK.out.call hrd ho hob).at hat (by omega) HVV.out
        have HOW2 : Hid (OwnD (w4.setCells (w.heap.size + 1) 2 (cb ix)) (w.heap.size + 2) vl ds) := (HOW.out.keep fun k h1 h2 => ho.block k (by have := HGI.out; omega) h2).keep fun k h1 _ => hat.block k (by omega)
        have HTix : Hid (w4.there (w.heap.size + 1) 2 (cb ix).toArray.size) := hGA.there 2 _ (by rw [List.size_toArray, cb_len, HLix.out, prfV_len len0 len0]; omega)
        have HIix : Hid ((Try.prog.info? 28).map (·.size) = some (cb ix).toArray.size) := by show _ = _; rw [List.size_toArray, cb_len, HLix.out]; exact Try.infodig
        clear HNK HGA HOW hrd ho hob hc hGA hat
        have HNK := HNK2
        have HGA := HGB
        have HOW := HOW2
        clear HNK2 HGB HOW2
        go_wp2_with (refine wpList_store_mid rfl 28 _ _ rfl (w.heap.size + 1) 2 (cb ix).toArray rfl rfl HTix.out HIix.out (all_oneCell_toArray (cb_one ix)) ?_)
        change Calls _ _ _ (w4.setCells (w.heap.size + 1) 2 (cb ix)) _
        generalize w4.setCells (w.heap.size + 1) 2 (cb ix) = w5 at *
        refine (crdigest_any gr gi v4 r4 w5 HNK.out.rd).mono ?_
        rintro e w6 (⟨va, r6, va, v6, hc, rfl, rfl, hrd, ho, hob⟩ | ⟨hc, hT⟩)
        case inr =>
          have HD : Hid (RdDoes gr gi v w (proofR l) (fun a w' v => ∃ cs : List Value, v = .agg cs.toArray ∧ prfK.G w' w.heap.size a cs) (thrown gi) w6) := Or.inr ⟨thenR_no HS1.out (thenR_no HS2.out (thenR_no HS3.out (by rw [HE.out]; exact thenR_no HSix.out hc))), Threw.after HNK.out.onl (hT.eq ▸ hT)⟩
          obtain rfl := hT.eq
          unfold thrown at HD ⊢
          clear hT
          go_wp2
          exact ⟨rfl, HD.out⟩
        have HSva : Hid (cut 32 r4 = some (va, r6)) := hc
        have HLva : Hid (va.length = 32) := cut32_len hc
        have hGA := HGA.out.only ho (by have := HGI.out; omega)
        have hat : At (w.heap.size + 1) w6 (w6.setCells (w.heap.size + 1) 34 (cb va)) := At.setCells _ _ _ (At.refl _ _)
        have HGB : Hid (Blk (w6.setCells (w.heap.size + 1) 34 (cb va)) (w.heap.size + 1) (prfV vl 1 ix va) 30) := prfV_va hGA HLix.out len0 HLva.out
        have HNK2 : Hid _ := (HNK.out.call hrd ho hob).at hat (by omega) HVV.out
        have HOW2 : Hid (OwnD (w6.setCells (w.heap.size + 1) 34 (cb va)) (w.heap.size + 2) vl ds) := (HOW.out.keep fun k h1 h2 => ho.block k (by have := HGI.out; omega) h2).keep fun k h1 _ => hat.block k (by omega)
        have HTva : Hid (w6.there (w.heap.size + 1) 34 (cb va).toArray.size) := hGA.there 34 _ (by rw [List.size_toArray, cb_len, HLva.out, prfV_len HLix.out len0]; omega)
        have HIva : Hid ((Try.prog.info? 28).map (·.size) = some (cb va).toArray.size) := by show _ = _; rw [List.size_toArray, cb_len, HLva.out]; exact Try.infodig
        clear HNK HGA HOW hrd ho hob hc hGA hat
        have HNK := HNK2
        have HGA := HGB
        have HOW := HOW2
        clear HNK2 HGB HOW2
        have HSP : Hid (proofR l = some ((k, ds, en, ix, va), r6)) := thenR_some HS1.out (thenR_some HS2.out (thenR_some HS3.out (by rw [HE.out]; exact thenR_some HSix.out HSva.out)))
        have HRES : Hid (Blk (w6.setCells (w.heap.size + 1) 34 (cb va)) w.heap.size prfK.z 30) := HNK.out.res
        have HGG : Hid (prfK.G (w6.setCells (w.heap.size + 1) 34 (cb va)) (w.heap.size + 1) (k, ds, en, ix, va) (prfV vl 1 ix va)) := ⟨vl, by rw [hen]; rfl, HOW.out.mono (by omega), HLix.out, HLva.out, HEN.out, HDL.out⟩
        have HI : Hid ((Try.prog.info? 30).map (·.size) = some ((prfV vl 1 ix va)).length) := by have := prfK_ok.size HGG.out; rw [List.size_toArray] at this; exact this
        have H1 : Hid (((prfV vl 1 ix va)).toArray.all (·.oneCell') = true) := all_oneCell_toArray (prfK_ok.one HGG.out)
        have HLN : Hid (((prfV vl 1 ix va)).length = prfK.z.length) := prfK_ok.len HGG.out
        obtain ⟨cs, HCS⟩ : ∃ cs, Hid (cs = (prfV vl 1 ix va)) := ⟨_, rfl⟩
        rw [← HCS.out] at HGA HGG HI H1 HLN
        clear HCS HOW
        obtain ⟨w9, HW9⟩ : ∃ x, Hid (x = w6.setCells (w.heap.size + 1) 34 (cb va)) := ⟨_, rfl⟩
        rw [← HW9.out] at HGA HGG HRES HNK
        go_wp2_with (first | (refine wpList_store_mid rfl 28 _ _ rfl (w.heap.size + 1) 34 (cb va).toArray rfl rfl HTva.out HIva.out (all_oneCell_toArray (cb_one va)) ?_)| (refine wpSeq_val (.agg cs.toArray) _ (by rfl) (load_run 30 _ rfl (w.heap.size + 1) 0 rfl cs _ (HW9.out ▸ HGA.out.range) Try.underlying30 rfl HI.out) ?_) | (refine wpList_store_mid rfl 30 _ _ rfl w.heap.size 0 cs.toArray rfl rfl (HW9.out ▸ HRES.out.there 0 _ (by rw [List.size_toArray, HLN.out]; omega)) (by rw [List.size_toArray]; exact HI.out) H1.out ?_))
        rw [← HW9.out]
        have hat : At w.heap.size w9 (w9.setCells w.heap.size 0 cs) := At.setCells _ _ _ (At.refl _ _)
        have hB6 : Blk (w9.setCells w.heap.size 0 cs) w.heap.size cs 30 := HRES.out.whole cs HLN.out
        refine bodyPost_ret (v := .agg cs.toArray) (results_cell_row (by rfl) _ _ w.heap.size 30 _ (0, 0) _ rfl hB6 Try.underlying30 rfl (by rw [List.size_toArray]; exact HI.out)) rfl (Or.inl ⟨(k, ds, en, ix, va), r6, _, _, HSP.out, rfl, ⟨_, rfl, ?_⟩, ?_, ?_, HNK.out.ob⟩)
        · exact prfK_ok.mono (prfK_ok.same HGG.out fun k h1 _ => hat.block k (by omega)) (Nat.le_succ _)
        · exact HNK.out.rdAt hat (Nat.le_refl _) HVV.out
        · exact HNK.out.onlAt hat (Nat.le_refl _)
      · have hz1 : ¬ (z = 1) := by have := HZ.out; omega
        have HSP : Hid (proofR l = some ((k, ds, en, zb32, zb32), r2)) := thenR_some HS1.out (thenR_some HS2.out (thenR_some HS3.out (by unfold endR; rw [if_neg hen]; rfl)))
        have HRES : Hid (Blk (w1.setCell ⟨w.heap.size + 1, 1, none⟩ (.int .i64 z)) w.heap.size prfK.z 30) := HNK.out.res
        have HGG : Hid (prfK.G (w1.setCell ⟨w.heap.size + 1, 1, none⟩ (.int .i64 z)) (w.heap.size + 1) (k, ds, en, zb32, zb32) (prfV vl z zb32 zb32)) := ⟨vl, by rw [HZ.out], HOW.out.mono (by omega), len_zb32, len_zb32, HEN.out, HDL.out⟩
        have HI : Hid ((Try.prog.info? 30).map (·.size) = some ((prfV vl z zb32 zb32)).length) := by have := prfK_ok.size HGG.out; rw [List.size_toArray] at this; exact this
        have H1 : Hid (((prfV vl z zb32 zb32)).toArray.all (·.oneCell') = true) := all_oneCell_toArray (prfK_ok.one HGG.out)
        have HLN : Hid (((prfV vl z zb32 zb32)).length = prfK.z.length) := prfK_ok.len HGG.out
        obtain ⟨cs, HCS⟩ : ∃ cs, Hid (cs = (prfV vl z zb32 zb32)) := ⟨_, rfl⟩
        rw [← HCS.out] at HGA HGG HI H1 HLN
        clear HCS HOW
        obtain ⟨w9, HW9⟩ : ∃ x, Hid (x = w1.setCell ⟨w.heap.size + 1, 1, none⟩ (.int .i64 z)) := ⟨_, rfl⟩
        rw [← HW9.out] at HGA HGG HRES HNK
        go_wp2_with (first | (refine wpSeq_val (.agg cs.toArray) _ (by rfl) (load_run 30 _ rfl (w.heap.size + 1) 0 rfl cs _ (HW9.out ▸ HGA.out.range) Try.underlying30 rfl HI.out) ?_) | (refine wpList_store_mid rfl 30 _ _ rfl w.heap.size 0 cs.toArray rfl rfl (HW9.out ▸ HRES.out.there 0 _ (by rw [List.size_toArray, HLN.out]; omega)) (by rw [List.size_toArray]; exact HI.out) H1.out ?_))
        rw [← HW9.out]
        have hat : At w.heap.size w9 (w9.setCells w.heap.size 0 cs) := At.setCells _ _ _ (At.refl _ _)
        have hB6 : Blk (w9.setCells w.heap.size 0 cs) w.heap.size cs 30 := HRES.out.whole cs HLN.out
        refine bodyPost_ret (v := .agg cs.toArray) (results_cell_row (by rfl) _ _ w.heap.size 30 _ (0, 0) _ rfl hB6 Try.underlying30 rfl (by rw [List.size_toArray]; exact HI.out)) rfl (Or.inl ⟨(k, ds, en, zb32, zb32), r2, _, _, HSP.out, rfl, ⟨_, rfl, ?_⟩, ?_, ?_, HNK.out.ob⟩)
        · exact prfK_ok.mono (prfK_ok.same HGG.out fun k h1 _ => hat.block k (by omega)) (Nat.le_succ _)
        · exact HNK.out.rdAt hat (Nat.le_refl _) HVV.out
        · exact HNK.out.onlAt hat (Nat.le_refl _)
end Go.Proofs.Ytldbcglakeggaaa

/- The walk of the statement CodecWrites. -/
import Derived.Test.YtdhglbemkaogiaaReadsWalk
namespace Go.Proofs.Ytdhglbemkaogiaa
open Go.RowKit
theorem load_dig {P : Program} {a : Act} {o : Oper} (ty : TypeId) (x : Operand) (ho : o.op = .load ty x) (b of : Nat) (hx : a.eval x = .pointer (some ⟨b, of, none⟩)) (cs : List Value) (d : TypeDesc) {w : World} (hc : w.rangeAt b of cs)
    (hu : P.underlying ty = some d) (hd : d.isRow = true) (hi : (P.info? ty).map (·.size) = some cs.length) : (execOp a.eval o).run P w = .ok (.value (.agg cs.toArray)) w := by
  unfold execOp
  simp only [ho, hx, Instr.loadAt, Instr.sureAddr, Sem.run_bind, Sem.run_pure, Result.andThen_ok, run_loadVar_mid w b of ty cs d hc hu hd hi]
theorem wpAnyH_enter {P : Program} {md : Region.Mode} {ops : Array Oper} {Q : Exit → Act → World → Prop} {S : World → Prop} {fuel : Nat} {listed : Array Bool} {a : Act} {w : World} (i : Nat) {oi : Oper} {f : FuncId} {args : Array Value} {R : Ending → World → Prop}
    (hr : Region.ready md ops listed = [i]) (hi : ops[i]? = some oi) (hw : Region.wanted oi (yielded ops a.tmps) = true) (he : (execOp a.eval oi).run P w = .ok (.enter f args) w) (hc : Calls P f args w R)
    (h : ∀ e w', R e w' → ∃ v, e = .returned v ∧ S w' ∧ wpAnyH P md ops Q S fuel (listed.setIfInBounds i true) (a.put oi.dst v) w') : wpAnyH P md ops Q S (fuel + 1) listed a w := by
  refine wpAnyH_law i hr hi hw ?_
  unfold Oper.wp
  rw [he, Oper.upon_enter]
  refine hc.mono ?_
  intro e w' hR
  obtain ⟨v, rfl, hv⟩ := h e w' hR
  exact hv
theorem wpAnyH_step {P : Program} {md : Region.Mode} {ops : Array Oper} {Q : Exit → Act → World → Prop} {S : World → Prop} {fuel : Nat} {listed : Array Bool} {a : Act} {w : World} (i : Nat) {oi : Oper} (v : Value) (w' : World)
    (hr : Region.ready md ops listed = [i]) (hi : ops[i]? = some oi) (hw : Region.wanted oi (yielded ops a.tmps) = true) (he : (execOp a.eval oi).run P w = .ok (.value v) w') (hS : S w')
    (h : wpAnyH P md ops Q S fuel (listed.setIfInBounds i true) (a.put oi.dst v) w') : wpAnyH P md ops Q S (fuel + 1) listed a w := by
  refine wpAnyH_law i hr hi hw ?_
  unfold Oper.wp
  rw [he, Oper.upon_value]
  exact ⟨hS, h⟩
/-- an append to no bytes, one operation -/
theorem wp_appendZ {w : World} {o : Oper} {a : Act} {K : Act → World → Prop} {Q : Exit → Act → World → Prop} (s x : Operand)
    (ho : o.op = .call { callee := .builtin .append, args := #[s, x], argTypes := #[22, 22] }) (base : Nat) (v vx : Value) (l news : List (BitVec 8)) (hs : a.eval s = v) (hown : OwnB w base v l) (hx : a.eval x = vx) (hr : Reads w vx news)
    (hlen : l.length + news.length ≤ 140737488355328) (hbase : base ≤ w.heap.size) (h : ∀ v' w', OwnB w' base v' (l ++ news) → Below base w w' → K (a.put o.dst v') w') : o.wp Try.prog a w K Q := by
  obtain ⟨i0, hi, hz0, hz1, hz2⟩ := info_parts Try.infob
  obtain ⟨ad, cap, rfl, hcap, hnn, hpos⟩ := hr
  cases ad with
  | some ad =>
    refine wp_append_own w s x 22 ho base 5 i0 (.int .u8 0) 1 1 Try.underlying22 hi hz0 hz1 hz2 rfl (by decide) v l.length (cb l) hs hown ad news.length cap (cb news) hx (by rw [cb_len]; omega) ?_ (cb_one _) (by unfold maxLen; omega) (by omega) hbase ?_
    · intro j u hj
      have hjl : j < news.length := by have := (List.getElem?_eq_some_iff.1 hj).1; rwa [cb_len] at this
      obtain ⟨b, off, h1, h2⟩ := hpos (by omega)
      cases h1
      rw [Addr.add_mid, h2 j hjl, ← hj, cb_get news j hjl]
    · intro v' w' h1 h2 _
      refine h v' w' ?_ ((Below.refl _ _).grown h2 hbase (fun k hk => hown.own k hk))
      have e : cb l ++ cb news = cb (l ++ news) := by simp [cb]
      rw [e] at h1
      unfold OwnB; rw [List.length_append]; exact h1
  | none =>
    have hn0 : news = [] := by
      cases news with
      | nil => rfl
      | cons b r => obtain ⟨b, off, h1, _⟩ := hpos (by simp); cases h1
    subst hn0
    have hc0 := hnn rfl
    subst hc0
    have hrun := run_append_owned_none (P := Try.prog) (w := w) base 22 o.type 5 i0 1 Try.underlying22 hi v l.length (cb l) hown
    unfold Oper.wp execOp
    simp only [List.length_nil] at hx
    simp only [ho, resolve, invoke, builtin, Sem.run_bind, Sem.run_pure, Result.andThen_ok, List.map_toArray, List.map_cons, List.map_nil, hs, hx, hrun]
    exact h _ w (by rw [List.append_nil]; exact hown) (Below.refl _ _)
set_option maxRecDepth 100000 in
set_option maxHeartbeats 2000000 in
theorem writes_law (vb vt : Value) (bs ts dg : List (BitVec 8)) (n : Nat) (w : World) (hn : n < 18446744073709551616) (hb : Reads w vb bs) (ht : Reads w vt ts) (hd : dg.length = 32) (hlb : bs.length ≤ 1048576) (hlt : ts.length ≤ 1048576) :
    Calls Try.prog 3 #[vb, .int .u64 (n : Int), vt, .agg (cb dg).toArray] w fun e w' => e = .returned (.bool true) ∧ Below w.heap.size w w' := by
  have HB : Hid (Reads w vb bs) := hb
  have HT : Hid (Reads w vt ts) := ht
  have HN : Hid (n < 18446744073709551616) := hn
  have HD : Hid (dg.length = 32) := hd
  have HLB : Hid (bs.length ≤ 1048576 ∧ ts.length ≤ 1048576) := ⟨hlb, hlt⟩
  obtain ⟨adb, capb, hvb, _, _, _⟩ := hb
  obtain ⟨adt, capt, hvt, _, _, _⟩ := ht
  obtain ⟨lb, HB1⟩ : ∃ x, Hid (x = bs.length) := ⟨_, rfl⟩
  obtain ⟨lt, HT1⟩ : ∃ x, Hid (x = ts.length) := ⟨_, rfl⟩
  rw [← HB1.out] at hvb
  rw [← HT1.out] at hvt
  subst hvb hvt
  clear hn hd hlb hlt
  obtain ⟨cs, HCS⟩ : ∃ x, Hid (x = cb dg) := ⟨_, rfl⟩
  rw [← HCS.out]
  have HCL : Hid (cs.length = 32) := by show _ = _; rw [HCS.out, cb_len, HD.out]
  have HZ : Hid ((Try.prog.info? 25).map (·.size) = some cs.length) := by show _ = _; rw [HCL.out]; exact Try.infodig
  have HDG : Hid (∀ wx g, Blk wx g cs 25 → Reads wx (.slice (some ⟨g, 0, none⟩) 32 32) dg) := fun wx g h => by
    rw [HCS.out] at h
    exact h.reads HD.out.symm (by rw [HD.out]; omega)
  have HDB0 : Hid (Blk (w.alloc (.cells cs.toArray 25)) w.heap.size cs 25) := Blk.new w cs 25
  have HW0 : Hid (Below w.heap.size w (w.alloc (.cells cs.toArray 25))) := below_alloc w _
  have HE1 : Hid (OwnB ((w.alloc (.cells cs.toArray 25)).alloc (.cells ([] : List Value).toArray 5)) (w.heap.size + 1) (.slice (some ⟨w.heap.size + 1, 0, none⟩) 0 0) []) := OwnB.zero _ _ _ (Nat.le_refl _) (Blk.new_at (w := (w.alloc (.cells cs.toArray 25))) (by simp) [] 5)
  have HW1 : Hid (Below w.heap.size w ((w.alloc (.cells cs.toArray 25)).alloc (.cells ([] : List Value).toArray 5)) ∧ Below (w.heap.size + 1) (w.alloc (.cells cs.toArray 25)) ((w.alloc (.cells cs.toArray 25)).alloc (.cells ([] : List Value).toArray 5))) := ⟨HW0.out.trans ((below_alloc _ _).mono HW0.out.size), (Below.refl _ _).alloc (by simp) _⟩
  have HRb1 : Hid (Reads ((w.alloc (.cells cs.toArray 25)).alloc (.cells ([] : List Value).toArray 5)) (.slice adb lb capb) bs) := HB.out.below HW1.out.1
  have HLA : Hid (([] : List (BitVec 8)).length + bs.length ≤ 140737488355328) := by have := HLB.out.1; show _ ≤ _; simp; omega
  have HSZ1 : Hid (w.heap.size + 1 ≤ ((w.alloc (.cells cs.toArray 25)).alloc (.cells ([] : List Value).toArray 5)).heap.size) := by show _ ≤ _; simp
  go_enter Try.func3, Try.ntmps3
  go_wp2_with (at_builtin; refine wpList_appendB rfl (.tmp 13) (.tmp 14) rfl (w.heap.size + 1) _ [] rfl HE1.out _ bs rfl HRb1.out HLA.out HSZ1.out ?_; intro v2 w2 o2 b2 _)
  have HS2 := Nat.le_trans HSZ1.out b2.size
  refine (cnum_any (w.heap.size + 1) v2 bs n HN.out w2 o2 HS2 (by have := HLB.out.1; omega)).mono ?_
  rintro e w3 ⟨v3, rfl, o3, b3⟩
  have HB03 : Below (w.heap.size + 1) (w.alloc (.cells cs.toArray 25)) w3 := (HW1.out.2.trans b2).trans b3
  have HW3 : Hid (Below w.heap.size w w3) := HW0.out.trans (HB03.mono (by omega))
  have HD3 : Hid (Blk w3 w.heap.size cs 25) := HDB0.out.below HB03 (by omega)
  have HX : Hid (Reads w3 v3 (bs ++ encNum n)) := o3.reads
  have HHW3 : Hid (w.heap.size < w3.heap.size) := HD3.out.lt
  clear o2 b2 o3 b3 HB03 HS2 HE1 HW1 HRb1 HSZ1 HDB0 HW0
  have HE4 : Hid (OwnB (w3.alloc (.cells ([] : List Value).toArray 5)) w3.heap.size (.slice (some ⟨w3.heap.size, 0, none⟩) 0 0) []) := OwnB.zero _ _ _ (Nat.le_refl _) (Blk.new w3 [] 5)
  have HW4 : Hid (Below w3.heap.size w3 (w3.alloc (.cells ([] : List Value).toArray 5))) := below_alloc _ _
  have HRb4 : Hid (Reads (w3.alloc (.cells ([] : List Value).toArray 5)) (.slice adb lb capb) bs) := (HB.out.below HW3.out).below HW4.out
  go_wp2_with (at_builtin; refine wpList_appendB rfl (.tmp 18) (.tmp 19) rfl w3.heap.size _ [] rfl HE4.out _ bs rfl HRb4.out HLA.out HW4.out.size ?_; intro v5 w5 o5 b5 _)
  have HB35 := HW4.out.trans b5
  refine (ctext_any w3.heap.size v5 _ bs ts w5 o5 ((HT.out.below HW3.out).below HB35) HB35.size (by have := HLB.out; omega)).mono ?_
  rintro e w6 ⟨v6, rfl, o6, b6⟩
  have HB36 := HB35.trans b6
  have HW6 : Hid (Below w.heap.size w w6) := HW3.out.trans (HB36.mono HW3.out.size)
  have HD6 : Hid (Blk w6 w.heap.size cs 25) := HD3.out.below HB36 HHW3.out
  have HX6 : Hid (Reads w6 v3 (bs ++ encNum n)) := HX.out.below HB36
  have HY6 : Hid (Reads w6 v6 (bs ++ encText ts)) := o6.reads
  clear o5 b5 o6 b6 HB35 HB36 HE4 HW4 HRb4 HD3 HX HHW3 HW3
  obtain ⟨S, HSd⟩ : ∃ S : World → Prop, Hid (S = fun w' => Blk w' w.heap.size cs 25) := ⟨_, rfl⟩
  have hSS : ∀ wx, S wx → Blk wx w.heap.size cs 25 := fun wx h => by rw [HSd.out] at h; exact h
  have hS6 : S w6.drew := by rw [HSd.out]; exact HD6.out.drew
  have HD7 : Hid (Blk w6.drew w.heap.size cs 25) := HD6.out.drew
  have HW7 : Hid (Below w.heap.size w w6.drew) := HW6.out.drew
  have HX7 : Hid (Reads w6.drew v3 (bs ++ encNum n)) := HX6.out
  have HY7 : Hid (Reads w6.drew v6 (bs ++ encText ts)) := HY6.out
  go_wp2_with fail
  refine wp_region_held_drew (S := S) (by kernel_rfl) hS6 (fun _ => ?_)
  generalize w6.drew = w7 at *
  refine wpAnyH_take (i := 1) (v := .slice adb lb capb) rfl (by kernel_rfl) (by kernel_rfl) (by kernel_rfl) (fun _ _ _ h => h) (Or.inl ⟨by rfl, fun wx _ => by simp [go_sem]⟩) hS6 ?_
  simp only [Act.put, List.getElem_toArray, List.getElem_cons_succ, List.getElem_cons_zero, List.setIfInBounds_toArray, List.set_cons_zero, List.set_cons_succ]
  refine wpAnyH_take (i := 3) (v := .agg cs.toArray) rfl (by kernel_rfl) (by kernel_rfl) (by kernel_rfl) (fun _ _ _ h => h) (Or.inl ⟨by rfl, fun wx hS => load_dig 25 (.tmp 7) rfl w.heap.size 0 (by rfl) cs _ (hSS wx hS).range Try.underlying25 rfl HZ.out⟩) hS6 ?_
  simp only [Act.put, List.getElem_toArray, List.getElem_cons_succ, List.getElem_cons_zero, List.setIfInBounds_toArray, List.set_cons_zero, List.set_cons_succ]
  have hS8 : S (w7.alloc (.cells ([] : List Value).toArray 5)) := by rw [HSd.out]; exact HD7.out.alloc _
  refine wpAnyH_step 0 (.slice (some ⟨w7.heap.size, 0, none⟩) 0 0) (w7.alloc (.cells ([] : List Value).toArray 5)) (by kernel_rfl) rfl (by rfl) (by simp [go_sem]) hS8 ?_
  simp only [Act.put, List.getElem_toArray, List.getElem_cons_zero, List.setIfInBounds_toArray, List.set_cons_zero, List.set_cons_succ]
  have HE8 : Hid (OwnB (w7.alloc (.cells ([] : List Value).toArray 5)) w7.heap.size (.slice (some ⟨w7.heap.size, 0, none⟩) 0 0) []) := OwnB.zero _ _ _ (Nat.le_refl _) (Blk.new w7 [] 5)
  have HW8 : Hid (Below w7.heap.size w7 (w7.alloc (.cells ([] : List Value).toArray 5))) := below_alloc _ _
  have HRb8 : Hid (Reads (w7.alloc (.cells ([] : List Value).toArray 5)) (.slice adb lb capb) bs) := (HB.out.below HW7.out).below HW8.out
  refine wpAnyH_law 2 (by kernel_rfl) rfl (by rfl) (wp_appendZ (.tmp 23) (.tmp 24) rfl w7.heap.size _ _ [] bs rfl HE8.out rfl HRb8.out HLA.out HW8.out.size ?_)
  intro v9 w9 o9 b9
  rw [List.nil_append] at o9
  have hb79 := HW8.out.trans b9
  have hS9 : S w9 := by rw [HSd.out]; exact HD7.out.below hb79 HD7.out.lt
  refine ⟨hS9, ?_⟩
  simp only [Act.put, List.getElem_toArray, List.getElem_cons_succ, List.getElem_cons_zero, List.setIfInBounds_toArray, List.set_cons_zero, List.set_cons_succ]
  have HCD : Hid (Calls Try.prog 11 #[v9, .agg cs.toArray] w9 fun e w' => ∃ v', e = .returned v' ∧ OwnB w' w7.heap.size v' (bs ++ dg) ∧ Below w7.heap.size w9 w') := by
    rw [HCS.out]
    exact cdigest_any w7.heap.size v9 bs dg HD.out w9 o9 hb79.size (by have := HLB.out.1; omega)
  refine wpAnyH_enter 4 (by kernel_rfl) rfl (by rfl) (f := 11) (args := #[v9, .agg cs.toArray]) (by simp [go_sem]) HCD.out ?_
  rintro e w10 ⟨v10, rfl, o10, b10⟩
  have hb710 := hb79.trans b10
  have hS10 : S w10 := by rw [HSd.out]; exact HD7.out.below hb710 HD7.out.lt
  refine ⟨_, rfl, hS10, ?_⟩
  simp only [Act.put, List.getElem_toArray, List.getElem_cons_succ, List.getElem_cons_zero, List.setIfInBounds_toArray, List.set_cons_zero, List.set_cons_succ]
  refine wpAnyH_take (i := 5) (v := v10) rfl (by kernel_rfl) (by kernel_rfl) (by kernel_rfl) (fun _ _ _ h => h) (Or.inl ⟨by rfl, fun wx _ => by simp [go_sem]⟩) hS10 ?_
  simp only [Act.put, List.getElem_toArray, List.getElem_cons_succ, List.getElem_cons_zero, List.setIfInBounds_toArray, List.set_cons_zero, List.set_cons_succ]
  refine wpAnyH_done (by kernel_rfl) ?_ _
  have HW10 : Hid (Below w.heap.size w w10) := HW7.out.trans (hb710.mono HW7.out.size)
  have HD10 : Hid (Blk w10 w.heap.size cs 25) := HD7.out.below hb710 HD7.out.lt
  have HX10 : Hid (Reads w10 v3 (bs ++ encNum n)) := HX7.out.below hb710
  have HY10 : Hid (Reads w10 v6 (bs ++ encText ts)) := HY7.out.below hb710
  have HZ10 : Hid (Reads w10 v10 (bs ++ dg)) := o10.reads
  clear hS6 hS8 hS9 hS10 hSS HSd HE8 HW8 HRb8 o9 b9 hb79 HCD o10 b10 hb710 HD7 HW7 HX7 HY7 HX6 HY6 HD6 HW6
  go_wp2_with fail
  refine (qnum_any n HN.out w10).mono ?_
  rintro e w11 ⟨v11, rfl, o11, b11⟩
  obtain ⟨a11, c11, hv11, _, _, _⟩ := id o11.reads
  obtain ⟨k11, HK11⟩ : ∃ x : Nat, Hid (x = (encNum n).length) := ⟨_, rfl⟩
  rw [← HK11.out] at hv11
  subst hv11
  have HW11 : Hid (Below w.heap.size w w11) := HW10.out.trans (b11.mono HW10.out.size)
  have HJ11 : Hid (ReadsL (w11.alloc (.cells #[.slice adb lb capb, .slice a11 k11 c11] 22)) (.slice (some ⟨w11.heap.size, 0, none⟩) 2 2) [bs, encNum n]) := readsL_two (HB.out.below HW11.out) o11.reads
  have HWJ : Hid (Below w10.heap.size w10 (w11.alloc (.cells #[.slice adb lb capb, .slice a11 k11 c11] 22))) := b11.trans ((below_alloc _ _).mono b11.size)
  clear o11 b11
  go_wp2_with fail
  refine (rjoin_any _ [bs, encNum n] _ HJ11.out (by rw [fl2]; have := HLB.out.1; have := enc_len10 n HN.out; omega) (by simp)).mono ?_
  rintro e w12 ⟨v12, rfl, r12, b12⟩
  rw [show [bs, encNum n].flatten = bs ++ encNum n by simp] at r12
  have hb1012 := HWJ.out.trans (b12.mono HWJ.out.size)
  have HW12 : Hid (Below w.heap.size w w12) := HW10.out.trans (hb1012.mono HW10.out.size)
  have HX12 : Hid (Reads w12 v3 (bs ++ encNum n)) := HX10.out.below hb1012
  have HY12 : Hid (Reads w12 v6 (bs ++ encText ts)) := HY10.out.below hb1012
  have HZ12 : Hid (Reads w12 v10 (bs ++ dg)) := HZ10.out.below hb1012
  have HD12 : Hid (Blk w12 w.heap.size cs 25) := HD10.out.below hb1012 HD10.out.lt
  have HR12 : Hid (Reads w12 v12 (bs ++ encNum n)) := r12
  clear r12 b12 hb1012 HWJ HJ11 HW11 HX10 HY10 HZ10 HD10 HW10
  go_wp2_with fail
  refine (same_any v3 v12 _ _ w12 HX12.out HR12.out).mono ?_
  rintro e w13 ⟨rfl, hq⟩
  subst hq
  simp only [decide_true]
  clear HX12 HR12
  go_wp2_with fail
  refine (qtext_any _ ts _ (HT.out.below HW12.out) (by have := HLB.out.2; omega)).mono ?_
  rintro e w14 ⟨v14, rfl, r14, b14⟩
  obtain ⟨a14, c14, hv14, _, _, _⟩ := id r14
  obtain ⟨k14, HK14⟩ : ∃ x : Nat, Hid (x = (encText ts).length) := ⟨_, rfl⟩
  rw [← HK14.out] at hv14
  subst hv14
  have HW14 : Hid (Below w.heap.size w w14) := HW12.out.trans (b14.mono HW12.out.size)
  have HJ14 : Hid (ReadsL (w14.alloc (.cells #[.slice adb lb capb, .slice a14 k14 c14] 22)) (.slice (some ⟨w14.heap.size, 0, none⟩) 2 2) [bs, encText ts]) := readsL_two (HB.out.below HW14.out) r14
  have HWK := b14.trans ((below_alloc w14 (.cells #[.slice adb lb capb, .slice a14 k14 c14] 22)).mono b14.size)
  replace HWK : Hid _ := HWK
  clear r14 b14
  go_wp2_with fail
  refine (rjoin_any _ [bs, encText ts] _ HJ14.out (by rw [fl2, encText_len]; have := HLB.out; have := enc_len10 ts.length (by omega); omega) (by simp)).mono ?_
  rintro e w15 ⟨v15, rfl, r15, b15⟩
  rw [show [bs, encText ts].flatten = bs ++ encText ts by simp] at r15
  have hb1215 := HWK.out.trans (b15.mono HWK.out.size)
  have HW15 : Hid (Below w.heap.size w w15) := HW12.out.trans (hb1215.mono HW12.out.size)
  have HY15 : Hid (Reads w15 v6 (bs ++ encText ts)) := HY12.out.below hb1215
  have HZ15 : Hid (Reads w15 v10 (bs ++ dg)) := HZ12.out.below hb1215
  have HD15 : Hid (Blk w15 w.heap.size cs 25) := HD12.out.below hb1215 HD12.out.lt
  have HR15 : Hid (Reads w15 v15 (bs ++ encText ts)) := r15
  clear r15 b15 hb1215 HWK HJ14 HW14 HY12 HZ12 HD12 HW12
  go_wp2_with fail
  refine (same_any v6 v15 _ _ w15 HY15.out HR15.out).mono ?_
  rintro e w16 ⟨rfl, hq⟩
  subst hq
  simp only [decide_true]
  clear HY15 HR15
  have hsl := slice_dig_at w.heap.size 0
  have HJ17 : Hid (ReadsL (w16.alloc (.cells #[.slice adb lb capb, .slice (some ⟨w.heap.size, 0, none⟩) 32 32] 22)) (.slice (some ⟨w16.heap.size, 0, none⟩) 2 2) [bs, dg]) := readsL_two (HB.out.below HW15.out) (HDG.out _ _ HD15.out)
  have HWL : Hid (Below w16.heap.size w16 (w16.alloc (.cells #[.slice adb lb capb, .slice (some ⟨w.heap.size, 0, none⟩) 32 32] 22))) := below_alloc _ _
  go_wp2_with fail
  refine (rjoin_any _ [bs, dg] _ HJ17.out (by rw [fl2]; have := HLB.out; have := HD.out; omega) (by simp)).mono ?_
  rintro e w18 ⟨v18, rfl, r18, b18⟩
  rw [show [bs, dg].flatten = bs ++ dg by simp] at r18
  have hb1618 := HWL.out.trans (b18.mono HWL.out.size)
  have HW18 : Hid (Below w.heap.size w w18) := HW15.out.trans (hb1618.mono HW15.out.size)
  have HZ18 : Hid (Reads w18 v10 (bs ++ dg)) := HZ15.out.below hb1618
  have HR18 : Hid (Reads w18 v18 (bs ++ dg)) := r18
  clear r18 b18 hb1618 HWL HJ17 HW15 HZ15 HD15
  go_wp2_with fail
  refine (same_any v10 v18 _ _ w18 HZ18.out HR18.out).mono ?_
  rintro e w19 ⟨rfl, hq⟩
  subst hq
  simp only [decide_true]
  clear HZ18 HR18
  go_wp2_with fail
  refine (cworks_any _).mono ?_
  rintro e w20 ⟨rfl, b20⟩
  have hB := HW18.out.trans (b20.mono HW18.out.size)
  go_wp2
  go_ret
  exact ⟨rfl, hB⟩
end Go.Proofs.Ytdhglbemkaogiaa

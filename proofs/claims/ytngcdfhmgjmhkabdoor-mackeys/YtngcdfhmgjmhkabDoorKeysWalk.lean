/- The walk of the statement MacKeys. -/
import Derived.Test.YtngcdfhmgjmhkabDoorRMac
import Derived.Test.YtngcdfhmgjmhkabDoorMWorks
import Derived.Test.YtngcdfhmgjmhkabDoorEq
namespace Go.Proofs.YtngcdfhmgjmhkabDoor
open Go.RowKit
theorem flat_1 (a : List (BitVec 8)) : [a].flatten = a := by simp
theorem kblock_dig {key : List (BitVec 8)} (h : 64 < key.length) : kblock (dig key) = kblock key := by
  rw [kblock_long h, kblock_short (by rw [len_dig']; omega)]
theorem kpad_more (key : List (BitVec 8)) (n : Nat) (h1 : key.length ≤ n) (h2 : n ≤ 64) : kpad (key ++ List.replicate (n - key.length) 0) = kpad key := by
  simp only [kpad, List.append_assoc, List.replicate_append_replicate, List.length_append, List.length_replicate]
  congr 2
  omega
theorem kblock_more (key : List (BitVec 8)) (n : Nat) (h1 : key.length ≤ n) (h2 : n ≤ 64) : kblock (key ++ List.replicate (n - key.length) 0) = kblock key := by
  rw [kblock_short (key := key) (by omega), kblock_short (key := key ++ List.replicate (n - key.length) 0) (by simp; omega), kpad_more key n h1 h2]
theorem hmac_of_block {k1 k2 : List (BitVec 8)} (h : kblock k1 = kblock k2) (m : List (BitVec 8)) : hmac k1 m = hmac k2 m := by unfold hmac; rw [h]
theorem Blk.copiedN {w : World} {g n : Nat} {t : TypeId} {k : List (BitVec 8)} (h : Blk w g (cb (List.replicate n 0)) t) (hk : k.length ≤ n) : Blk (w.setCells g 0 (cb k)) g (cb (k ++ List.replicate (n - k.length) 0)) t := by
  have := setCells_eq g (cb k) 0 w _ t h (by rw [cb_len, cb_len]; simp; omega)
  simpa [cb, List.map_append] using this
theorem wpOp_val' {P : Program} {ops : Array Oper} {Q : Exit → Act → World → Prop} {K : Act → World → Prop} {a : Act} {w : World} (i : Nat) {oi : Oper} (v : Value) (w' : World) (hi : ops[i]? = some oi) (hw : Region.wanted oi (yielded ops a.tmps) = true)
    (he : (execOp a.eval oi).run P w = .ok (.value v) w') (h : K (a.put oi.dst v) w') : wpOp P ops Q i K a w := by
  unfold wpOp
  rw [hi]
  simp only [hw, if_true]
  left
  unfold Oper.wp
  rw [he, Oper.upon_value]
  exact h
theorem wpOp_ent' {P : Program} {ops : Array Oper} {Q : Exit → Act → World → Prop} {K : Act → World → Prop} {a : Act} {w : World} (i : Nat) {oi : Oper} {f : FuncId} {args : Array Value} {R : Ending → World → Prop} (hi : ops[i]? = some oi) (hw : Region.wanted oi (yielded ops a.tmps) = true)
    (he : (execOp a.eval oi).run P w = .ok (.enter f args) w) (hc : Calls P f args w R) (h : ∀ e w', R e w' → ∃ v, e = .returned v ∧ K (a.put oi.dst v) w') : wpOp P ops Q i K a w := by
  unfold wpOp
  rw [hi]
  simp only [hw, if_true]
  left
  unfold Oper.wp
  rw [he, Oper.upon_enter]
  refine hc.mono ?_
  intro e w' hR
  obtain ⟨v, rfl, hv⟩ := h e w' hR
  exact hv
theorem wpAny_two {P : Program} {md : Region.Mode} {ops : Array Oper} {Q : Exit → Act → World → Prop} {fuel : Nat} {listed : Array Bool} {a : Act} {w : World} (i j : Nat) (hr : Region.ready md ops listed = [i, j])
    (h1 : wpOp P ops Q i (wpAny P md ops Q fuel (listed.setIfInBounds i true)) a w) (h2 : wpOp P ops Q j (wpAny P md ops Q fuel (listed.setIfInBounds j true)) a w) : wpAny P md ops Q (fuel + 1) listed a w := by
  refine wpAny_all hr (by simp) (fun k hk => ?_)
  rcases List.mem_cons.1 hk with rfl | hk
  · exact h1
  · obtain rfl : k = j := by simpa using hk
    exact h2
/-- what the last region finds: the blocks of old as they were, the key's digest -/
structure HeldK (w0 : World) (gd : Nat) (dd : List (BitVec 8)) (wx : World) : Prop where
  bel : Below w0.heap.size w0 wx
  one : Blk wx gd (cb dd) 26
theorem HeldK.more {w0 wx wy : World} {gd : Nat} {dd : List (BitVec 8)} (h : HeldK w0 gd dd wx) (hb : Below wx.heap.size wx wy) : HeldK w0 gd dd wy := ⟨h.bel.trans (hb.mono h.bel.size), h.one.below hb h.one.lt⟩
set_option maxRecDepth 100000 in
set_option maxHeartbeats 2000000 in
theorem macKeys_any (vk vb : Value) (key bb : List (BitVec 8)) (more : BitVec 8) (w : World) (hK : KOk w) (hk : Reads w vk key) (hb : Reads w vb bb) :
    Calls Tryd.prog 6 #[vk, .int .u8 (more.toNat : Int), vb] w fun e w' => e = .returned (.bool true) ∧ Below w.heap.size w w' := by
  have HK : Hid (KOk w) := hK
  have HKR : Hid (Reads w vk key) := hk
  have HB : Hid (Reads w vb bb) := hb
  obtain ⟨aa, ca, rfl, _, _, _⟩ := hk
  obtain ⟨ab, cca, rfl, _, _, _⟩ := hb
  clear hK
  by_cases h : 32768 < key.length ∨ 32768 < bb.length
  · by_cases h0 : 32768 < key.length
    · clear h
      go_enter Tryd.func6, Tryd.ntmps6
      go_wp2_with fail
      refine (mlong_any _ key _ HKR.out).mono ?_
      rintro e wq ⟨rfl, rfl⟩
      simp only [h0, decide_true]
      go_wp2_with (go_at_call 8; refine (mworks_any _ HK.out).mono ?_; rintro e w4 ⟨rfl, hb4⟩)
      go_ret
      exact ⟨rfl, hb4⟩
    · have h1 : 32768 < bb.length := by omega
      clear h
      go_enter Tryd.func6, Tryd.ntmps6
      go_wp2_with fail
      refine (mlong_any _ key _ HKR.out).mono ?_
      rintro e wq ⟨rfl, rfl⟩
      simp only [h0, decide_false]
      go_wp2_with fail
      refine (mlong_any _ bb _ HB.out).mono ?_
      rintro e wq ⟨rfl, rfl⟩
      simp only [h1, decide_true]
      go_wp2_with (go_at_call 8; refine (mworks_any _ HK.out).mono ?_; rintro e w4 ⟨rfl, hb4⟩)
      go_ret
      exact ⟨rfl, hb4⟩
  · have h0 : ¬ 32768 < key.length := fun h' => h (Or.inl h')
    have h1 : ¬ 32768 < bb.length := fun h' => h (Or.inr h')
    have HL : Hid (key.length ≤ 32768 ∧ bb.length ≤ 32768) := ⟨by omega, by omega⟩
    clear h
    by_cases h64 : 64 < key.length
    · have HKB : Hid (hmac (dig key) bb = hmac key bb) := hmac_of_block (kblock_dig h64) bb
      have hd64 : decide (64 < (key.length : Int)) = true := by simp; omega
      go_enter Tryd.func6, Tryd.ntmps6
      go_wp2_with fail
      refine (mlong_any _ key _ HKR.out).mono ?_
      rintro e wq ⟨rfl, rfl⟩
      simp only [h0, decide_false]
      go_wp2_with fail
      refine (mlong_any _ bb _ HB.out).mono ?_
      rintro e wq ⟨rfl, rfl⟩
      simp only [h1, decide_false]
      clear h0 h1
      go_wp2_with fail
      refine (rsum_any _ key _ HKR.out (by have := HL.out; omega)).mono ?_
      rintro e w1 ⟨rfl, hb1⟩
      obtain ⟨dd, HD⟩ : ∃ x, Hid (x = dig key) := ⟨_, rfl⟩
      have HDL : Hid (dd.length = 32) := by show _ = _; rw [HD.out]; exact len_dig' _
      rw [← HD.out]
      rw [← HD.out] at HKB
      obtain ⟨ds, HDS⟩ : ∃ x, Hid (x = cb dd) := ⟨_, rfl⟩
      have HLd : Hid (ds.length = 32) := by show _ = _; rw [HDS.out, cb_len, HDL.out]
      have HZ : Hid ((Tryd.prog.info? 26).map (·.size) = some ds.length) := by show _ = _; rw [HLd.out]; exact Tryd.info26
      have H1 : Hid (∀ v ∈ ds, v.oneCell' = true) := by show ∀ _, _; rw [HDS.out]; exact cb_one _
      rw [← HDS.out]
      go_wp2_with (refine wpList_store_mid rfl 26 _ _ rfl _ 0 ds.toArray rfl rfl ?_ (by simpa using HZ.out) (all_oneCell_toArray H1.out) ?_; exact Blk.there (Blk.new_at rfl (cb zb32) _) _ _ (by rw [List.size_toArray, HLd.out, cb_len, len_zb32]; omega); refine Hid.out ?_)
      generalize h0 : Obj.cells _ 26 = o32
      have ho : o32 = Obj.cells (cb zb32).toArray 26 := h0.symm
      clear h0
      subst ho
      have b4 : Below w1.heap.size w1 ((w1.alloc (.cells (cb zb32).toArray 26)).setCells w1.heap.size 0 ds) := Below.setCells _ (Nat.le_refl _) _ _ _ (below_alloc _ _)
      have HD4 : Blk ((w1.alloc (.cells (cb zb32).toArray 26)).setCells w1.heap.size 0 ds) w1.heap.size (cb dd) 26 := by
        rw [← HDS.out]
        exact (Blk.new w1 (cb zb32) 26).whole ds (by rw [HLd.out, cb_len, len_zb32])
      generalize World.setCells _ _ _ _ = w4 at *
      have HS4 : Below wq.heap.size wq w4 := hb1.trans (b4.mono hb1.size)
      generalize w1.heap.size = gd at *
      clear b4 hb1 HLd HZ H1
      rw [HDS.out]
      clear HDS
      unfold Hid
      go_wp2_with fail
      refine wp_region_any (by kernel_rfl) ?_
      change wpAny _ _ _ _ _ _ _ (World.drew _)
      have hS : HeldK wq gd dd w4.drew := ⟨HS4.drew, HD4.drew⟩
      clear HS4 HD4
      generalize w4.drew = w5 at *
      have heq := fun wx => eq_dig_same (hmac key bb) (len_hmac key bb) wx
      refine wpAny_take (i := 0) (v := .slice aa key.length ca) rfl (by kernel_rfl) (by kernel_rfl) (by kernel_rfl) (fun _ _ _ h => h) (Or.inl ⟨by rfl, fun wx => by simp [go_sem]⟩) ?_
      simp only [Act.put, List.getElem_toArray, List.getElem_cons_zero, List.setIfInBounds_toArray, List.set_cons_zero, List.set_cons_succ]
      refine wpAny_take (i := 1) (v := .slice ab bb.length cca) rfl (by kernel_rfl) (by kernel_rfl) (by kernel_rfl) (fun _ _ _ h => h) (Or.inl ⟨by rfl, fun wx => by simp [go_sem]⟩) ?_
      simp only [Act.put, List.getElem_toArray, List.getElem_cons_succ, List.getElem_cons_zero, List.setIfInBounds_toArray, List.set_cons_zero, List.set_cons_succ]
      refine wpAny_take (i := 4) (v := .slice (some ⟨gd, 0, none⟩) 32 32) rfl (by kernel_rfl) (by kernel_rfl) (by kernel_rfl) (fun _ _ _ h => h) (Or.inl ⟨by rfl, fun wx => by simp [execOp, Act.eval, slice_dig]⟩) ?_
      simp only [Act.put, List.getElem_toArray, List.getElem_cons_succ, List.getElem_cons_zero, List.setIfInBounds_toArray, List.set_cons_zero, List.set_cons_succ]
      refine wpAny_take (i := 5) (v := .slice ab bb.length cca) rfl (by kernel_rfl) (by kernel_rfl) (by kernel_rfl) (fun _ _ _ h => h) (Or.inl ⟨by rfl, fun wx => by simp [go_sem]⟩) ?_
      simp only [Act.put, List.getElem_toArray, List.getElem_cons_succ, List.getElem_cons_zero, List.setIfInBounds_toArray, List.set_cons_zero, List.set_cons_succ]
      have hbA := below_alloc w5 (.cells #[.slice ab bb.length cca] 22)
      have hSA := hS.more hbA
      refine wpAny_two 2 6 (by kernel_rfl) (wpOp_val' 2 (.slice (some ⟨w5.heap.size, 0, none⟩) 1 1) (w5.alloc (.cells #[.slice ab bb.length cca] 22)) rfl (by rfl) (by simp [go_sem]) ?_) (wpOp_val' 6 (.slice (some ⟨w5.heap.size, 0, none⟩) 1 1) (w5.alloc (.cells #[.slice ab bb.length cca] 22)) rfl (by rfl) (by simp [go_sem]) ?_)
      · skip
        have r24 : ReadsL (w5.alloc (.cells #[.slice ab bb.length cca] 22)) (.slice (some ⟨w5.heap.size, 0, none⟩) 1 1) [bb] := readsL_one (HB.out.below hS.bel)
        simp only [Act.put, List.getElem_toArray, List.getElem_cons_succ, List.getElem_cons_zero, List.setIfInBounds_toArray, List.set_cons_zero, List.set_cons_succ]
        clear hS
        generalize w5.alloc (.cells #[.slice ab bb.length cca] 22) = w6 at *
        generalize w5.heap.size = n24 at *
        have hS := hSA
        clear hbA hSA
        have hbA := below_alloc w6 (.cells #[.slice ab bb.length cca] 22)
        have hSA := hS.more hbA
        refine wpAny_two 3 6 (by kernel_rfl) (wpOp_ent' 3 rfl (by rfl) (f := 11) (args := #[.slice aa key.length ca, .slice (some ⟨n24, 0, none⟩) 1 1]) (by simp [go_sem]) (mac_any _ _ key [bb] w6 (HK.out.below hS.bel HK.out.lt) (HKR.out.below hS.bel) r24 (by have := HL.out; omega) (by rw [flat_1]; have := HL.out; omega) (by simp)) ?_) (wpOp_val' 6 (.slice (some ⟨w6.heap.size, 0, none⟩) 1 1) (w6.alloc (.cells #[.slice ab bb.length cca] 22)) rfl (by rfl) (by simp [go_sem]) ?_)
        · clear hbA hSA
          rintro e w7 ⟨rfl, hbB⟩
          refine ⟨_, rfl, ?_⟩
          rw [flat_1]
          simp only [Act.put, List.getElem_toArray, List.getElem_cons_succ, List.getElem_cons_zero, List.setIfInBounds_toArray, List.set_cons_zero, List.set_cons_succ]
          have hSB := hS.more hbB
          clear hS hbB
          have hS := hSB
          clear hSB
          have hbA := below_alloc w7 (.cells #[.slice ab bb.length cca] 22)
          have hSA := hS.more hbA
          refine wpAny_step 6 (.slice (some ⟨w7.heap.size, 0, none⟩) 1 1) (w7.alloc (.cells #[.slice ab bb.length cca] 22)) (by kernel_rfl) rfl (by rfl) (by simp [go_sem]) ?_
          have r28 : ReadsL (w7.alloc (.cells #[.slice ab bb.length cca] 22)) (.slice (some ⟨w7.heap.size, 0, none⟩) 1 1) [bb] := readsL_one (HB.out.below hS.bel)
          simp only [Act.put, List.getElem_toArray, List.getElem_cons_succ, List.getElem_cons_zero, List.setIfInBounds_toArray, List.set_cons_zero, List.set_cons_succ]
          clear hS
          generalize w7.alloc (.cells #[.slice ab bb.length cca] 22) = w8 at *
          generalize w7.heap.size = n28 at *
          have hS := hSA
          clear hbA hSA
          refine wpAny_enter 7 (by kernel_rfl) rfl (by rfl) (f := 11) (args := #[.slice (some ⟨gd, 0, none⟩) 32 32, .slice (some ⟨n28, 0, none⟩) 1 1]) (by simp [go_sem]) (mac_any _ _ dd [bb] w8 (HK.out.below hS.bel HK.out.lt) (hS.one.reads HDL.out.symm (by have := HDL.out; omega)) r28 (by have := HDL.out; omega) (by rw [flat_1]; have := HL.out; omega) (by simp)) ?_
          rintro e w90 ⟨rfl, hbB⟩
          refine ⟨_, rfl, ?_⟩
          rw [flat_1, HKB.out]
          simp only [Act.put, List.getElem_toArray, List.getElem_cons_succ, List.getElem_cons_zero, List.setIfInBounds_toArray, List.set_cons_zero, List.set_cons_succ]
          have hS9 := hS.more hbB
          clear hS hbB
          refine wpAny_take (i := 8) (v := .bool true) rfl (by kernel_rfl) (by kernel_rfl) (by kernel_rfl) (fun _ _ _ h => h) (Or.inl ⟨by rfl, fun wx => by simp [go_sem, heq]⟩) ?_
          simp only [Act.put, List.getElem_toArray, List.getElem_cons_succ, List.getElem_cons_zero, List.setIfInBounds_toArray, List.set_cons_zero, List.set_cons_succ]
          refine wpAny_take (i := 9) (v := .bool true) rfl (by kernel_rfl) (by kernel_rfl) (by kernel_rfl) (fun _ _ _ h => h) (Or.inl ⟨by rfl, fun wx => by simp [go_sem]⟩) ?_
          simp only [Act.put, List.getElem_toArray, List.getElem_cons_succ, List.getElem_cons_zero, List.setIfInBounds_toArray, List.set_cons_zero, List.set_cons_succ]
          refine wpAny_enter 10 (by kernel_rfl) rfl (by rfl) (f := 8) (args := #[]) (by simp [go_sem]) (mworks_any _ (HK.out.below hS9.bel HK.out.lt)) ?_
          rintro e w91 ⟨rfl, hbC⟩
          refine ⟨_, rfl, ?_⟩
          simp only [Act.put, List.getElem_toArray, List.getElem_cons_succ, List.getElem_cons_zero, List.setIfInBounds_toArray, List.set_cons_zero, List.set_cons_succ]
          have hB9 := (hS9.more hbC).bel
          clear hS9 hbC heq
          refine wpAny_take (i := 11) (v := .bool true) rfl (by kernel_rfl) (by kernel_rfl) (by kernel_rfl) (fun _ _ _ h => h) (Or.inl ⟨by rfl, fun wx => by simp [go_sem]⟩) ?_
          simp only [Act.put, List.getElem_toArray, List.getElem_cons_succ, List.getElem_cons_zero, List.setIfInBounds_toArray, List.set_cons_zero, List.set_cons_succ]
          refine wpAny_take (i := 12) (v := .bool true) rfl (by kernel_rfl) (by kernel_rfl) (by kernel_rfl) (fun _ _ _ h => h) (Or.inl ⟨by rfl, fun wx => by simp [go_sem]⟩) ?_
          simp only [Act.put, List.getElem_toArray, List.getElem_cons_succ, List.getElem_cons_zero, List.setIfInBounds_toArray, List.set_cons_zero, List.set_cons_succ]
          refine wpAny_done (by kernel_rfl) ?_ _
          go_wp2
          go_ret
          exact ⟨rfl, hB9⟩
        · skip
          have r28 : ReadsL (w6.alloc (.cells #[.slice ab bb.length cca] 22)) (.slice (some ⟨w6.heap.size, 0, none⟩) 1 1) [bb] := readsL_one (HB.out.below hS.bel)
          have r24x := r24.below hbA
          simp only [Act.put, List.getElem_toArray, List.getElem_cons_succ, List.getElem_cons_zero, List.setIfInBounds_toArray, List.set_cons_zero, List.set_cons_succ]
          clear r24 hS
          generalize w6.alloc (.cells #[.slice ab bb.length cca] 22) = w7 at *
          generalize w6.heap.size = n28 at *
          have hS := hSA
          clear hbA hSA
          have r24 := r24x
          clear r24x
          refine wpAny_enter 3 (by kernel_rfl) rfl (by rfl) (f := 11) (args := #[.slice aa key.length ca, .slice (some ⟨n24, 0, none⟩) 1 1]) (by simp [go_sem]) (mac_any _ _ key [bb] w7 (HK.out.below hS.bel HK.out.lt) (HKR.out.below hS.bel) r24 (by have := HL.out; omega) (by rw [flat_1]; have := HL.out; omega) (by simp)) ?_
          rintro e w8 ⟨rfl, hbB⟩
          refine ⟨_, rfl, ?_⟩
          rw [flat_1]
          simp only [Act.put, List.getElem_toArray, List.getElem_cons_succ, List.getElem_cons_zero, List.setIfInBounds_toArray, List.set_cons_zero, List.set_cons_succ]
          have hSB := hS.more hbB
          have r28x := r28.below hbB
          clear hS hbB r28
          have hS := hSB
          clear hSB
          have r28 := r28x
          clear r28x
          refine wpAny_enter 7 (by kernel_rfl) rfl (by rfl) (f := 11) (args := #[.slice (some ⟨gd, 0, none⟩) 32 32, .slice (some ⟨n28, 0, none⟩) 1 1]) (by simp [go_sem]) (mac_any _ _ dd [bb] w8 (HK.out.below hS.bel HK.out.lt) (hS.one.reads HDL.out.symm (by have := HDL.out; omega)) r28 (by have := HDL.out; omega) (by rw [flat_1]; have := HL.out; omega) (by simp)) ?_
          rintro e w90 ⟨rfl, hbB⟩
          refine ⟨_, rfl, ?_⟩
          rw [flat_1, HKB.out]
          simp only [Act.put, List.getElem_toArray, List.getElem_cons_succ, List.getElem_cons_zero, List.setIfInBounds_toArray, List.set_cons_zero, List.set_cons_succ]
          have hS9 := hS.more hbB
          clear hS hbB
          refine wpAny_take (i := 8) (v := .bool true) rfl (by kernel_rfl) (by kernel_rfl) (by kernel_rfl) (fun _ _ _ h => h) (Or.inl ⟨by rfl, fun wx => by simp [go_sem, heq]⟩) ?_
          simp only [Act.put, List.getElem_toArray, List.getElem_cons_succ, List.getElem_cons_zero, List.setIfInBounds_toArray, List.set_cons_zero, List.set_cons_succ]
          refine wpAny_take (i := 9) (v := .bool true) rfl (by kernel_rfl) (by kernel_rfl) (by kernel_rfl) (fun _ _ _ h => h) (Or.inl ⟨by rfl, fun wx => by simp [go_sem]⟩) ?_
          simp only [Act.put, List.getElem_toArray, List.getElem_cons_succ, List.getElem_cons_zero, List.setIfInBounds_toArray, List.set_cons_zero, List.set_cons_succ]
          refine wpAny_enter 10 (by kernel_rfl) rfl (by rfl) (f := 8) (args := #[]) (by simp [go_sem]) (mworks_any _ (HK.out.below hS9.bel HK.out.lt)) ?_
          rintro e w91 ⟨rfl, hbC⟩
          refine ⟨_, rfl, ?_⟩
          simp only [Act.put, List.getElem_toArray, List.getElem_cons_succ, List.getElem_cons_zero, List.setIfInBounds_toArray, List.set_cons_zero, List.set_cons_succ]
          have hB9 := (hS9.more hbC).bel
          clear hS9 hbC heq
          refine wpAny_take (i := 11) (v := .bool true) rfl (by kernel_rfl) (by kernel_rfl) (by kernel_rfl) (fun _ _ _ h => h) (Or.inl ⟨by rfl, fun wx => by simp [go_sem]⟩) ?_
          simp only [Act.put, List.getElem_toArray, List.getElem_cons_succ, List.getElem_cons_zero, List.setIfInBounds_toArray, List.set_cons_zero, List.set_cons_succ]
          refine wpAny_take (i := 12) (v := .bool true) rfl (by kernel_rfl) (by kernel_rfl) (by kernel_rfl) (fun _ _ _ h => h) (Or.inl ⟨by rfl, fun wx => by simp [go_sem]⟩) ?_
          simp only [Act.put, List.getElem_toArray, List.getElem_cons_succ, List.getElem_cons_zero, List.setIfInBounds_toArray, List.set_cons_zero, List.set_cons_succ]
          refine wpAny_done (by kernel_rfl) ?_ _
          go_wp2
          go_ret
          exact ⟨rfl, hB9⟩
      · skip
        have r28 : ReadsL (w5.alloc (.cells #[.slice ab bb.length cca] 22)) (.slice (some ⟨w5.heap.size, 0, none⟩) 1 1) [bb] := readsL_one (HB.out.below hS.bel)
        simp only [Act.put, List.getElem_toArray, List.getElem_cons_succ, List.getElem_cons_zero, List.setIfInBounds_toArray, List.set_cons_zero, List.set_cons_succ]
        clear hS
        generalize w5.alloc (.cells #[.slice ab bb.length cca] 22) = w6 at *
        generalize w5.heap.size = n28 at *
        have hS := hSA
        clear hbA hSA
        have hbA := below_alloc w6 (.cells #[.slice ab bb.length cca] 22)
        have hSA := hS.more hbA
        refine wpAny_step 2 (.slice (some ⟨w6.heap.size, 0, none⟩) 1 1) (w6.alloc (.cells #[.slice ab bb.length cca] 22)) (by kernel_rfl) rfl (by rfl) (by simp [go_sem]) ?_
        have r24 : ReadsL (w6.alloc (.cells #[.slice ab bb.length cca] 22)) (.slice (some ⟨w6.heap.size, 0, none⟩) 1 1) [bb] := readsL_one (HB.out.below hS.bel)
        have r28x := r28.below hbA
        simp only [Act.put, List.getElem_toArray, List.getElem_cons_succ, List.getElem_cons_zero, List.setIfInBounds_toArray, List.set_cons_zero, List.set_cons_succ]
        clear r28 hS
        generalize w6.alloc (.cells #[.slice ab bb.length cca] 22) = w7 at *
        generalize w6.heap.size = n24 at *
        have hS := hSA
        clear hbA hSA
        have r28 := r28x
        clear r28x
        refine wpAny_enter 3 (by kernel_rfl) rfl (by rfl) (f := 11) (args := #[.slice aa key.length ca, .slice (some ⟨n24, 0, none⟩) 1 1]) (by simp [go_sem]) (mac_any _ _ key [bb] w7 (HK.out.below hS.bel HK.out.lt) (HKR.out.below hS.bel) r24 (by have := HL.out; omega) (by rw [flat_1]; have := HL.out; omega) (by simp)) ?_
        rintro e w8 ⟨rfl, hbB⟩
        refine ⟨_, rfl, ?_⟩
        rw [flat_1]
        simp only [Act.put, List.getElem_toArray, List.getElem_cons_succ, List.getElem_cons_zero, List.setIfInBounds_toArray, List.set_cons_zero, List.set_cons_succ]
        have hSB := hS.more hbB
        have r28x := r28.below hbB
        clear hS hbB r28
        have hS := hSB
        clear hSB
        have r28 := r28x
        clear r28x
        refine wpAny_enter 7 (by kernel_rfl) rfl (by rfl) (f := 11) (args := #[.slice (some ⟨gd, 0, none⟩) 32 32, .slice (some ⟨n28, 0, none⟩) 1 1]) (by simp [go_sem]) (mac_any _ _ dd [bb] w8 (HK.out.below hS.bel HK.out.lt) (hS.one.reads HDL.out.symm (by have := HDL.out; omega)) r28 (by have := HDL.out; omega) (by rw [flat_1]; have := HL.out; omega) (by simp)) ?_
        rintro e w90 ⟨rfl, hbB⟩
        refine ⟨_, rfl, ?_⟩
        rw [flat_1, HKB.out]
        simp only [Act.put, List.getElem_toArray, List.getElem_cons_succ, List.getElem_cons_zero, List.setIfInBounds_toArray, List.set_cons_zero, List.set_cons_succ]
        have hS9 := hS.more hbB
        clear hS hbB
        refine wpAny_take (i := 8) (v := .bool true) rfl (by kernel_rfl) (by kernel_rfl) (by kernel_rfl) (fun _ _ _ h => h) (Or.inl ⟨by rfl, fun wx => by simp [go_sem, heq]⟩) ?_
        simp only [Act.put, List.getElem_toArray, List.getElem_cons_succ, List.getElem_cons_zero, List.setIfInBounds_toArray, List.set_cons_zero, List.set_cons_succ]
        refine wpAny_take (i := 9) (v := .bool true) rfl (by kernel_rfl) (by kernel_rfl) (by kernel_rfl) (fun _ _ _ h => h) (Or.inl ⟨by rfl, fun wx => by simp [go_sem]⟩) ?_
        simp only [Act.put, List.getElem_toArray, List.getElem_cons_succ, List.getElem_cons_zero, List.setIfInBounds_toArray, List.set_cons_zero, List.set_cons_succ]
        refine wpAny_enter 10 (by kernel_rfl) rfl (by rfl) (f := 8) (args := #[]) (by simp [go_sem]) (mworks_any _ (HK.out.below hS9.bel HK.out.lt)) ?_
        rintro e w91 ⟨rfl, hbC⟩
        refine ⟨_, rfl, ?_⟩
        simp only [Act.put, List.getElem_toArray, List.getElem_cons_succ, List.getElem_cons_zero, List.setIfInBounds_toArray, List.set_cons_zero, List.set_cons_succ]
        have hB9 := (hS9.more hbC).bel
        clear hS9 hbC heq
        refine wpAny_take (i := 11) (v := .bool true) rfl (by kernel_rfl) (by kernel_rfl) (by kernel_rfl) (fun _ _ _ h => h) (Or.inl ⟨by rfl, fun wx => by simp [go_sem]⟩) ?_
        simp only [Act.put, List.getElem_toArray, List.getElem_cons_succ, List.getElem_cons_zero, List.setIfInBounds_toArray, List.set_cons_zero, List.set_cons_succ]
        refine wpAny_take (i := 12) (v := .bool true) rfl (by kernel_rfl) (by kernel_rfl) (by kernel_rfl) (fun _ _ _ h => h) (Or.inl ⟨by rfl, fun wx => by simp [go_sem]⟩) ?_
        simp only [Act.put, List.getElem_toArray, List.getElem_cons_succ, List.getElem_cons_zero, List.setIfInBounds_toArray, List.set_cons_zero, List.set_cons_succ]
        refine wpAny_done (by kernel_rfl) ?_ _
        go_wp2
        go_ret
        exact ⟨rfl, hB9⟩
    · have hd64 : decide (64 < (key.length : Int)) = false := by simp; omega
      have hml := more.isLt
      by_cases hm : 64 < key.length + more.toNat
      · have hdm : decide (64 < (key.length : Int) + (more.toNat : Int)) = true := by simp; omega
        have hmk : ∀ wx, (Instr.makeSlice 22 (.int .i64 64) (.int .i64 64)).run Tryd.prog wx = .ok (.slice (some ⟨wx.heap.size, 0, none⟩) 64 64) (wx.alloc (.cells (cb (List.replicate 64 0)).toArray 5)) := fun wx => make_n .i64 64 (by omega) wx
        go_enter Tryd.func6, Tryd.ntmps6
        go_wp2_with fail
        refine (mlong_any _ key _ HKR.out).mono ?_
        rintro e wq ⟨rfl, rfl⟩
        simp only [h0, decide_false]
        go_wp2_with fail
        refine (mlong_any _ bb _ HB.out).mono ?_
        rintro e wq ⟨rfl, rfl⟩
        simp only [h1, decide_false]
        clear h0 h1
        go_wp2_with fail
        generalize hob : Obj.cells _ 5 = ob
        have hob2 : ob = Obj.cells (cb (List.replicate (64) 0)).toArray 5 := hob.symm
        clear hob
        subst hob2
        have hB := Blk.new wq (cb (List.replicate (64) 0)) 5
        have hbq := below_alloc wq (.cells (cb (List.replicate (64) 0)).toArray 5)
        rw [copy_run (dl := 64) (dc := 64) (T := 3) (n := key.length) hB (HKR.out.below hbq) (by omega) (by simp)]
        have hB2 := hB.copiedN (k := key) (by omega)
        have hS2 := Below.setCells wq.heap.size (Nat.le_refl _) (cb key) 0 _ hbq
        generalize World.setCells _ _ _ _ = w2 at *
        have hgk : wq.heap.size < w2.heap.size := hB2.lt
        have HR2 : Hid (Reads w2 (.slice (some ⟨wq.heap.size, 0, none⟩) (64) (64)) (key ++ List.replicate ((64) - key.length) 0)) := hB2.reads (by rw [List.length_append, List.length_replicate]; omega) (by rw [List.length_append, List.length_replicate]; omega)
        have HE : Hid (hmac (key ++ List.replicate ((64) - key.length) 0) bb = hmac key bb) := hmac_of_block (kblock_more key (64) (by omega) (by omega)) bb
        have HS2 : Hid (Below wq.heap.size wq w2) := hS2
        have HNL : Hid ((key ++ List.replicate ((64) - key.length) 0).length ≤ 64) := by show _ ≤ _; simp; omega
        clear hB hbq hB2 hS2 hmk
        generalize key ++ List.replicate ((64) - key.length) 0 = kk at *
        go_wp2_with fail
        have b3 := below_alloc w2 (.cells #[.slice ab bb.length cca] 22)
        refine (mac_any _ _ key [bb] _ (HK.out.below (HS2.out.trans (b3.mono HS2.out.size)) HK.out.lt) (HKR.out.below (HS2.out.trans (b3.mono HS2.out.size))) (readsL_one (HB.out.below HS2.out)) (by have := HL.out; omega) (by rw [flat_1]; have := HL.out; omega) (by simp)).mono ?_
        rintro e w3 ⟨rfl, hb3⟩
        rw [flat_1]
        have b23 := b3.trans (hb3.mono (by simp))
        have HS3 : Hid (Below wq.heap.size wq w3) := HS2.out.trans (b23.mono HS2.out.size)
        have HR3 := HR2.out.below b23
        have HRK : Hid (Reads w3 (.slice (some ⟨wq.heap.size, 0, none⟩) (64) (64)) kk) := HR3
        clear b3 hb3 b23 HS2 HR2 HR3
        go_wp2_with fail
        have b4 := below_alloc w3 (.cells #[.slice ab bb.length cca] 22)
        refine (mac_any _ _ kk [bb] _ (HK.out.below (HS3.out.trans (b4.mono HS3.out.size)) HK.out.lt) (HRK.out.below b4) (readsL_one (HB.out.below HS3.out)) (by have := HNL.out; omega) (by rw [flat_1]; have := HL.out; omega) (by simp)).mono ?_
        rintro e w5 ⟨rfl, hb5⟩
        rw [flat_1, HE.out]
        have HS5 : Hid (Below wq.heap.size wq w5) := HS3.out.trans ((b4.trans (hb5.mono (by simp))).mono HS3.out.size)
        clear b4 hb5 HS3 HRK
        have heq := fun wx => eq_dig_same (hmac key bb) (len_hmac key bb) wx
        generalize hmac key bb = dd at *
        go_wp2_with (go_at_call 8; refine (mworks_any _ (HK.out.below HS5.out HK.out.lt)).mono ?_; rintro e w6 ⟨rfl, hb6⟩)
        go_ret
        exact ⟨rfl, HS5.out.trans (hb6.mono HS5.out.size)⟩
      · have hdm : decide (64 < (key.length : Int) + (more.toNat : Int)) = false := by simp; omega
        have hmk : ∀ wx, (Instr.makeSlice 22 (.int .i64 ((key.length : Int) + (more.toNat : Int))) (.int .i64 ((key.length : Int) + (more.toNat : Int)))).run Tryd.prog wx = .ok (.slice (some ⟨wx.heap.size, 0, none⟩) (key.length + more.toNat) (key.length + more.toNat)) (wx.alloc (.cells (cb (List.replicate (key.length + more.toNat) 0)).toArray 5)) := fun wx => by
          have := make_n .i64 (key.length + more.toNat) (by omega) wx
          simpa using this
        go_enter Tryd.func6, Tryd.ntmps6
        go_wp2_with fail
        refine (mlong_any _ key _ HKR.out).mono ?_
        rintro e wq ⟨rfl, rfl⟩
        simp only [h0, decide_false]
        go_wp2_with fail
        refine (mlong_any _ bb _ HB.out).mono ?_
        rintro e wq ⟨rfl, rfl⟩
        simp only [h1, decide_false]
        clear h0 h1
        go_wp2_with fail
        generalize hob : Obj.cells _ 5 = ob
        have hob2 : ob = Obj.cells (cb (List.replicate (key.length + more.toNat) 0)).toArray 5 := hob.symm
        clear hob
        subst hob2
        have hB := Blk.new wq (cb (List.replicate (key.length + more.toNat) 0)) 5
        have hbq := below_alloc wq (.cells (cb (List.replicate (key.length + more.toNat) 0)).toArray 5)
        rw [copy_run (dl := key.length + more.toNat) (dc := key.length + more.toNat) (T := 3) (n := key.length) hB (HKR.out.below hbq) (by omega) (by simp)]
        have hB2 := hB.copiedN (k := key) (by omega)
        have hS2 := Below.setCells wq.heap.size (Nat.le_refl _) (cb key) 0 _ hbq
        generalize World.setCells _ _ _ _ = w2 at *
        have hgk : wq.heap.size < w2.heap.size := hB2.lt
        have HR2 : Hid (Reads w2 (.slice (some ⟨wq.heap.size, 0, none⟩) (key.length + more.toNat) (key.length + more.toNat)) (key ++ List.replicate ((key.length + more.toNat) - key.length) 0)) := hB2.reads (by rw [List.length_append, List.length_replicate]; omega) (by rw [List.length_append, List.length_replicate]; omega)
        have HE : Hid (hmac (key ++ List.replicate ((key.length + more.toNat) - key.length) 0) bb = hmac key bb) := hmac_of_block (kblock_more key (key.length + more.toNat) (by omega) (by omega)) bb
        have HS2 : Hid (Below wq.heap.size wq w2) := hS2
        have HNL : Hid ((key ++ List.replicate ((key.length + more.toNat) - key.length) 0).length ≤ 64) := by show _ ≤ _; simp; omega
        clear hB hbq hB2 hS2 hmk
        generalize key ++ List.replicate ((key.length + more.toNat) - key.length) 0 = kk at *
        go_wp2_with fail
        have b3 := below_alloc w2 (.cells #[.slice ab bb.length cca] 22)
        refine (mac_any _ _ key [bb] _ (HK.out.below (HS2.out.trans (b3.mono HS2.out.size)) HK.out.lt) (HKR.out.below (HS2.out.trans (b3.mono HS2.out.size))) (readsL_one (HB.out.below HS2.out)) (by have := HL.out; omega) (by rw [flat_1]; have := HL.out; omega) (by simp)).mono ?_
        rintro e w3 ⟨rfl, hb3⟩
        rw [flat_1]
        have b23 := b3.trans (hb3.mono (by simp))
        have HS3 : Hid (Below wq.heap.size wq w3) := HS2.out.trans (b23.mono HS2.out.size)
        have HR3 := HR2.out.below b23
        have HRK : Hid (Reads w3 (.slice (some ⟨wq.heap.size, 0, none⟩) (key.length + more.toNat) (key.length + more.toNat)) kk) := HR3
        clear b3 hb3 b23 HS2 HR2 HR3
        go_wp2_with fail
        have b4 := below_alloc w3 (.cells #[.slice ab bb.length cca] 22)
        refine (mac_any _ _ kk [bb] _ (HK.out.below (HS3.out.trans (b4.mono HS3.out.size)) HK.out.lt) (HRK.out.below b4) (readsL_one (HB.out.below HS3.out)) (by have := HNL.out; omega) (by rw [flat_1]; have := HL.out; omega) (by simp)).mono ?_
        rintro e w5 ⟨rfl, hb5⟩
        rw [flat_1, HE.out]
        have HS5 : Hid (Below wq.heap.size wq w5) := HS3.out.trans ((b4.trans (hb5.mono (by simp))).mono HS3.out.size)
        clear b4 hb5 HS3 HRK
        have heq := fun wx => eq_dig_same (hmac key bb) (len_hmac key bb) wx
        generalize hmac key bb = dd at *
        go_wp2_with (go_at_call 8; refine (mworks_any _ (HK.out.below HS5.out HK.out.lt)).mono ?_; rintro e w6 ⟨rfl, hb6⟩)
        go_ret
        exact ⟨rfl, HS5.out.trans (hb6.mono HS5.out.size)⟩
end Go.Proofs.YtngcdfhmgjmhkabDoor

/- The walks of Less, Under and the reference's. -/
import Derived.Test.YthjkihbobdollaaPathR2
import Derived.Lib.BytesEntry
namespace Go.Proofs.Ythjkihbobdollaa
open Go.RowKit
theorem bytes_cb (x : List (BitVec 8)) : Lib.bytesOf (x.map fun b => (b.toNat : Int)) = x.map UInt8.ofBitVec := by
  simp only [Lib.bytesOf, List.map_map]
  apply List.map_congr_left
  intro b _
  apply UInt8.toNat_inj.1
  simp
theorem run_compareD (x y : List (BitVec 8)) (hx : x.length = 32) (hy : y.length = 32) (g h : Nat) {w : World} (h1 : Blk w g (cb x) 23) (h2 : Blk w h (cb y) 23) :
    (Extern.BytealgCompare.compare #[.slice (some ⟨g, 0, none⟩) 32 32, .slice (some ⟨h, 0, none⟩) 32 32]).run Try.prog w = .ok (.int .i64 (Lib.compareBytes (x.map UInt8.ofBitVec) (y.map UInt8.ofBitVec))) w := by
  have ld : ∀ (z : List (BitVec 8)) (b : Nat), z.length = 32 → Blk w b (cb z) 23 → (Extern.Bytes.loadBytes ⟨b, 0, none⟩ 32 .empty).run Try.prog w = .ok ⟨(z.map UInt8.ofBitVec).toArray⟩ w := by
    intro z b hz hb
    have hl := Lib.run_loadBytesX (P := Try.prog) w (z.map fun b => (b.toNat : Int)) ⟨b, 0, none⟩ .empty (fun j v hj => by
      have hjl : j < z.length := by have := (List.getElem?_eq_some_iff.1 hj).1; simpa using this
      have e : (⟨b, 0, none⟩ : Addr).add j = ⟨b, j, none⟩ := by unfold Addr.add; split <;> simp_all
      rw [e, hb.cell, cb_get z j hjl]
      rw [List.getElem?_map, List.getElem?_eq_getElem hjl] at hj
      simp only [Option.map_some, Option.some.injEq] at hj
      rw [← hj, List.getD_eq_getElem?_getD, List.getElem?_eq_getElem hjl, Option.getD_some])
    rw [List.length_map, hz, bytes_cb] at hl
    simpa using hl
  change Sem.run Try.prog (do pure (goInt (Extern.BytealgCompare.cmp (← Extern.Bytes.bytesOf (.slice (some ⟨g, 0, none⟩) 32 32)) (← Extern.Bytes.bytesOf (.slice (some ⟨h, 0, none⟩) 32 32))))) w = _
  simp only [Extern.Bytes.bytesOf, Sem.run_bind, Sem.run_pure, ld x g hx h1, ld y h hy h2, Result.andThen]
  rw [Lib.cmp_eq]
  rfl
theorem slice_dig (g : Nat) (w : World) : (Instr.sliceAt 23 (.pointer (some ⟨g, 0, none⟩)) none none none).run Try.prog w = .ok (.slice (some ⟨g, 0, none⟩) 32 32) w := by kernel_rfl
set_option maxRecDepth 100000 in
theorem bCompare_any (x y : List (BitVec 8)) (hx : x.length = 32) (hy : y.length = 32) (g h : Nat) (w : World) (h1 : Blk w g (cb x) 23) (h2 : Blk w h (cb y) 23) :
    Calls Try.prog 28 #[.slice (some ⟨g, 0, none⟩) 32 32, .slice (some ⟨h, 0, none⟩) 32 32] w fun e w' => e = .returned (.int .i64 (Lib.compareBytes (x.map UInt8.ofBitVec) (y.map UInt8.ofBitVec))) ∧ w' = w := by
  have hr := run_compareD x y hx hy g h h1 h2
  obtain ⟨c, HC⟩ : ∃ c, Hid (c = Lib.compareBytes (x.map UInt8.ofBitVec) (y.map UInt8.ofBitVec)) := ⟨_, rfl⟩
  rw [← HC.out] at hr ⊢
  go_enter Try.func28, Try.ntmps28
  go_wp2
  rw [run_callFunc_extern Try.func29 (by kernel_rfl) (by kernel_rfl) (by kernel_rfl) (e := Extern.BytealgCompare.compare) (by kernel_rfl), hr]
  simp only [Result.andThen]
  rw [Oper.upon_value]
  go_wp2
  go_ret
  exact ⟨rfl, rfl⟩
set_option maxHeartbeats 1000000 in
theorem pLess_any (x y : List (BitVec 8)) (hx : x.length = 32) (hy : y.length = 32) (w : World) : Calls Try.prog 20 #[.agg (cb x).toArray, .agg (cb y).toArray] w fun e w' => e = .returned (.bool (lessB x y)) ∧ Below w.heap.size w w' := by
  have HX : Hid (x.length = 32) := hx
  have HY : Hid (y.length = 32) := hy
  have HC : Hid (decide (Lib.compareBytes (x.map UInt8.ofBitVec) (y.map UInt8.ofBitVec) < 0) = lessB x y) := cmp_less x y (by omega)
  rw [← HC.out]
  obtain ⟨c, HCC⟩ : ∃ c, Hid (c = Lib.compareBytes (x.map UInt8.ofBitVec) (y.map UInt8.ofBitVec)) := ⟨_, rfl⟩
  rw [← HCC.out]
  clear hx hy HC
  go_enter Try.func20, Try.ntmps20
  go_wp2_with (first
    | (with_reducible refine wpSeq_boxD (.tmp 0) x ?_ ?_ ?_ ?_
       · rfl
       · rfl
       · rfl
       intro g0 w1 n1)
    | (with_reducible refine wpSeq_boxD (.tmp 1) y ?_ ?_ ?_ ?_
       · rfl
       · rfl
       · rfl
       intro g1 w2 n2
       have H0 : Hid (Blk w2 g0 (cb x) 23) := n1.blk.below n2.below n1.blk.lt
       have H1 : Hid (Blk w2 g1 (cb y) 23) := n2.blk
       have HBW : Hid (Below w.heap.size w w2) := n1.below.trans (n2.below.mono n1.below.size)
       clear n1 n2))
  refine wp_region_any (by kernel_rfl) ?_
  change wpAny _ _ _ _ _ _ _ (World.drew _)
  refine wpAny_take (i := 0) (v := .slice (some ⟨g0, 0, none⟩) 32 32) rfl (by kernel_rfl) (by kernel_rfl) (by kernel_rfl) (fun _ _ _ h => h) (Or.inl ⟨by rfl, fun wx => by simp [execOp, Act.eval, slice_dig]⟩) ?_
  simp only [Act.put, List.getElem_toArray, List.getElem_cons_zero, List.setIfInBounds_toArray, List.set_cons_zero, List.set_cons_succ]
  refine wpAny_take (i := 1) (v := .slice (some ⟨g1, 0, none⟩) 32 32) rfl (by kernel_rfl) (by kernel_rfl) (by kernel_rfl) (fun _ _ _ h => h) (Or.inl ⟨by rfl, fun wx => by simp [execOp, Act.eval, slice_dig]⟩) ?_
  simp only [Act.put, List.getElem_toArray, List.getElem_cons_succ, List.getElem_cons_zero, List.setIfInBounds_toArray, List.set_cons_zero, List.set_cons_succ]
  refine wpAny_enter 2 (by kernel_rfl) rfl (by rfl) (f := 28) (args := #[.slice (some ⟨g0, 0, none⟩) 32 32, .slice (some ⟨g1, 0, none⟩) 32 32]) (by simp [go_sem]) (bCompare_any x y HX.out HY.out g0 g1 _ H0.out.drew H1.out.drew) ?_
  rintro e wz ⟨rfl, hz⟩
  rw [hz, ← HCC.out]; clear hz wz
  refine ⟨_, rfl, ?_⟩
  simp only [Act.put, List.getElem_toArray, List.getElem_cons_succ, List.getElem_cons_zero, List.setIfInBounds_toArray, List.set_cons_zero, List.set_cons_succ]
  refine wpAny_take (i := 3) (v := .bool (decide (c < 0))) rfl (by kernel_rfl) (by kernel_rfl) (by kernel_rfl) (fun _ _ _ h => h) (Or.inl ⟨by rfl, fun wx => by simp [go_sem]⟩) ?_
  simp only [Act.put, List.getElem_toArray, List.getElem_cons_succ, List.getElem_cons_zero, List.setIfInBounds_toArray, List.set_cons_zero, List.set_cons_succ]
  refine wpAny_take (i := 4) (v := .bool (decide (c < 0))) rfl (by kernel_rfl) (by kernel_rfl) (by kernel_rfl) (fun _ _ _ h => h) (Or.inl ⟨by rfl, fun wx => by simp [go_sem]⟩) ?_
  simp only [Act.put, List.getElem_toArray, List.getElem_cons_succ, List.getElem_cons_zero, List.setIfInBounds_toArray, List.set_cons_zero, List.set_cons_succ]
  refine wpAny_done (by kernel_rfl) ?_ _
  go_wp2
  go_ret
  exact ⟨rfl, HBW.out.drew⟩
set_option maxHeartbeats 1000000 in
theorem pUnder_any (x y : List (BitVec 8)) (hx : x.length = 32) (hy : y.length = 32) (n : Int) (w : World) : Calls Try.prog 18 #[.agg (cb x).toArray, .agg (cb y).toArray, .int .i64 n] w fun e w' => e = .returned (.bool (decide (n ≤ (common x y : Int)))) ∧ Below w.heap.size w w' := by
  have HX : Hid (x.length = 32) := hx
  have HY : Hid (y.length = 32) := hy
  clear hx hy
  go_enter Try.func18, Try.ntmps18
  go_wp2_with (first
    | (with_reducible refine wpSeq_boxD (.tmp 0) x ?_ ?_ ?_ ?_
       · rfl
       · rfl
       · rfl
       intro g0 w1 n1)
    | (with_reducible refine wpSeq_boxD (.tmp 1) y ?_ ?_ ?_ ?_
       · rfl
       · rfl
       · rfl
       intro g1 w2 n2
       have H0 : Hid (Blk w2 g0 (cb x) 23) := n1.blk.below n2.below n1.blk.lt
       have H1 : Hid (Blk w2 g1 (cb y) 23) := n2.blk
       have HBW : Hid (Below w.heap.size w w2) := n1.below.trans (n2.below.mono n1.below.size)
       clear n1 n2)
    | (with_reducible refine wpSeq_loadD (.tmp 3) g0 x ?_ ?_ ?_ ?_ ?_ ?_
       · exact HX.out
       · exact H0.out
       · rfl
       · rfl
       · rfl)
    | (with_reducible refine wpSeq_loadD (.tmp 4) g1 y ?_ ?_ ?_ ?_ ?_ ?_
       · exact HY.out
       · exact H1.out
       · rfl
       · rfl
       · rfl)
    | (go_at_call 14; refine (pCommon_any x y HX.out HY.out _).mono ?_; rintro e w3 ⟨rfl, hb3⟩
       replace HBW : Hid (Below w.heap.size w w3) := HBW.out.trans (hb3.mono HBW.out.size)
       clear hb3))
  go_ret
  exact ⟨rfl, HBW.out⟩
set_option maxHeartbeats 1000000 in
theorem sUnder_any (x y : List (BitVec 8)) (hx : x.length = 32) (hy : y.length = 32) (n : Int) (w : World) : Calls Try.prog 19 #[.agg (cb x).toArray, .agg (cb y).toArray, .int .i64 n] w fun e w' => e = .returned (.bool (decide (n ≤ (common x y : Int)))) ∧ Below w.heap.size w w' := by
  have HX : Hid (x.length = 32) := hx
  have HY : Hid (y.length = 32) := hy
  clear hx hy
  go_enter Try.func19, Try.ntmps19
  go_wp2_with (first
    | (with_reducible refine wpSeq_boxD (.tmp 0) x ?_ ?_ ?_ ?_
       · rfl
       · rfl
       · rfl
       intro g0 w1 n1)
    | (with_reducible refine wpSeq_boxD (.tmp 1) y ?_ ?_ ?_ ?_
       · rfl
       · rfl
       · rfl
       intro g1 w2 n2
       have H0 : Hid (Blk w2 g0 (cb x) 23) := n1.blk.below n2.below n1.blk.lt
       have H1 : Hid (Blk w2 g1 (cb y) 23) := n2.blk
       have HBW : Hid (Below w.heap.size w w2) := n1.below.trans (n2.below.mono n1.below.size)
       clear n1 n2)
    | (with_reducible refine wpSeq_loadD (.tmp 3) g0 x ?_ ?_ ?_ ?_ ?_ ?_
       · exact HX.out
       · exact H0.out
       · rfl
       · rfl
       · rfl)
    | (with_reducible refine wpSeq_loadD (.tmp 4) g1 y ?_ ?_ ?_ ?_ ?_ ?_
       · exact HY.out
       · exact H1.out
       · rfl
       · rfl
       · rfl)
    | (go_at_call 15; refine (sCommon_any x y HX.out HY.out _).mono ?_; rintro e w3 ⟨rfl, hb3⟩
       replace HBW : Hid (Below w.heap.size w w3) := HBW.out.trans (hb3.mono HBW.out.size)
       clear hb3))
  go_ret
  exact ⟨rfl, HBW.out⟩
structure SlI (x y : List (BitVec 8)) (g0 g1 : Nat) (w : World) (k : Nat) (W : World) : Prop where
  b0 : Blk W g0 (cb x) 23
  b1 : Blk W g1 (cb y) 23
  bel : Below w.heap.size w W
  eq : ∀ j, j < k → x.getD j 0 = y.getD j 0
theorem SlI.drew {x y : List (BitVec 8)} {g0 g1 k : Nat} {w W : World} (h : SlI x y g0 g1 w k W) : SlI x y g0 g1 w k W.drew := ⟨h.b0.drew, h.b1.drew, h.bel.drew, h.eq⟩
set_option maxRecDepth 100000 in
set_option maxHeartbeats 2000000 in
theorem sLess_any (x y : List (BitVec 8)) (hx : x.length = 32) (hy : y.length = 32) (w : World) : Calls Try.prog 21 #[.agg (cb x).toArray, .agg (cb y).toArray] w fun e w' => e = .returned (.bool (lessB x y)) ∧ Below w.heap.size w w' := by
  have HX : Hid (x.length = 32) := hx
  have HY : Hid (y.length = 32) := hy
  clear hx hy
  obtain ⟨o, HO⟩ : ∃ o, Hid (o = lessB x y) := ⟨_, rfl⟩
  rw [← HO.out]
  go_enter Try.func21, Try.ntmps21
  go_wp2_with (first
    | (with_reducible refine wpSeq_boxD (.tmp 0) x ?_ ?_ ?_ ?_
       · rfl
       · rfl
       · rfl
       intro g0 w1 n1)
    | (with_reducible refine wpSeq_boxD (.tmp 1) y ?_ ?_ ?_ ?_
       · rfl
       · rfl
       · rfl
       intro g1 w2 n2
       have HI : Hid (SlI x y g0 g1 w 0 w2) := ⟨n1.blk.below n2.below n1.blk.lt, n2.blk, n1.below.trans (n2.below.mono n1.below.size), by omega⟩
       clear n1 n2))
  go_loopw [5] (fun i wr => ∃ k : Nat, k ≤ 32 ∧ i = .int .i64 (k : Int) ∧ SlI x y g0 g1 w k wr) (fun i _ => 32 - (intOf i).toNat)
  case atStart => exact ⟨0, by omega, rfl, HI.out⟩
  case round =>
    clear HI
    obtain ⟨k, hk, rfl, hI⟩ := hrel
    have HI : Hid (SlI x y g0 g1 w k wr) := hI
    clear hI
    by_cases hlt : k < 32
    · have k0 : (0 : Int) ≤ (k : Int) := by omega
      have k1 : (k : Int) < 32 := by omega
      obtain ⟨a, HA⟩ : ∃ a, Hid (a = x.getD k 0) := ⟨_, rfl⟩
      obtain ⟨b, HB⟩ : ∃ b, Hid (b = y.getD k 0) := ⟨_, rfl⟩
      have hca : wr.cell? ⟨g0, k, none⟩ = some (.int .u8 (a.toNat : Int)) := by rw [HI.out.b0.cell, cb_get x k (by rw [HX.out]; exact hlt), HA.out]
      have hcb : wr.cell? ⟨g1, k, none⟩ = some (.int .u8 (b.toNat : Int)) := by rw [HI.out.b1.cell, cb_get y k (by rw [HY.out]; exact hlt), HB.out]
      have f5 : IntKind.i64.wrap ((k : Int) + 1) = (k : Int) + 1 := wrap_small _ (by omega) (by omega)
      have HLT : Hid (k < 32) := hlt
      clear hlt hk
      by_cases heq : a = b
      · have HE : Hid (∀ j, j < k + 1 → x.getD j 0 = y.getD j 0) := by
          intro j hj
          rcases Nat.lt_or_ge j k with h | h
          · exact HI.out.eq j h
          · obtain rfl : j = k := by omega
            rw [← HA.out, ← HB.out, heq]
        subst heq
        go_wp2_with fail
        go_region_held3 (fun wx => wx.cell? ⟨g0, k, none⟩ = some (.int .u8 (a.toNat : Int)) ∧ wx.cell? ⟨g1, k, none⟩ = some (.int .u8 (a.toNat : Int))) (go_keep) (fail)
        go_wp2
        go_roundw
        case rel => exact ⟨k + 1, by have := HLT.out; omega, by simp, HI.out.drew.b0, HI.out.drew.b1, HI.out.drew.bel, HE.out⟩
        case measure => simp [intOf]; omega
      · have hne : (a.toNat : Int) ≠ (b.toNat : Int) := fun h => heq (BitVec.eq_of_toNat_eq (by omega))
        have hne2 : ((a.toNat : Int) != (b.toNat : Int)) = true := by rw [bne_iff_ne]; exact hne
        have HR : Hid (o = decide ((a.toNat : Int) < (b.toNat : Int))) := by
          show _ = _
          rw [HO.out, lessB_at k x y (by rw [HX.out, HY.out]) (by rw [HX.out]; exact HLT.out) HI.out.eq (by rw [← HA.out, ← HB.out]; exact heq), ← HA.out, ← HB.out, decide_eq_decide]
          omega
        clear heq hne
        go_wp2_with fail
        go_region_held3 (fun wx => wx.cell? ⟨g0, k, none⟩ = some (.int .u8 (a.toNat : Int)) ∧ wx.cell? ⟨g1, k, none⟩ = some (.int .u8 (b.toNat : Int))) (go_keep) (fail)
        go_wp2_with fail
        have HBL : Hid (Below w.heap.size w wr.drew) := HI.out.bel.drew
        have hca2 : wr.drew.cell? ⟨g0, k, none⟩ = some (.int .u8 (a.toNat : Int)) := hca
        have hcb2 : wr.drew.cell? ⟨g1, k, none⟩ = some (.int .u8 (b.toNat : Int)) := hcb
        clear hca hcb HI
        generalize wr.drew = wq at *
        go_region_held3 (fun wx => wx.cell? ⟨g0, k, none⟩ = some (.int .u8 (a.toNat : Int)) ∧ wx.cell? ⟨g1, k, none⟩ = some (.int .u8 (b.toNat : Int))) (go_keep) (fail)
        go_wp2
        go_ret
        exact ⟨by rw [HR.out]; simp, HBL.out.drew⟩
    · have hk32 : k = 32 := by omega
      subst hk32
      have HR : Hid (o = false) := by show _ = _; rw [HO.out]; exact lessB_none x y (by rw [HX.out, HY.out]) (fun j hj => HI.out.eq j (by rw [HX.out] at hj; exact hj))
      go_wp2
      go_ret
      exact ⟨by rw [HR.out]; rfl, HI.out.bel⟩
end Go.Proofs.Ythjkihbobdollaa

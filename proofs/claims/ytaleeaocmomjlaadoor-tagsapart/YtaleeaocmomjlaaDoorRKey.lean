/- The walk of blazonref02.Key: the key's block, each byte turned. -/
import Derived.Test.YtaleeaocmomjlaaDoorMacPlain
import Derived.Test.YtaleeaocmomjlaaDoorRSum
import Derived.Test.YtaleeaocmomjlaaDoorMakeN
import Derived.Test.YtaleeaocmomjlaaDoorLists
namespace Go.Proofs.YtaleeaocmomjlaaDoor
open Go.RowKit
/-- the first i bytes of L, noughts behind -/
def fillZ (L : List (BitVec 8)) (i : Nat) : List (BitVec 8) := L.take i ++ List.replicate (L.length - i) 0
theorem len_fillZ (L : List (BitVec 8)) (i : Nat) : (fillZ L i).length = L.length := by simp [fillZ]; omega
theorem fillZ_set (L : List (BitVec 8)) (i : Nat) (h : i < L.length) : (fillZ L i).set i (L.getD i 0) = fillZ L (i + 1) := by
  have e : (L.take i).length = i := by simp; omega
  rw [fillZ, List.set_append_right _ _ (by omega), e, Nat.sub_self, show L.length - i = (L.length - (i + 1)) + 1 by omega, List.replicate_succ, List.set_cons_zero, fillZ, List.take_add_one, List.getElem?_eq_getElem h, show L.getD i 0 = L[i] by simp [h]]
  simp only [Option.toList_some, List.append_assoc, List.cons_append, List.nil_append]
theorem fillZ_all (L : List (BitVec 8)) (i : Nat) (h : L.length ≤ i) : fillZ L i = L := by simp [fillZ, List.take_of_length_le h, Nat.sub_eq_zero_of_le h]
theorem turn_in (t : BitVec 8) (k : List (BitVec 8)) (i : Nat) (h : i < k.length) : (turnB t (kpad k)).getD i 0 = k.getD i 0 ^^^ t := by
  rw [turnB, List.getD_eq_getElem?_getD, List.getElem?_map, kpad, List.getElem?_append_left h]
  simp [h]
theorem turn_out (t : BitVec 8) (k : List (BitVec 8)) (i : Nat) (h : ¬ i < k.length) (h2 : i < 64) : (turnB t (kpad k)).getD i 0 = t := by
  rw [turnB, List.getD_eq_getElem?_getD, List.getElem?_map, kpad, List.getElem?_append_right (by omega), List.getElem?_replicate]
  rw [if_pos (by omega)]
  simp
set_option maxRecDepth 100000 in
set_option maxHeartbeats 1000000 in
theorem rkey_any (v : Value) (key : List (BitVec 8)) (t : BitVec 8) (w : World) (hR : Reads w v key) (hl : key.length < 140737488350000) :
    Calls Tryd.prog 51 #[v, .int .u8 (t.toNat : Int)] w fun e w' => ∃ v', e = .returned v' ∧ Reads w' v' (turnB t (kblock key)) ∧ Below w.heap.size w w' := by
  have HR : Hid (Reads w v key) := hR
  obtain ⟨ad, cap, hv, hcap, _, _⟩ := hR
  have hmk : ∀ wx, (Instr.makeSlice 24 (.int .i64 64) (.int .i64 64)).run Tryd.prog wx = .ok (.slice (some ⟨wx.heap.size, 0, none⟩) 64 64) (wx.alloc (.cells (cb zb64).toArray 5)) := fun wx => make_n .i64 64 (by omega) wx
  by_cases h64 : 64 < key.length
  · have HKB : Hid (kblock key = kpad (dig key)) := kblock_long h64
    obtain ⟨n, HNN⟩ : ∃ n, Hid (n = key.length) := ⟨_, rfl⟩
    rw [← HNN.out] at hv h64 hl
    subst hv
    go_enter Tryd.func51, Tryd.ntmps51
    go_wp2_with fail
    refine (rsum_any _ key _ HR.out (by rw [← HNN.out]; exact hl)).mono ?_
    rintro e w1 ⟨rfl, hb1⟩
    obtain ⟨ds, HDS⟩ : ∃ x, Hid (x = cb (dig key)) := ⟨_, rfl⟩
    have HL : Hid (ds.length = 32) := by show _ = _; rw [HDS.out, cb_len, len_dig']
    have HZ : Hid ((Tryd.prog.info? 23).map (·.size) = some ds.length) := by show _ = _; rw [HL.out]; exact Tryd.info23
    have H1 : Hid (∀ v ∈ ds, v.oneCell' = true) := by show ∀ _, _; rw [HDS.out]; exact cb_one _
    rw [← HDS.out]
    go_wp2_with (refine wpList_store_mid rfl 23 _ _ rfl _ 0 ds.toArray rfl rfl ?_ (by simpa using HZ.out) (all_oneCell_toArray H1.out) ?_; exact Blk.there (Blk.new_at rfl (cb zb32) _) _ _ (by rw [List.size_toArray, HL.out, cb_len, len_zb32]; omega); refine Hid.out ?_)
    generalize h0 : Obj.cells _ 23 = o32
    have ho : o32 = Obj.cells (cb zb32).toArray 23 := h0.symm
    clear h0
    subst ho
    have hD : Blk ((w1.alloc (.cells (cb zb32).toArray 23)).setCells w1.heap.size 0 ds) w1.heap.size (cb (dig key)) 23 := by
      rw [← HDS.out]
      exact (Blk.new w1 (cb zb32) 23).whole ds (by rw [HL.out, cb_len, len_zb32])
    have hB2 : Below w.heap.size w ((w1.alloc (.cells (cb zb32).toArray 23)).setCells w1.heap.size 0 ds) := Below.setCells _ hb1.size _ _ _ (hb1.alloc hb1.size _)
    generalize World.setCells _ _ _ _ = wk at *
    generalize w1.heap.size = g1 at *
    have HRK : Hid (Reads wk (.slice (some ⟨g1, 0, none⟩) 32 32) (dig key)) := hD.reads (len_dig' _).symm (by rw [len_dig']; omega)
    have HKL : Hid ((dig key).length = 32) := len_dig' _
    clear hb1 hD HDS HL HZ H1 HNN HR hl h64 hcap
    generalize dig key = kk at *
    unfold Hid
    go_wp2
    try (generalize h0 : Obj.cells _ 5 = o64 at *; have ho : o64 = Obj.cells (cb zb64).toArray 5 := h0.symm; clear h0; subst ho)
    obtain ⟨L, HLL⟩ : ∃ x, Hid (x = turnB t (kpad kk)) := ⟨_, rfl⟩
    have HLn : Hid (L.length = 64) := by show _ = _; rw [HLL.out, len_turnB, len_kpad _ (by have := HKL.out; omega)]
    go_loopw [7] (fun i wr => ∃ j : Nat, j ≤ 64 ∧ i = .int .i64 j ∧ Blk wr wk.heap.size (cb (fillZ L j)) 5 ∧ Below wk.heap.size wk wr) (fun i _ => 64 - (intOf i).toNat)
    case atStart =>
      refine ⟨0, by omega, rfl, ?_, below_alloc _ _⟩
      have h := Blk.new wk (cb zb64) 5
      have e : fillZ L 0 = zb64 := by simp [fillZ, HLn.out, zb64]
      rw [e]; exact h
    case round =>
      obtain ⟨j, hj, rfl, hB, hbel⟩ := hrel
      by_cases hlt : j < 64
      · obtain ⟨o, cT⟩ : ∃ o, wr.cell? ⟨wk.heap.size, j, none⟩ = some o := ⟨_, by rw [hB.cell, cb_get _ _ (by rw [len_fillZ, HLn.out]; omega)]⟩
        have fT : wr.frozen? ⟨wk.heap.size, j, none⟩ = false := hB.frozen _
        have HB : Hid (Blk wr wk.heap.size (cb (fillZ L j)) 5) := hB
        clear hB
        by_cases hjk : j < 32
        · have hjk' : decide ((j : Int) < 32) = true := by simp; omega
          obtain ⟨x, HX⟩ : ∃ x, Hid (x = kk.getD j 0) := ⟨_, rfl⟩
          obtain ⟨ad', cap', hv', _, _, hx⟩ := HRK.out.below hbel
          simp only [Value.slice.injEq] at hv'
          obtain ⟨hv1, hv2, hv3⟩ := hv'
          obtain ⟨b, off, hb, hc⟩ := hx (by have := HKL.out; omega)
          have cx := hc j (by have := HKL.out; omega)
          rw [← HX.out] at cx
          have hne : b ≠ wk.heap.size := by
            obtain ⟨ad2, cap2, hv2', _, _, hx2⟩ := HRK.out
            simp only [Value.slice.injEq] at hv2'
            obtain ⟨b2, off2, hb2, hc2⟩ := hx2 (by have := HKL.out; omega)
            have h1 := block_lt_of_cell (hc2 j (by have := HKL.out; omega))
            have h2 : (⟨b, off, none⟩ : Addr) = ⟨b2, off2, none⟩ := by
              have := hv1.trans hb
              rw [hv2'.1, hb2] at this
              exact (Option.some.inj this).symm
            simp only [Addr.mk.injEq, and_true] at h2
            have h3 : b2 < wk.heap.size := h1
            omega
          subst hb
          clear hx hc
          cases hv1
          simp only [Nat.zero_add] at cx
          have hset : ((cb (fillZ L j)).set j (.int .u8 (t.toNat : Int))).set j (.int .u8 ((x ^^^ t).toNat : Int)) = cb (fillZ L (j + 1)) := by
            rw [cb_set, cb_set, List.set_set, HX.out, ← turn_in t kk j (by have := HKL.out; omega), ← HLL.out, fillZ_set L j (by have := HLn.out; omega)]
          have HSET : Hid (Blk ((wr.setCell ⟨wk.heap.size, j, none⟩ (.int .u8 (t.toNat : Int))).setCell ⟨wk.heap.size, j, none⟩ (.int .u8 ((x.toNat ^^^ t.toNat : Nat) : Int))) wk.heap.size (cb (fillZ L (j + 1))) 5) := by
            have h := (HB.out.set j (.int .u8 (t.toNat : Int))).set j (.int .u8 ((x ^^^ t).toNat : Int))
            rw [hset, BitVec.toNat_xor] at h
            exact h
          have hxr := xor_byte x t
          clear hv2 hv3 hset
          go_wp2
          exact ⟨⟨j + 1, by omega, by go_num, HSET.out, (hbel.setCell (Nat.le_refl _) _).setCell (Nat.le_refl _) _⟩, by simp [intOf]; omega⟩
        · have hjk' : decide ((j : Int) < 32) = false := by simp; omega
          have e : L.getD j 0 = t := by rw [HLL.out]; exact turn_out t kk j (by have := HKL.out; omega) hlt
          have HSET : Hid (Blk (wr.setCell ⟨wk.heap.size, j, none⟩ (.int .u8 (t.toNat : Int))) wk.heap.size (cb (fillZ L (j + 1))) 5) := by
            have h := HB.out.set j (.int .u8 (t.toNat : Int))
            rw [cb_set] at h
            rw [← fillZ_set L j (by have := HLn.out; omega), e]
            exact h
          clear e
          go_wp2
          exact ⟨⟨j + 1, by omega, by go_num, HSET.out, hbel.setCell (Nat.le_refl _) _⟩, by simp [intOf]; omega⟩
      · have hj64 : j = 64 := by omega
        subst hj64
        rw [fillZ_all L 64 (by have := HLn.out; omega)] at hB
        have HV : Hid (Reads wr (.slice (some ⟨wk.heap.size, 0, none⟩) 64 64) (turnB t (kblock key))) := by
          show Reads _ _ _
          rw [HKB.out, ← HLL.out]
          exact hB.reads HLn.out.symm (by have := HLn.out; omega)
        have hbe : Below w.heap.size w wr := hB2.trans (hbel.mono hB2.size)
        clear hB hbel hlt hj
        go_wp2
        go_ret
        exact ⟨_, rfl, HV.out, hbe⟩
  · have HKB : Hid (kblock key = kpad key) := kblock_short h64
    obtain ⟨n, HNN⟩ : ∃ n, Hid (n = key.length) := ⟨_, rfl⟩
    rw [← HNN.out] at hv h64
    subst hv
    have hB2 : Below w.heap.size w w := Below.refl _ _
    have HRK : Hid (Reads w (.slice ad n cap) key) := HR
    have HKL : Hid (key.length = n) := HNN.out.symm
    have hn64 : n ≤ 64 := by omega
    clear HR hl hcap HNN h64
    go_enter Tryd.func51, Tryd.ntmps51
    go_wp2
    try (generalize h0 : Obj.cells _ 5 = o64 at *; have ho : o64 = Obj.cells (cb zb64).toArray 5 := h0.symm; clear h0; subst ho)
    obtain ⟨L, HLL⟩ : ∃ x, Hid (x = turnB t (kpad key)) := ⟨_, rfl⟩
    have HLn : Hid (L.length = 64) := by show _ = _; rw [HLL.out, len_turnB, len_kpad _ (by have := HKL.out; omega)]
    go_loopw [7] (fun i wr => ∃ j : Nat, j ≤ 64 ∧ i = .int .i64 j ∧ Blk wr w.heap.size (cb (fillZ L j)) 5 ∧ Below w.heap.size w wr) (fun i _ => 64 - (intOf i).toNat)
    case atStart =>
      refine ⟨0, by omega, rfl, ?_, below_alloc _ _⟩
      have h := Blk.new w (cb zb64) 5
      have e : fillZ L 0 = zb64 := by simp [fillZ, HLn.out, zb64]
      rw [e]; exact h
    case round =>
      obtain ⟨j, hj, rfl, hB, hbel⟩ := hrel
      by_cases hlt : j < 64
      · obtain ⟨o, cT⟩ : ∃ o, wr.cell? ⟨w.heap.size, j, none⟩ = some o := ⟨_, by rw [hB.cell, cb_get _ _ (by rw [len_fillZ, HLn.out]; omega)]⟩
        have fT : wr.frozen? ⟨w.heap.size, j, none⟩ = false := hB.frozen _
        have HB : Hid (Blk wr w.heap.size (cb (fillZ L j)) 5) := hB
        clear hB
        by_cases hjk : j < n
        · have hjk' : decide ((j : Int) < (n : Int)) = true := by simp; omega
          obtain ⟨x, HX⟩ : ∃ x, Hid (x = key.getD j 0) := ⟨_, rfl⟩
          obtain ⟨ad', cap', hv', _, _, hx⟩ := HRK.out.below hbel
          simp only [Value.slice.injEq] at hv'
          obtain ⟨hv1, hv2, hv3⟩ := hv'
          obtain ⟨b, off, hb, hc⟩ := hx (by have := HKL.out; omega)
          have cx := hc j (by have := HKL.out; omega)
          rw [← HX.out] at cx
          have hne : b ≠ w.heap.size := by
            obtain ⟨ad2, cap2, hv2', _, _, hx2⟩ := HRK.out
            simp only [Value.slice.injEq] at hv2'
            obtain ⟨b2, off2, hb2, hc2⟩ := hx2 (by have := HKL.out; omega)
            have h1 := block_lt_of_cell (hc2 j (by have := HKL.out; omega))
            have h2 : (⟨b, off, none⟩ : Addr) = ⟨b2, off2, none⟩ := by
              have := hv1.trans hb
              rw [hv2'.1, hb2] at this
              exact (Option.some.inj this).symm
            simp only [Addr.mk.injEq, and_true] at h2
            have h3 : b2 < w.heap.size := h1
            omega
          subst hb
          clear hx hc
          subst hv1
          have hset : ((cb (fillZ L j)).set j (.int .u8 (t.toNat : Int))).set j (.int .u8 ((x ^^^ t).toNat : Int)) = cb (fillZ L (j + 1)) := by
            rw [cb_set, cb_set, List.set_set, HX.out, ← turn_in t key j (by have := HKL.out; omega), ← HLL.out, fillZ_set L j (by have := HLn.out; omega)]
          have HSET : Hid (Blk ((wr.setCell ⟨w.heap.size, j, none⟩ (.int .u8 (t.toNat : Int))).setCell ⟨w.heap.size, j, none⟩ (.int .u8 ((x.toNat ^^^ t.toNat : Nat) : Int))) w.heap.size (cb (fillZ L (j + 1))) 5) := by
            have h := (HB.out.set j (.int .u8 (t.toNat : Int))).set j (.int .u8 ((x ^^^ t).toNat : Int))
            rw [hset, BitVec.toNat_xor] at h
            exact h
          have hxr := xor_byte x t
          clear hv2 hv3 hset
          go_wp2
          exact ⟨⟨j + 1, by omega, by go_num, HSET.out, (hbel.setCell (Nat.le_refl _) _).setCell (Nat.le_refl _) _⟩, by simp [intOf]; omega⟩
        · have hjk' : decide ((j : Int) < (n : Int)) = false := by simp; omega
          have e : L.getD j 0 = t := by rw [HLL.out]; exact turn_out t key j (by have := HKL.out; omega) hlt
          have HSET : Hid (Blk (wr.setCell ⟨w.heap.size, j, none⟩ (.int .u8 (t.toNat : Int))) w.heap.size (cb (fillZ L (j + 1))) 5) := by
            have h := HB.out.set j (.int .u8 (t.toNat : Int))
            rw [cb_set] at h
            rw [← fillZ_set L j (by have := HLn.out; omega), e]
            exact h
          clear e
          go_wp2
          exact ⟨⟨j + 1, by omega, by go_num, HSET.out, hbel.setCell (Nat.le_refl _) _⟩, by simp [intOf]; omega⟩
      · have hj64 : j = 64 := by omega
        subst hj64
        rw [fillZ_all L 64 (by have := HLn.out; omega)] at hB
        have HV : Hid (Reads wr (.slice (some ⟨w.heap.size, 0, none⟩) 64 64) (turnB t (kblock key))) := by
          show Reads _ _ _
          rw [HKB.out, ← HLL.out]
          exact hB.reads HLn.out.symm (by have := HLn.out; omega)
        have hbe : Below w.heap.size w wr := hB2.trans (hbel.mono hB2.size)
        clear hB hbel hlt hj
        go_wp2
        go_ret
        exact ⟨_, rfl, HV.out, hbe⟩
end Go.Proofs.YtaleeaocmomjlaaDoor
